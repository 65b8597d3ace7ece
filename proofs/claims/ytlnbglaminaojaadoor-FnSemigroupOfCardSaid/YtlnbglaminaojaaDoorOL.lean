/-
  OfI.
-/
import Derived.RangeFuncBox
import Derived.Test.YtlnbglaminaojaaDoorOG
import Derived.Test.YtlnbglaminaojaaDoorOI
import Derived.Test.YtlnbglaminaojaaDoorOK
namespace Go.Proofs.YtlnbglaminaojaaDoor
set_option maxRecDepth 100000
set_option linter.unusedVariables false
set_option linter.unusedSimpArgs false
set_option linter.unusedSectionVars false

/-! slices.Clone over charts, impl.generated, impl.SemigroupOf. -/
section
open Go.RowKit Go.Maps

/-- what was reached, and not too many: placed, it is the whole -/
theorem whole_of {zs all S : List (List Int)} {m : Nat} (hR : Rchd (facs zs) (nxR zs) all) (h4 : all.length ≤ 400) (hp : Placed all S) (hz : ∀ L ∈ all, isC L = true ∧ L.length = m) : Whole zs S := by
  have hm : ∀ L, L ∈ S ↔ L ∈ all := fun L => hp.perm.mem_iff
  obtain ⟨h1, h2⟩ := hR.ends h4
  exact ⟨placed_sorted hp hR.nodup hz, by rw [hp.perm.length_eq]; exact h4, fun P p1 p2 L hL => hR.from_ P p1 p2 L ((hm L).1 hL), fun L hL => (hm L).2 (h1 L hL), fun L hL M hM => (hm M).2 (h2 L ((hm L).1 hL) M hM)⟩
theorem whole_not {zs all : List (List Int)} (hR : Rchd (facs zs) (nxR zs) all) (h4 : 400 < all.length) : ¬ ∃ out, Whole zs out := by
  rintro ⟨out, hw⟩
  have : all ⊆ out := fun L hL => hR.from_ (fun L => L ∈ out) hw.st hw.cl L hL
  have := hR.nodup.length_le_of_subset this
  have := hw.most
  omega

theorem chs_cells {W : World} {g m : Nat} {ls : List (List Int)} (h : Chs W g m ls) : ∀ j u, (cwc m ls)[j]? = some u → W.cell? ((⟨g, 0, none⟩ : Addr).add j) = some u := fun j u hu => by
  have hj : j < ls.length * 7 := by
    have := (List.getElem?_eq_some_iff.1 hu).1
    rwa [cwc_len] at this
  have ht : j / 7 < ls.length := by omega
  obtain ⟨L, hL⟩ : ∃ L, ls[j / 7]? = some L := ⟨_, List.getElem?_eq_getElem ht⟩
  have e1 := cwc_get m ls (j / 7) L hL (j % 7) (by omega)
  rw [show j / 7 * 7 + j % 7 = j by omega, hu] at e1
  have e2 := h (j / 7) L hL (j % 7) u e1.symm
  rw [show j / 7 * 7 + j % 7 = j by omega] at e2
  have ea : (⟨g, 0, none⟩ : Addr).add j = ⟨g, j, none⟩ := by unfold Addr.add; split <;> simp_all
  rw [ea]; exact e2
theorem boxed_keep {W W0 W1 : World} {B : Nat} {t : TypeId} {v : Value} (hb : Below W0.heap.size W0 W1) (h : Boxed W B t v) (e : W0.heap = W.heap) : Boxed W1 B t v := by
  have h0 : W0.heap[B]? = some (.cells #[v] t (0, 0)) := by rw [e]; exact h
  exact (hb.block B (Array.getElem?_eq_some_iff.1 h0).1).trans h0

set_option maxHeartbeats 1000000 in
theorem clone_any (g cp q m : Nat) (ls : List (List Int)) (hn : ls.length = q + 1) (hn6 : q + 1 ≤ 1048576) (w : World) (hg : g < w.heap.size) (hR : Chs w g m ls) :
    Calls Tryd.prog 51 #[.slice (some ⟨g, 0, none⟩) (q + 1) cp] w fun e w' => ∃ v, e = .returned v ∧ w'.ownsRow w.heap.size 45 7 v ls.length (cwc m ls) ∧ Below w.heap.size w w' := by
  obtain ⟨i1, hj, hj0, hj1, hj2⟩ := info_parts info_chart7
  have hL0 : (w.alloc (.cells #[] 45)).ownsRow w.heap.size 45 7 (.slice (some ⟨w.heap.size, 0, none⟩) 0 0) 0 [] := World.ownsRow_lit (base := w.heap.size) (e := 45) (size := 7) w #[] 0 (Nat.le_refl _) (by simp [maxLen]) rfl
  have hB0 : Below w.heap.size w (w.alloc (.cells #[] 45)) := (Below.refl _ w).alloc (Nat.le_refl _) _
  have hcl := chs_cells (hR.same (hB0.block g hg))
  have hcn : (cwc m ls).length = (q + 1) * 7 := by rw [cwc_len, hn]
  have p1 : 0 + (q + 1) ≤ maxLen := by unfold maxLen; omega
  have p2 : (0 + (q + 1)) * 56 ≤ 140737488355328 := by omega
  have p3 : w.heap.size ≤ (w.alloc (.cells #[] 45)).heap.size := by simp
  have HN := Lib.hid hn
  have HCN := Lib.hid hcn
  clear hR hn hcn
  have hnil : ∀ W : World, (binOp .eql 50 (.slice (some ⟨g, 0, none⟩) (q + 1) cp) (.slice none 0 0)).run Tryd.prog W = .ok (.bool false) W := fun W => by
    rw [Lib.run_eql_slice_nil W 50 45 _ _ _ _ _ Tryd.underlying50]; rfl
  go_enter Tryd.func51, Tryd.ntmps51
  go_wp2_with (at_builtin; refine wpList_append_own _ rfl _ _ 50 rfl w.heap.size 45 i1 (.agg #[.int .i64 ((0 : Int)), .int .i64 ((fun _ => (0 : Int)) 0), .int .i64 ((fun _ => (0 : Int)) 1), .int .i64 ((fun _ => (0 : Int)) 2), .int .i64 ((fun _ => (0 : Int)) 3), .int .i64 ((fun _ => (0 : Int)) 4), .int .i64 ((fun _ => (0 : Int)) 5)]) 7 56 Tryd.underlying50 hj hj0 hj1 hj2 rfl (by decide) (.slice (some ⟨w.heap.size, 0, none⟩) 0 0) 0 [] rfl hL0 ⟨g, 0, none⟩ (q + 1) cp (cwc m ls) rfl HCN.out hcl (cwc_one _ _) p1 p2 p3 ?_; intro v' w4 hown' hgrow _)
  go_ret
  exact ⟨_, rfl, by rw [HN.out]; simpa using hown', hB0.grown hgrow p3 (fun k e => (hL0.lt k e).1)⟩
set_option maxHeartbeats 2000000 in
theorem gen1_any (m P lo : Nat) (fs : List (List Int)) (vf : Value) (hfs : ∀ L ∈ fs, isC L = true ∧ L.length = m) (hle : fs.length ≤ 1048576) (L : List Int) (hLz : isC L = true ∧ L.length = m) (w : World) (hP : w.cell? ⟨P, 0, none⟩ = some vf) (hown : w.ownsRow lo 45 7 vf fs.length (cwc m fs)) :
    Calls Tryd.prog 54 #[.agg #[.int .i64 ((m : Int)), .int .i64 (ofL L 0), .int .i64 (ofL L 1), .int .i64 (ofL L 2), .int .i64 (ofL L 3), .int .i64 (ofL L 4), .int .i64 (ofL L 5)], .pointer (some ⟨P, 0, none⟩)] w fun e w' => ∃ v Ms, e = .returned v ∧ w'.ownsRow w.heap.size 45 7 v Ms.length (cwc m Ms) ∧ Ms.length ≤ fs.length ∧ (∀ M, M ∈ Ms ↔ ∃ d ∈ fs, M = tiL L d) ∧ Below w.heap.size w w' := by
  obtain ⟨i1, hj, hj0, hj1, hj2⟩ := info_parts info_chart7
  have HZ := Lib.hid hfs
  have hB0 : Below w.heap.size w (w.alloc (.cells #[.int .i64 ((m : Int)), .int .i64 (ofL L 0), .int .i64 (ofL L 1), .int .i64 (ofL L 2), .int .i64 (ofL L 3), .int .i64 (ofL L 4), .int .i64 (ofL L 5)] 45)) := (Below.refl _ w).alloc (Nat.le_refl _) _
  have hC0 := Cb.new w (m : Int) (ofL L)
  have hP0 := (World.cell?_alloc_lt w (.cells #[.int .i64 ((m : Int)), .int .i64 (ofL L 0), .int .i64 (ofL L 1), .int .i64 (ofL L 2), .int .i64 (ofL L 3), .int .i64 (ofL L 4), .int .i64 (ofL L 5)] 45) ⟨P, 0, none⟩ (block_lt_of_cell hP)).trans hP
  obtain ⟨A1, c1, rfl⟩ := own_shape hown
  have HOW := Lib.hid hown
  clear hfs hown hP
  go_enter Tryd.func54, Tryd.ntmps54
  go_wp2
  clear hP0
  go_loopw [4, 9] (fun va s wr => ∃ k : Nat, k ≤ fs.length ∧ s = .int .i64 (k : Int) ∧ wr.ownsRow (w.heap.size + 1) 45 7 va k (cwc m ((fs.take k).map (tiL L))) ∧ Cb wr w.heap.size (m : Int) (ofL L) ∧ w.heap.size + 1 ≤ wr.heap.size ∧ Below w.heap.size w wr) (fun _ s _ => fs.length - (intOf s).toNat)
  case atStart => exact ⟨0, Nat.zero_le _, rfl, World.ownsRow_nil _ _ _ _, hC0, by simp, hB0⟩
  case round =>
    clear hC0 hB0
    obtain ⟨k, hk, rfl, hrow, hC, hsz, hB⟩ := hrel
    by_cases hlt : k < fs.length
    · obtain ⟨M, hM⟩ : ∃ M, fs[k]? = some M := ⟨_, List.getElem?_eq_getElem hlt⟩
      have hr1 := own_below HOW.out hB
      obtain ⟨g1, cp1, hv, _, hg1⟩ := hr1.form (by omega)
      injection hv with hv1 _ hv3
      subst hv1
      have hC1 : Chs wr g1 m fs := Chs.of_own hr1
      obtain ⟨d0, d1, d2, d3, d4, d5, d6⟩ := hC1.all hM
      have hMz := HZ.out M (List.mem_of_getElem? hM)
      have HT : Hid ((fs.take (k + 1)).map (tiL L) = (fs.take k).map (tiL L) ++ [tiL L M]) := by show _ = _; rw [List.take_add_one, hM, List.map_append]; rfl
      have hB2 := hB.alloc hB.size (.cells #[.int .i64 ((m : Int)), .int .i64 (ofL M 0), .int .i64 (ofL M 1), .int .i64 (ofL M 2), .int .i64 (ofL M 3), .int .i64 (ofL M 4), .int .i64 (ofL M 5)] 45)
      have hC2 := hC.alloc (.cells #[.int .i64 ((m : Int)), .int .i64 (ofL M 0), .int .i64 (ofL M 1), .int .i64 (ofL M 2), .int .i64 (ofL M 3), .int .i64 (ofL M 4), .int .i64 (ofL M 5)] 45)
      have hrow2 := hrow.alloc (.cells #[.int .i64 ((m : Int)), .int .i64 (ofL M 0), .int .i64 (ofL M 1), .int .i64 (ofL M 2), .int .i64 (ofL M 3), .int .i64 (ofL M 4), .int .i64 (ofL M 5)] 45)
      obtain ⟨a0, a1, a2, a3, a4, a5, a6⟩ := hC2.all
      obtain ⟨b0, b1, b2, b3, b4, b5, b6⟩ := (Cb.new wr (m : Int) (ofL M)).all
      have p1 : k + 1 ≤ maxLen := by unfold maxLen; omega
      have p2 : (k + 1) * 56 ≤ 140737488355328 := by omega
      have hqq : w.heap.size < wr.heap.size := by omega
      clear hM hr1 hv3 hC1 hrow hC hB
      go_wp2_with fail
      refine (times_c m L M hLz.1 hMz.1 hLz.2 hMz.2 _).mono ?_
      rintro e w3 ⟨rfl, hb3⟩
      have hC3 := hC2.below hb3 hC2.lt
      have hB3 := hB2.trans (hb3.mono hB2.size)
      have hrow3 := (own_below hrow2 hb3).alloc (.cells #[.int .i64 ((m : Int)), .int .i64 (ofL (tiL L M) 0), .int .i64 (ofL (tiL L M) 1), .int .i64 (ofL (tiL L M) 2), .int .i64 (ofL (tiL L M) 3), .int .i64 (ofL (tiL L M) 4), .int .i64 (ofL (tiL L M) 5)] 45)
      have hcl := cell_7_new w3 m (ofL (tiL L M))
      have hsz3 : w.heap.size + 1 ≤ w3.heap.size := by have := hb3.size; simp at this; omega
      have p3 : w.heap.size + 1 ≤ (w3.alloc (.cells #[.int .i64 ((m : Int)), .int .i64 (ofL (tiL L M) 0), .int .i64 (ofL (tiL L M) 1), .int .i64 (ofL (tiL L M) 2), .int .i64 (ofL (tiL L M) 3), .int .i64 (ofL (tiL L M) 4), .int .i64 (ofL (tiL L M) 5)] 45)).heap.size := by simp; omega
      clear hrow2 hC2 hB2 hb3 a0 a1 a2 a3 a4 a5 a6 b0 b1 b2 b3 b4 b5 b6 d0 d1 d2 d3 d4 d5 d6
      go_wp2_with (at_builtin; refine wpList_append_own _ rfl _ _ 50 rfl (w.heap.size + 1) 45 i1 (.agg #[.int .i64 ((0 : Int)), .int .i64 ((fun _ => (0 : Int)) 0), .int .i64 ((fun _ => (0 : Int)) 1), .int .i64 ((fun _ => (0 : Int)) 2), .int .i64 ((fun _ => (0 : Int)) 3), .int .i64 ((fun _ => (0 : Int)) 4), .int .i64 ((fun _ => (0 : Int)) 5)]) 7 56 Tryd.underlying50 hj hj0 hj1 hj2 rfl (by decide) u4 _ _ rfl hrow3 ⟨w3.heap.size, 0, none⟩ 1 1 (c7 m (ofL (tiL L M))) rfl rfl hcl (c7_one _ _) p1 p2 p3 ?_; intro v' w4 hown' hgrow _)
      have hgb : ∀ g, u4.ownBlock = some g → w.heap.size + 1 ≤ g := fun g e => (hrow3.lt g e).1
      have hC4 : Cb w4 w.heap.size (m : Int) (ofL L) := World.rowIs.of_block (hC3.alloc (.cells #[.int .i64 ((m : Int)), .int .i64 (ofL (tiL L M) 0), .int .i64 (ofL (tiL L M) 1), .int .i64 (ofL (tiL L M) 2), .int .i64 (ofL (tiL L M) 3), .int .i64 (ofL (tiL L M) 4), .int .i64 (ofL (tiL L M) 5)] 45)) (hgrow.block _ (hC3.alloc _).lt (fun e => by have := hgb _ e.symm; omega))
      have hB4 := (hB3.alloc hB3.size (.cells #[.int .i64 ((m : Int)), .int .i64 (ofL (tiL L M) 0), .int .i64 (ofL (tiL L M) 1), .int .i64 (ofL (tiL L M) 2), .int .i64 (ofL (tiL L M) 3), .int .i64 (ofL (tiL L M) 4), .int .i64 (ofL (tiL L M) 5)] 45)).grown hgrow (by simp; omega) (fun g e => by have := hgb g e; omega)
      have hsz4 : w.heap.size + 1 ≤ w4.heap.size := by have := hgrow.size; simp at this; omega
      go_roundw
      case rel => exact ⟨k + 1, by omega, by go_num, by rw [HT.out, cwc_append, cwc_one_]; exact hown', hC4, hsz4, hB4⟩
      case measure => simp [intOf]; omega
    · obtain rfl : k = fs.length := by omega
      have HTK : Hid ((fs.take fs.length).map (tiL L) = fs.map (tiL L)) := by show _ = _; rw [List.take_length]
      rw [HTK.out] at hrow
      go_wp2
      go_ret
      exact ⟨_, fs.map (tiL L), rfl, by rw [List.length_map]; exact own_base hrow (by omega), by simp, fun M => by rw [List.mem_map]; exact ⟨fun ⟨d, hd, e⟩ => ⟨d, hd, e.symm⟩, fun ⟨d, hd, e⟩ => ⟨d, hd, e.symm⟩⟩, hB⟩
/-- what is generated: the map of the whole, or an error -/
def GenPost (zs : List (List Int)) (w : World) (v err : Value) (w' : World) : Prop :=
  ((∃ out, Whole zs out) → err = .nilIface ∧ ∃ b S, v = .map (some b) ∧ Whole zs S ∧ w.heap.size ≤ b ∧ w'.ownsMap Tryd.prog 45 (plainElem (H := Unit) Tryd.prog 3) b S.length (mapP klL S S.length)) ∧
  ((¬ ∃ out, Whole zs out) → v = .map none ∧ ∃ s, err = .iface 79 (.agg #[.string s])) ∧ Below w.heap.size w w'
set_option maxHeartbeats 4000000 in
theorem generated_any (g cp q m : Nat) (zs : List (List Int)) (hn : zs.length = q + 1) (hn6 : q + 1 ≤ 6) (hz : ∀ L ∈ zs, isC L = true ∧ L.length = m) (w : World) (hg : g < w.heap.size) (hR : Chs w g m zs) :
    Calls Tryd.prog 31 #[.slice (some ⟨g, 0, none⟩) (q + 1) cp] w fun e w' => ∃ v err, e = .returned (.tuple #[v, err]) ∧ GenPost zs w v err w' := by
  obtain ⟨i1, hj, hj0, hj1, hj2⟩ := info_parts info_chart7
  have HZ := Lib.hid hz
  have HN := Lib.hid hn
  have hcln := clone_any g cp q m zs hn (by omega) w hg hR
  have HCH := Lib.hid hR
  clear hz hn hR
  go_enter Tryd.func31, Tryd.ntmps31
  go_wp2_with fail
  refine hcln.mono ?_
  rintro e w1 ⟨v1, rfl, hr1, hb1⟩
  obtain ⟨A1, n1, c1, rfl⟩ : ∃ A n c, v1 = .slice A n c := by obtain ⟨A, c, e⟩ := own_slice hr1; exact ⟨A, _, c, e⟩
  have hBx := Boxed.new w1 50 (.slice A1 n1 c1)
  have hr1a := hr1.alloc (.cells #[.slice A1 n1 c1] 50)
  have hB1 := hb1.alloc hb1.size (.cells #[.slice A1 n1 c1] 50)
  have hs1 := hb1.size
  have HT0 : Hid (zs ++ (zs.take 0).map tuL = zs) := by show _ = _; simp
  rw [← HT0.out] at hr1a
  clear hcln hr1 hb1
  go_wp2
  generalize w1.heap.size = P at *
  go_loopw [6, 12] (fun _ s wr => ∃ (k : Nat) (vf : Value), k ≤ q + 1 ∧ s = .int .i64 (k : Int) ∧ Boxed wr P 50 vf ∧ wr.ownsRow w.heap.size 45 7 vf (zs ++ (zs.take k).map tuL).length (cwc m (zs ++ (zs.take k).map tuL)) ∧ Below w.heap.size w wr) (fun _ s _ => q + 1 - (intOf s).toNat)
  case atStart => exact ⟨0, _, Nat.zero_le _, rfl, hBx, hr1a, hB1⟩
  case round =>
    clear hBx hr1a hB1
    obtain ⟨k, vf, hk, rfl, hBx, hra, hB⟩ := hrel
    obtain ⟨Af, nf, cf, rfl⟩ : ∃ A n c, vf = .slice A n c := by obtain ⟨A, c, e⟩ := own_slice hra; exact ⟨A, _, c, e⟩
    have hsB := hB.size
    have hPl := hBx.lt
    by_cases hlt : k < q + 1
    · have hkl : k < zs.length := by have := HN.out; omega
      obtain ⟨L, hL⟩ : ∃ L, zs[k]? = some L := ⟨_, List.getElem?_eq_getElem hkl⟩
      have hC1 : Chs wr g m zs := HCH.out.same (hB.block g hg)
      obtain ⟨d0, d1, d2, d3, d4, d5, d6⟩ := hC1.all hL
      have hLz := HZ.out L (List.mem_of_getElem? hL)
      have HT : Hid (zs ++ (zs.take (k + 1)).map tuL = (zs ++ (zs.take k).map tuL) ++ [tuL L]) := by show _ = _; rw [List.take_add_one, hL, List.map_append, List.append_assoc]; rfl
      have hfl : (zs ++ (zs.take k).map tuL).length ≤ 12 := by rw [List.length_append, List.length_map, List.length_take, HN.out]; omega
      have HGL : Hid (∀ x, (.slice Af nf cf : Value).ownBlock = some x → x < wr.heap.size) := fun x e => (hra.lt x e).2
      have hB2 := hB.alloc hsB (.cells #[.int .i64 ((m : Int)), .int .i64 (ofL L 0), .int .i64 (ofL L 1), .int .i64 (ofL L 2), .int .i64 (ofL L 3), .int .i64 (ofL L 4), .int .i64 (ofL L 5)] 45)
      have hBx2 := hBx.alloc (.cells #[.int .i64 ((m : Int)), .int .i64 (ofL L 0), .int .i64 (ofL L 1), .int .i64 (ofL L 2), .int .i64 (ofL L 3), .int .i64 (ofL L 4), .int .i64 (ofL L 5)] 45)
      have hra2 := hra.alloc (.cells #[.int .i64 ((m : Int)), .int .i64 (ofL L 0), .int .i64 (ofL L 1), .int .i64 (ofL L 2), .int .i64 (ofL L 3), .int .i64 (ofL L 4), .int .i64 (ofL L 5)] 45)
      have hCl := Cb.new wr (m : Int) (ofL L)
      generalize zs ++ (zs.take k).map tuL = fs at *
      have p1 : fs.length + 1 ≤ maxLen := by unfold maxLen; omega
      have p2 : (fs.length + 1) * 56 ≤ 140737488355328 := by omega
      clear hL hkl hC1 hBx hra hB
      go_wp2_with fail
      generalize hW : wr.alloc (.cells #[.int .i64 ((m : Int)), .int .i64 (ofL L 0), .int .i64 (ofL L 1), .int .i64 (ofL L 2), .int .i64 (ofL L 3), .int .i64 (ofL L 4), .int .i64 (ofL L 5)] 45) = W0 at *
      have hsW : w.heap.size ≤ W0.heap.size := hB2.size
      have hS := Below.refl W0.heap.size W0
      have hbc := hBx2.cell
      have hbf := hBx2.frozen
      clear hW d0 d1 d2 d3 d4 d5 d6
      have tok1 : True := trivial
      obtain ⟨a0, a1, a2, a3, a4, a5, a6⟩ := hCl.all
      go_region_law
        (first
          | (have _t := tok1
             go_simp
             go_at_call 52
             refine (turned_c m L hLz.1 hLz.2 _).mono ?_
             rintro e w1x ⟨rfl, hbx⟩
             have hCl := cb_keep hbx hCl rfl
             have hBx2 := boxed_keep hbx hBx2 rfl
             have hra2 := own_keep hbx hra2 rfl
             have hS := bel_keep hbx hS rfl rfl rfl rfl hS.size
             have hbc := hBx2.cell
             have hbf := hBx2.frozen
             have hbcA := (hBx2.alloc (.cells #[.int .i64 ((m : Int)), .int .i64 (ofL (tuL L) 0), .int .i64 (ofL (tuL L) 1), .int .i64 (ofL (tuL L) 2), .int .i64 (ofL (tuL L) 3), .int .i64 (ofL (tuL L) 4), .int .i64 (ofL (tuL L) 5)] 45)).cell
             clear tok1 _t hbx)
          | (refine step_app _ rfl _ _ 50 rfl w.heap.size 45 i1 (.agg #[.int .i64 ((0 : Int)), .int .i64 ((fun _ => (0 : Int)) 0), .int .i64 ((fun _ => (0 : Int)) 1), .int .i64 ((fun _ => (0 : Int)) 2), .int .i64 ((fun _ => (0 : Int)) 3), .int .i64 ((fun _ => (0 : Int)) 4), .int .i64 ((fun _ => (0 : Int)) 5)]) 7 56 Tryd.underlying50 hj hj0 hj1 hj2 rfl (by decide) (.slice Af nf cf : Value) fs.length (cwc m fs) rfl (hra2.alloc _) ⟨w1x.heap.size, 0, none⟩ 1 1 (c7 m (ofL (tuL L))) rfl rfl (cell_arr_new w1x _ _) (c7_one _ _) p1 p2 (by have := hS.size; simp; omega) ?_
             intro v' w' hown' hgrow _
             obtain ⟨Aq, nq, cq, rfl⟩ : ∃ A n c, v' = .slice A n c := by obtain ⟨A, c, e⟩ := own_slice hown'; exact ⟨A, _, c, e⟩
             have hnr := (hBx2.alloc (.cells #[.int .i64 ((m : Int)), .int .i64 (ofL (tuL L) 0), .int .i64 (ofL (tuL L) 1), .int .i64 (ofL (tuL L) 2), .int .i64 (ofL (tuL L) 3), .int .i64 (ofL (tuL L) 4), .int .i64 (ofL (tuL L) 5)] 45)).not_row (by decide) (hra2.alloc (.cells #[.int .i64 ((m : Int)), .int .i64 (ofL (tuL L) 0), .int .i64 (ofL (tuL L) 1), .int .i64 (ofL (tuL L) 2), .int .i64 (ofL (tuL L) 3), .int .i64 (ofL (tuL L) 4), .int .i64 (ofL (tuL L) 5)] 45))
             have hCl : Cb w' wr.heap.size (m : Int) (ofL L) := World.rowIs.of_block (hCl.alloc (.cells #[.int .i64 ((m : Int)), .int .i64 (ofL (tuL L) 0), .int .i64 (ofL (tuL L) 1), .int .i64 (ofL (tuL L) 2), .int .i64 (ofL (tuL L) 3), .int .i64 (ofL (tuL L) 4), .int .i64 (ofL (tuL L) 5)] 45)) (hgrow.block _ (hCl.alloc _).lt (fun e => by have := HGL.out _ e.symm; omega))
             have hBx2 : Boxed w' P 50 (.slice Af nf cf : Value) := (hBx2.alloc (.cells #[.int .i64 ((m : Int)), .int .i64 (ofL (tuL L) 0), .int .i64 (ofL (tuL L) 1), .int .i64 (ofL (tuL L) 2), .int .i64 (ofL (tuL L) 3), .int .i64 (ofL (tuL L) 4), .int .i64 (ofL (tuL L) 5)] 45)).kept hgrow hnr
             have hbc := hBx2.cell
             have hbf := hBx2.frozen
             have HG := Lib.hid hgrow))
      all_goals
        have hnr2 : some P ≠ (.slice Aq nq cq : Value).ownBlock := hBx2.not_row (by decide) hown'
        have hra4 := hown'.kept (grownBy_setCell' w' P (.slice Aq nq cq : Value)) (.inr (fun e => hnr2 e.symm))
        have hBx4 := hBx2.set (.slice Aq nq cq : Value)
        have hgb : ∀ x, (.slice Af nf cf : Value).ownBlock = some x → w.heap.size ≤ x := fun x e => (hra2.lt x e).1
        have hB4 := (((hB2.trans (hS.mono hsW)).alloc (by have := hS.size; omega) (.cells #[.int .i64 ((m : Int)), .int .i64 (ofL (tuL L) 0), .int .i64 (ofL (tuL L) 1), .int .i64 (ofL (tuL L) 2), .int .i64 (ofL (tuL L) 3), .int .i64 (ofL (tuL L) 4), .int .i64 (ofL (tuL L) 5)] 45)).grown HG.out (by have := hS.size; simp; omega) (fun x e => hgb x e)).setCell (p := ⟨P, 0, none⟩) hs1 (.slice Aq nq cq : Value)
        have hrow4 : (w'.setCell ⟨P, 0, none⟩ (.slice Aq nq cq : Value)).ownsRow w.heap.size 45 7 (.slice Aq nq cq : Value) (fs ++ [tuL L]).length (cwc m (fs ++ [tuL L])) := by rw [List.length_append, cwc_append, cwc_one_]; exact hra4
        go_wp2
        go_roundw
        case rel => exact ⟨k + 1, (.slice Aq nq cq : Value), by omega, by go_num, hBx4, by rw [HT.out]; exact hrow4, hB4⟩
        case measure => simp [intOf]; omega
    · obtain rfl : k = q + 1 := by omega
      have HFS : Hid (zs ++ (zs.take (q + 1)).map tuL = facs zs) := by show _ = _; unfold facs; rw [List.take_of_length_le (by rw [HN.out]; exact Nat.le_refl _)]
      rw [HFS.out] at hra
      have hfc := facs_ch HZ.out
      have hfl : (facs zs).length ≤ 12 := by unfold facs; rw [List.length_append, List.length_map, HN.out]; omega
      have hfz : 0 < (facs zs).length := by unfold facs; rw [List.length_append, HN.out]; omega
      have hbc := hBx.cell
      have hre := reached_any (U := fun L => isC L = true ∧ L.length = m) (nx := nxR zs) m 12 54 w.heap.size #[] #[.pointer (some ⟨P, 0, none⟩)] (.slice Af nf cf : Value) (facs zs) (fun L h => h) hfc (nxR_ch HZ.out) (by omega) hfl wr (enters_of Tryd.func54 (by kernel_rfl) rfl)
        (fun L hL W hW => (gen1_any m P w.heap.size (facs zs) (.slice Af nf cf : Value) hfc (by omega) L hL W ((hW.cell (p := ⟨P, 0, none⟩) hPl).trans hbc) (own_below hra hW)).mono fun e W' ⟨v, Ms, h1, h2, h3, h4, h5⟩ => ⟨v, Ms, h1, h2, by omega, h4, h5⟩) hra
      have HFZ := Lib.hid hfz
      clear hfc hra hfz hfl
      go_wp2_with fail
      refine hre.mono ?_
      rintro e w5 ⟨v5, all, rfl, hr5, hRc, hUa, hlen, hb5⟩
      have hB5 := hB.trans (hb5.mono hsB)
      have hs5 := hB5.size
      have HRC := Lib.hid hRc
      have HUA := Lib.hid hUa
      obtain ⟨A5, c5, rfl⟩ := own_shape hr5
      clear hre hRc hUa hb5 hbc hBx
      by_cases h4 : 400 < all.length
      · have hd : decide (400 < (all.length : Int)) = true := by simp; omega
        have HNO := Lib.hid (whole_not HRC.out h4)
        go_wp2
        go_ret2
        exact ⟨_, _, rfl, fun h => absurd h HNO.out, fun _ => ⟨rfl, _, rfl⟩, hB5⟩
      · have hd : decide (400 < (all.length : Int)) = false := by simp; omega
        have hne : 0 < all.length := List.length_pos_of_mem ((HRC.out.ends (by omega)).1 _ (ent_mem HFZ.out))
        obtain ⟨q2, hq2⟩ : ∃ q2, all.length = q2 + 1 := ⟨all.length - 1, by omega⟩
        obtain ⟨g5, cp5, hv, _, hg5⟩ := hr5.form hne
        injection hv with hv1 _ hv3
        subst hv1
        have hC5 : Chs w5 g5 m all := Chs.of_own hr5
        have HQ2 := Lib.hid hq2
        have hq4 : q2 + 1 ≤ 400 := by omega
        rw [hq2] at hd ⊢
        clear hq2 hr5 hne hv3 h4 hlen
        go_wp2_with fail
        refine (placed_any (H := Unit) g5 c5 q2 m all HQ2.out (by omega) HUA.out w5 hg5 hC5).mono ?_
        rintro e w6 ⟨Sx, rfl, hpl, hSl, hown6, hb6⟩
        have HW := Lib.hid (whole_of HRC.out (by rw [HQ2.out]; omega) hpl HUA.out)
        have HSL := Lib.hid hSl
        clear hpl hSl
        go_wp2
        go_ret2
        exact ⟨_, _, rfl, fun _ => ⟨rfl, _, Sx, rfl, HW.out, hs5, by rw [HSL.out]; exact hown6⟩, fun h => absurd ⟨Sx, HW.out⟩ h, hB5.trans (hb6.mono hs5)⟩
set_option maxHeartbeats 1000000 in
theorem charts_none2 (w : World) :
    Calls Tryd.prog 33 #[.map none] w fun e w' => ∃ v, e = .returned v ∧ w'.ownsRow w.heap.size 45 7 v ([] : List (List Int)).length (cwc 0 []) ∧ Below w.heap.size w w' := by
  obtain ⟨i1, hj, hj0, hj1, hj2⟩ := info_parts info_chart7
  have hlen : ∀ ty, (Builtin.len_ #[37] ty #[.map none]).run Tryd.prog w = .ok (.int .i64 0) w := fun ty => Maps.len_nil Tryd.underlying37 ty
  have hb8 : i1.bytes * 0 ≤ 281474976710656 := by omega
  have hrgW : ∀ W : World, (Instr.range 37 (.map none)).run Tryd.prog W = _ := fun W => run_range_nilMap (P := Tryd.prog) W 37 45 3 Tryd.underlying37
  have HNX : Hid (∀ (W : World) ty, (Instr.next (.pointer (some ⟨W.heap.size, 0, none⟩)) false ty).run Tryd.prog (W.alloc (.mapIter none 0 #[] 0)) = _) := fun W ty => run_next_nilMap (P := Tryd.prog) W ty 0 0 #[]
  go_enter Tryd.func33, Tryd.ntmps33
  go_wp2_with (first
    | (at_make; refine wpList_make_full _ rfl _ _ _ rfl w.heap.size 45 i1 _ 7 Tryd.underlying50 hj hj0 hj1 _ _ _ _ 0 rfl rfl rfl rfl hb8 (by unfold maxLen; omega) (Nat.le_refl _) ?_; intro w1 hrow hg; have hrg := hrgW w1; have hnx := HNX.out w1)
    | go_in)
  refine wp_loop_rounds 1 ?_
  rw [rounds_succ]
  go_wp2
  go_ret
  exact ⟨_, rfl, by have := hrow.alloc (.mapIter none 0 #[] 0); simpa [madeCells, cwc] using this, ((Below.refl _ _).grown hg (Nat.le_refl _) (fun k e => by cases e)).alloc (by have := hg.size; exact this) _⟩
set_option maxHeartbeats 2000000 in
theorem implOf_any (A : Option Addr) (n c : Nat) (zs OL : List (List Int)) (OB : Bool) (hO : Ofs zs OL OB) (w : World) (h : RSS w A n zs) (hg : EtAt w) :
    Calls Tryd.prog 11 #[.slice A n c] w fun e w' => ∃ v, e = .returned (.tuple #[v, .bool OB]) ∧ OSS w' w.heap.size w'.heap.size v OL ∧ Below w.heap.size w w' := by
  have HL := Lib.hid h.len
  have HOO := Lib.hid hO
  have hcf := chartsFrom_any A n c 6 (by omega) zs w h
  clear h
  cases hC : cfB zs 6
  · have HF := Lib.hid (ofs_no hO (fun e => by rw [hC] at e; cases e.1))
    rw [hC] at hcf
    clear hC hg
    go_enter Tryd.func11, Tryd.ntmps11
    go_wp2_with fail
    refine hcf.mono ?_
    rintro e w1 ⟨v, rfl, _, hv, hb⟩
    obtain rfl := hv trivial
    clear hv
    go_wp2
    go_ret2
    exact ⟨_, by rw [HF.out.2]; rfl, by rw [HF.out.1]; exact oss_nil _ _ _, hb⟩
  · have HCF := Lib.hid hC
    have hch : 1 ≤ zs.length ∧ zs.length ≤ 6 ∧ ∀ L ∈ zs, isC L = true ∧ L.length = (ent zs 0).length := by
      have hc := hC
      unfold cfB at hc
      rw [Bool.and_eq_true, decide_eq_true_eq, chB_iff] at hc
      exact ⟨hc.1.1, hc.2, hc.1.2⟩
    obtain ⟨q, hq⟩ : ∃ q, n = q + 1 := ⟨n - 1, by have := HL.out; omega⟩
    subst hq
    rw [hC] at hcf
    have HCH := Lib.hid hch
    have hq4 : q + 1 ≤ 6 := by have := HL.out; omega
    clear hC hch
    go_enter Tryd.func11, Tryd.ntmps11
    go_wp2_with fail
    refine hcf.mono ?_
    rintro e w1 ⟨v, rfl, hv, _, hb⟩
    have hown := hv trivial
    obtain ⟨g, cp, rfl⟩ := ownsRow_succ hown
    have hgl := (hown.lt g rfl).2
    have hC1 : Chs w1 g (ent zs 0).length zs := Chs.of_own (by rw [HL.out]; exact hown)
    have hg1 := hg.below hb
    have hs1 := hb.size
    clear hcf hv hown hg
    go_wp2_with fail
    refine (generated_any g cp q (ent zs 0).length zs HL.out hq4 HCH.out.2.2 w1 hgl hC1).mono ?_
    rintro e w2 ⟨v, err, rfl, hy, hno, hb2⟩
    have hB2 := hb.trans (hb2.mono hs1)
    have hg2 := hg1.below hb2
    by_cases hE : ∃ out, Whole zs out
    · obtain ⟨rfl, b, S, rfl, hW, hbl, hown⟩ := hy hE
      have HO := Lib.hid (ofs_yes hO HCF.out hW)
      have hSz := hW.from_ (fun L => isC L = true ∧ L.length = (ent zs 0).length) (facs_ch HCH.out.2.2) (nxR_ch HCH.out.2.2)
      have hSm : S.length ≤ 1048576 := by have := hW.most; omega
      have hch := charts_any b (ent zs 0).length S.length S rfl hSm hSz hW.srt w2 hown
      have HSZ := Lib.hid hSz
      clear hy hno hE hW hown hC1 hb2 hb hg1 hSz
      go_wp2_with fail
      refine hch.mono ?_
      rintro e w3 ⟨G, rfl, hr3, hb3⟩
      have hB3 := hB2.trans (hb3.mono hB2.size)
      clear hch
      go_wp2_with fail
      refine (listsOf_any (ent zs 0).length _ _ S HSZ.out hSm w3 hr3).mono ?_
      rintro e w4 ⟨v', rfl, hOs, hb4⟩
      have hs3 := hB3.size
      have hB4 := hB3.trans (hb4.mono hs3)
      clear hr3
      go_wp2_with fail
      refine (isNone_nil w4).mono ?_
      rintro e w5 ⟨rfl, hb5⟩
      have hO5 := hOs.below hb5
      have hs45 := hb5.size
      go_wp2
      go_ret2
      exact ⟨_, by rw [HO.out.2]; rfl, by rw [HO.out.1]; exact hO5.more hs3 hs45, hB4.trans (hb5.mono hB4.size)⟩
    · obtain ⟨rfl, s, rfl⟩ := hno hE
      have HF := Lib.hid (ofs_no hO (fun e => hE e.2))
      clear hy hno hE hC1 hb2 hb hg1
      go_wp2_with fail
      refine (charts_none2 w2).mono ?_
      rintro e w3 ⟨v3, rfl, hr3, hb3⟩
      have hB3 := hB2.trans (hb3.mono hB2.size)
      have hg3 := hg2.below hb3
      go_wp2_with fail
      refine (listsOf_any 0 _ v3 [] (fun L h => by cases h) (by simp) w3 hr3).mono ?_
      rintro e w4 ⟨v', rfl, hOs, hb4⟩
      have hs3 := hB3.size
      have hB4 := hB3.trans (hb4.mono hs3)
      have hg4 := hg3.below hb4
      clear hr3 hg2 hg3
      go_wp2_with fail
      refine (isNone_hit s w4 hg4).mono ?_
      rintro e w5 ⟨rfl, hb5⟩
      have hO5 := hOs.below hb5
      have hs45 := hb5.size
      go_wp2
      go_ret2
      exact ⟨_, by rw [HF.out.2]; rfl, by rw [HF.out.1]; exact hO5.more hs3 hs45, hB4.trans (hb5.mono hB4.size)⟩
end

end Go.Proofs.YtlnbglaminaojaaDoor
