/-
  IdI.
-/
import Derived.Test.YtigapanfihpgaaaGreatDoorOF
import Derived.Test.YtigapanfihpgaaaGreatDoorOG
namespace Go.Proofs.YtigapanfihpgaaaGreatDoor
set_option maxRecDepth 100000
set_option linter.unusedVariables false
set_option linter.unusedSimpArgs false
set_option linter.unusedSectionVars false

/-! (impl.semigroup).products, (impl.semigroup).ideal, impl.SemigroupIdeal. -/
section
open Go.RowKit Go.Maps

theorem own_keep {W W0 W1 : World} {base size n : Nat} {e : TypeId} {v : Value} {xs : List Value} (hb : Below W0.heap.size W0 W1) (h : W.ownsRow base e size v n xs) (eh : W0.heap = W.heap) : W1.ownsRow base e size v n xs :=
  own_below (own_same h (fun g _ => by rw [eh])) hb
theorem step_app {P : Program} (w : World) {ops : Array Oper} {o : Oper} {a : Act} {K : Act → World → Prop} {Q : Exit → Act → World → Prop} {E : Prop}
    (hg : o.guard = none) (s x : Operand) (t : TypeId) (hop : o.op = Op.call { callee := Callee.builtin Builtin.append, args := #[s, x], argTypes := #[t, t] })
    (base : Nat) (e : TypeId) (i : TypeInfo) (z : Value) (size bytes : Nat) (h1 : P.underlying t = some (.slice e)) (h2 : P.info? e = some i) (h3 : i.zero = some z) (h4 : i.size = size) (h5 : i.bytes = bytes) (h6 : z.cells.size = size) (h7 : 0 < size)
    (v : Value) (k : Nat) (xs : List Value) (hs : a.eval s = v) (hown : w.ownsRow base e size v k xs) (ad : Addr) (m c : Nat) (news : List Value) (hx : a.eval x = .slice (some ad) m c) (hn : news.length = m * size)
    (hc : ∀ j u, news[j]? = some u → w.cell? (ad.add j) = some u) (h1c : ∀ u ∈ news, u.oneCell' = true) (b1 : k + m ≤ maxLen) (b2 : (k + m) * bytes ≤ 140737488355328) (b3 : base ≤ w.heap.size)
    (hK : ∀ v' w', w'.ownsRow base e size v' (k + m) (xs ++ news) → w.grownBy w' v.ownBlock → (v' = .slice none 0 0 ↔ v = .slice none 0 0 ∧ m = 0) → K (a.put o.dst v') w') :
    if Region.wanted o (yielded ops a.tmps) = true then Oper.wp P o a w K Q else E := by
  have hw : Region.wanted o (yielded ops a.tmps) = true := by simp [Region.wanted, hg]
  rw [if_pos hw]
  exact wp_append_own w s x t hop base e i z size bytes h1 h2 h3 h4 h5 h6 h7 v k xs hs hown ad m c news hx hn hc h1c b1 b2 b3 hK
theorem cell_arr_new (w : World) (c : Array Value) (t : TypeId) : ∀ j u, c.toList[j]? = some u → (w.alloc (.cells c t)).cell? ((⟨w.heap.size, 0, none⟩ : Addr).add j) = some u := fun j u hu => by
  have e : (⟨w.heap.size, 0, none⟩ : Addr).add j = ⟨w.heap.size, j, none⟩ := by unfold Addr.add; split <;> simp_all
  rw [e, World.cell?_alloc_new]
  simpa using hu

/-- products with all charts, on both sides -/
def nxS (zs : List (List Int)) (L M : List Int) : Prop := ∃ s ∈ zs, M = tiL L s ∨ M = tiL s L

set_option maxHeartbeats 4000000 in
theorem products_any {H : Type} (b m n : Nat) (zs : List (List Int)) (hn : zs.length = n) (hn6 : n ≤ 400) (hz : ∀ L ∈ zs, isC L = true ∧ L.length = m) (hs : Srt zs) (L : List Int) (hLz : isC L = true ∧ L.length = m) (w : World)
    (hown : w.ownsMap Tryz.prog 53 (plainElem (H := H) Tryz.prog 3) b n (mapP klL zs n)) :
    Calls Tryz.prog 112 #[.map (some b), .agg #[.int .i64 ((m : Int)), .int .i64 (ofL L 0), .int .i64 (ofL L 1), .int .i64 (ofL L 2), .int .i64 (ofL L 3), .int .i64 (ofL L 4), .int .i64 (ofL L 5)]] w fun e w' => ∃ v Ms, e = .returned v ∧ w'.ownsRow w.heap.size 53 7 v Ms.length (cwc m Ms) ∧ Ms.length ≤ 800 ∧ (∀ M, M ∈ Ms ↔ nxS zs L M) ∧ Below w.heap.size w w' := by
  obtain ⟨i1, hj, hj0, hj1, hj2⟩ := info_parts info_chart7
  have HZ := Lib.hid hz
  have hbl := hown.lt
  have HD : Hid (∀ x, Maps.has (mapP (H := H) klL zs n) x = true ↔ ∃ L, L ∈ zs ∧ klL L = x) := fun x => by subst hn; exact mapP_iff x
  have HSZ : Hid (Maps.size (mapP (H := H) klL zs n) = n) := by subst hn; exact mapP_size hz hs zs.length (Nat.le_refl _)
  have hB0 : Below w.heap.size w (w.alloc (.cells #[.int .i64 ((m : Int)), .int .i64 (ofL L 0), .int .i64 (ofL L 1), .int .i64 (ofL L 2), .int .i64 (ofL L 3), .int .i64 (ofL L 4), .int .i64 (ofL L 5)] 53)) := (Below.refl _ w).alloc (Nat.le_refl _) _
  have hown0 := hown.alloc (.cells #[.int .i64 ((m : Int)), .int .i64 (ofL L 0), .int .i64 (ofL L 1), .int .i64 (ofL L 2), .int .i64 (ofL L 3), .int .i64 (ofL L 4), .int .i64 (ofL L 5)] 53)
  have hC0 := Cb.new w (m : Int) (ofL L)
  clear hz hs hn hown
  go_enter Tryz.func112, Tryz.ntmps112
  go_wp2_with (first | (at_range; refine wpList_range_own _ rfl _ 42 rfl 53 3 ch_keyed Tryz.underlying42 _ b n (mapP klL zs n) rfl hown0 ?_; intro w1 hrg0 hg0 hs0) | go_in)
  try go_frame
  have hB1 := hB0.grown hg0 hB0.size (fun k e => by cases e)
  have hC1 : Cb w1 w.heap.size (m : Int) (ofL L) := World.rowIs.of_block hC0 (hg0.block _ hC0.lt (by simp))
  rw [HSZ.out] at hrg0
  rw [World.size_alloc] at hrg0 hs0
  have hrs0 : w.heap.size + 2 ≤ w1.heap.size := by omega
  clear hg0 hs0 hown0 hB0 hC0
  go_loopw [5, 6] (fun va _ wr => ∃ left cnt Ms, wr.ranges Tryz.prog 53 (plainElem Tryz.prog 3) b (w.heap.size + 1) n (mapP klL zs n) left cnt ∧ Cb wr w.heap.size (m : Int) (ofL L) ∧ wr.ownsRow (w.heap.size + 2) 53 7 va Ms.length (cwc m Ms) ∧ Ms.length + 2 * cnt ≤ 2 * n ∧ Hid (∀ x, left x = true → Maps.has (mapP (H := H) klL zs n) x = true) ∧ Hid (∀ M ∈ Ms, nxS zs L M) ∧ Hid (∀ s ∈ zs, left (klL s) = false → tiL L s ∈ Ms ∧ tiL s L ∈ Ms) ∧ w.heap.size + 2 ≤ wr.heap.size ∧ Below w.heap.size w wr) (fun _ _ wr => wr.rangeLeft b (w.heap.size + 1))
  case atStart => exact ⟨_, _, [], hrg0, hC1, World.ownsRow_nil _ _ _ _, by simp, Lib.hid (fun x h => h), Lib.hid (fun M h => by cases h), Lib.hid (fun s hs h => by rw [(HD.out _).2 ⟨s, hs, rfl⟩] at h; cases h), hrs0, hB1⟩
  case round =>
    clear hrg0 hC1 hB1 hrs0
    obtain ⟨left, cnt, Ms, hrg, hC, hrow, hcn, P1, Q1, Q2, hsz, hB⟩ := hrel
    have hrl := hrg.lt
    go_wp2_with (first | (at_next; refine wpList_next_ranges _ rfl _ rfl 53 ch_keyed (plainElem Tryz.prog 3) mkCh (Value.int .i64) mkCh_inv plain_inv b (w.heap.size + 1) n _ _ _ rfl hrg ?_ ?_) | go_in)
    · intro hc0 hl0
      have HQ : Hid (∀ M, M ∈ Ms ↔ nxS zs L M) := fun M => ⟨Q1.out M, by
        rintro ⟨s, hs, rfl | rfl⟩
        · exact (Q2.out s hs (hl0 _)).1
        · exact (Q2.out s hs (hl0 _)).2⟩
      go_wp2
      go_ret
      exact ⟨_, Ms, rfl, own_base hrow (by omega), by omega, HQ.out, hB⟩
    · intro xn xT cc kl yd yp w2 cnt2 hkey hlk hv hat hrg2 hlt hg2 hs2 hen
      obtain ⟨M, hM, hkl, hx⟩ := ch_of_key HZ.out hkey ((HD.out kl).1 (P1.out kl hlk))
      rw [hx] at hen
      rw [hx]
      have hMz := HZ.out M hM
      have hB2 := hB.grown hg2 hB.size (fun j e => by cases e; omega)
      have hC2 : Cb w2 w.heap.size (m : Int) (ofL L) := World.rowIs.of_block hC (hg2.block _ hC.lt (by simp))
      have hrow2 := hrow.kept hg2 (by
        rcases hob : u5.ownBlock with _ | g
        · exact .inl rfl
        · exact .inr (fun e => by have := (hrow.lt g hob).1; injection e with e; omega))
      have hs2' := hB2.size
      have P1' : Hid (∀ x, (left x && !x.sameKey kl) = true → Maps.has (mapP (H := H) klL zs n) x = true) := fun x h => P1.out x (by rw [Bool.and_eq_true] at h; exact h.1)
      have Q1' : Hid (∀ X ∈ Ms ++ [tiL L M, tiL M L], nxS zs L X) := fun X hX => by
        rcases List.mem_append.1 hX with h | h
        · exact Q1.out X h
        · rcases List.mem_cons.1 h with h | h
          · exact ⟨M, hM, .inl h⟩
          · exact ⟨M, hM, .inr (List.mem_singleton.1 h)⟩
      have Q2' : Hid (∀ s ∈ zs, (left (klL s) && !(klL s).sameKey kl) = false → tiL L s ∈ Ms ++ [tiL L M, tiL M L] ∧ tiL s L ∈ Ms ++ [tiL L M, tiL M L]) := fun s hs h => by
        cases hl : left (klL s)
        · have := Q2.out s hs hl
          exact ⟨List.mem_append_left _ this.1, List.mem_append_left _ this.2⟩
        · rw [hl, Bool.true_and] at h
          have : (klL s).sameKey kl = true := by cases hsk : (klL s).sameKey kl <;> simp_all
          have e := (same_key this).trans hkl.symm
          rw [klL_inj s M (HZ.out s hs).1 hMz.1 e]
          exact ⟨List.mem_append_right _ (by simp), List.mem_append_right _ (by simp)⟩
      have hrg3 := hrg2.alloc (.cells #[.int .i64 ((m : Int)), .int .i64 (ofL M 0), .int .i64 (ofL M 1), .int .i64 (ofL M 2), .int .i64 (ofL M 3), .int .i64 (ofL M 4), .int .i64 (ofL M 5)] 53)
      have hB3 := hB2.alloc hs2' (.cells #[.int .i64 ((m : Int)), .int .i64 (ofL M 0), .int .i64 (ofL M 1), .int .i64 (ofL M 2), .int .i64 (ofL M 3), .int .i64 (ofL M 4), .int .i64 (ofL M 5)] 53)
      have hrow3 := hrow2.alloc (.cells #[.int .i64 ((m : Int)), .int .i64 (ofL M 0), .int .i64 (ofL M 1), .int .i64 (ofL M 2), .int .i64 (ofL M 3), .int .i64 (ofL M 4), .int .i64 (ofL M 5)] 53)
      have hCl := hC2.alloc (.cells #[.int .i64 ((m : Int)), .int .i64 (ofL M 0), .int .i64 (ofL M 1), .int .i64 (ofL M 2), .int .i64 (ofL M 3), .int .i64 (ofL M 4), .int .i64 (ofL M 5)] 53)
      have hCm := Cb.new w2 (m : Int) (ofL M)
      have hM2 : Ms.length + 2 ≤ 800 := by omega
      have p1 : Ms.length + 2 ≤ maxLen := by unfold maxLen; omega
      have p2 : (Ms.length + 2) * 56 ≤ 140737488355328 := by omega
      have HGL : Hid (∀ g, u5.ownBlock = some g → g < w2.heap.size) := fun g e => by have := (hrow.lt g e).2; omega
      have hq2 : w2.heap.size = wr.heap.size := hs2
      have hsz2 : w.heap.size + 2 ≤ w2.heap.size := by omega
      clear hkey hx hv hat hlk hkl P1 Q1 Q2 hrg2 hB2 hC2 hrow2 hC hrow hB hs2
      clear hq2
      go_wp2_with fail
      generalize hW : w2.alloc (.cells #[.int .i64 ((m : Int)), .int .i64 (ofL M 0), .int .i64 (ofL M 1), .int .i64 (ofL M 2), .int .i64 (ofL M 3), .int .i64 (ofL M 4), .int .i64 (ofL M 5)] 53) = W0 at *
      have hS := Below.refl W0.heap.size W0
      have hszW : w.heap.size + 2 ≤ W0.heap.size := by rw [← hW]; simp; omega
      have hbR : b ≠ w.heap.size + 2 := by omega
      clear hen hW
      have tok1 : True := trivial
      have tok2 : True := trivial
      have HROW := Lib.hid hrow3
      have hra := hrow3
      clear hrow3
      go_region_held3 (fun w' => w'.cell? ⟨w.heap.size, 0, none⟩ = some (.int .i64 m) ∧ w'.cell? ⟨w.heap.size, 1, none⟩ = some (.int .i64 (ofL L 0)) ∧ w'.cell? ⟨w.heap.size, 2, none⟩ = some (.int .i64 (ofL L 1)) ∧ w'.cell? ⟨w.heap.size, 3, none⟩ = some (.int .i64 (ofL L 2)) ∧ w'.cell? ⟨w.heap.size, 4, none⟩ = some (.int .i64 (ofL L 3)) ∧ w'.cell? ⟨w.heap.size, 5, none⟩ = some (.int .i64 (ofL L 4)) ∧ w'.cell? ⟨w.heap.size, 6, none⟩ = some (.int .i64 (ofL L 5)) ∧
          w'.cell? ⟨w2.heap.size, 0, none⟩ = some (.int .i64 m) ∧ w'.cell? ⟨w2.heap.size, 1, none⟩ = some (.int .i64 (ofL M 0)) ∧ w'.cell? ⟨w2.heap.size, 2, none⟩ = some (.int .i64 (ofL M 1)) ∧ w'.cell? ⟨w2.heap.size, 3, none⟩ = some (.int .i64 (ofL M 2)) ∧ w'.cell? ⟨w2.heap.size, 4, none⟩ = some (.int .i64 (ofL M 3)) ∧ w'.cell? ⟨w2.heap.size, 5, none⟩ = some (.int .i64 (ofL M 4)) ∧ w'.cell? ⟨w2.heap.size, 6, none⟩ = some (.int .i64 (ofL M 5)))
        (first | exact s14 (by assumption) (by assumption) | exact s14 (hCl.alloc _) (hCm.alloc _) | go_keep)
        (first
          | (go_at_call 57
             have _t := tok1
             refine (times_c m L M hLz.1 hMz.1 hLz.2 hMz.2 _).mono ?_
             rintro e w1x ⟨rfl, hbx⟩
             have hCl := cb_keep hbx hCl rfl
             have hCm := cb_keep hbx hCm rfl
             have hra := own_keep hbx hra rfl
             have hS := bel_keep hbx hS rfl rfl rfl rfl hS.size
             clear tok1 _t hbx)
          | (go_at_call 57
             have _t := tok2
             refine (times_c m M L hMz.1 hLz.1 hMz.2 hLz.2 _).mono ?_
             rintro e w1x ⟨rfl, hbx⟩
             have hCl := cb_keep hbx hCl rfl
             have hCm := cb_keep hbx hCm rfl
             have hra := own_keep hbx hra rfl
             have hS := bel_keep hbx hS rfl rfl rfl rfl hS.size
             clear tok2 _t hbx)
          | (refine step_app _ rfl _ _ 46 rfl (w.heap.size + 2) 53 i1 (.agg #[.int .i64 ((0 : Int)), .int .i64 ((fun _ => (0 : Int)) 0), .int .i64 ((fun _ => (0 : Int)) 1), .int .i64 ((fun _ => (0 : Int)) 2), .int .i64 ((fun _ => (0 : Int)) 3), .int .i64 ((fun _ => (0 : Int)) 4), .int .i64 ((fun _ => (0 : Int)) 5)]) 7 56 Tryz.underlying46 hj hj0 hj1 hj2 rfl (by decide) u5 Ms.length (cwc m Ms) rfl (hra.alloc _) ⟨w1x.heap.size, 0, none⟩ 2 2 (cwc m [tiL L M, tiL M L]) rfl rfl (cell_arr_new w1x _ _) (cwc_one _ _) p1 p2 (by have := hS.size; simp; omega) ?_
             intro v' w' hown' hgrow _
             have hgb : ∀ g, u5.ownBlock = some g → w.heap.size + 2 ≤ g := fun g e => (hra.lt g e).1
             have hCl : Cb w' w.heap.size (m : Int) (ofL L) := World.rowIs.of_block (hCl.alloc (.cells (cwc m [tiL L M, tiL M L]).toArray 53)) (hgrow.block _ (hCl.alloc _).lt (fun e => by have := hgb _ e.symm; omega))
             have hCm : Cb w' w2.heap.size (m : Int) (ofL M) := World.rowIs.of_block (hCm.alloc (.cells (cwc m [tiL L M, tiL M L]).toArray 53)) (hgrow.block _ (hCm.alloc _).lt (fun e => by have := HGL.out _ e.symm; omega))
             have HG := Lib.hid hgrow))
      all_goals
        have hgb : ∀ g, u5.ownBlock = some g → w.heap.size + 2 ≤ g := fun g e => (hra.lt g e).1
        have hszx : w.heap.size + 2 ≤ w1x.heap.size := by have := hS.size; omega
        have hrg4 := ((hrg3.kept (gb_of hS none) (by simp) (by simp)).alloc (.cells (cwc m [tiL L M, tiL M L]).toArray 53)).kept HG.out (fun e => by have := hgb _ e.symm; omega) (fun e => by have := hgb _ e.symm; omega)
        have hB4 := ((hB3.trans (hS.mono hB3.size)).alloc (show w.heap.size ≤ w1x.heap.size by omega) (.cells (cwc m [tiL L M, tiL M L]).toArray 53)).grown HG.out (by simp; omega) (fun g e => by have := hgb g e; omega)
        have hrow4 : w'.ownsRow (w.heap.size + 2) 53 7 v' (Ms ++ [tiL L M, tiL M L]).length (cwc m (Ms ++ [tiL L M, tiL M L])) := by rw [List.length_append, cwc_append]; exact hown'
        have hsz4 : w.heap.size + 2 ≤ w'.heap.size := by have := HG.out.size; simp at this; omega
        go_wp2
        go_roundw
        case rel => exact ⟨_, cnt2, Ms ++ [tiL L M, tiL M L], hrg4, hCl, hrow4, by rw [List.length_append]; simp; omega, P1', Q1', Q2', hsz4, hB4⟩
        case measure => rw [hrg4.left_eq, hrg.left_eq]; exact hlt
theorem ideal_rch {zs : List (List Int)} {f : List Int} (S : Sg zs) (hf : f ∈ zs) {all : List (List Int)} (h : Rchd [f] (nxS zs) all) : (∀ L ∈ all, L ∈ zs) ∧ all.length ≤ 400 ∧ (f ∈ all) ∧ ∀ L, L ∈ all ↔ L ∈ zs ∧ idlB zs f L = true := by
  have h1 : ∀ L ∈ all, idlP zs f L := h.from_ (idlP zs f) (fun L hL => by rw [List.mem_singleton.1 hL]; exact .inl rfl) (fun L hL M hM => by
    obtain ⟨s, hs, rfl | rfl⟩ := hM
    · exact idl_right S hf hL hs
    · exact idl_left S hf hL hs)
  have h2 : ∀ L ∈ all, L ∈ zs := fun L hL => idl_mem S hf (h1 L hL)
  have h3 : all.length ≤ 400 := Nat.le_trans (h.nodup.length_le_of_subset h2) S.most
  obtain ⟨h4, h5⟩ := h.ends h3
  have hfa := h4 f (by simp)
  refine ⟨h2, h3, hfa, fun L => ⟨fun hL => ⟨h2 L hL, idlB_iff.2 (h1 L hL)⟩, fun hL => ?_⟩⟩
  exact idl_least (P := fun L => L ∈ all) hfa (fun L hL s hs => h5 L hL _ ⟨s, hs, .inl rfl⟩) (fun L hL s hs => h5 L hL _ ⟨s, hs, .inr rfl⟩) (idlB_iff.1 hL.2)
set_option maxHeartbeats 2000000 in
theorem ideal_any (b m n : Nat) (zs : List (List Int)) (hn : zs.length = n) (S : Sg zs) (hz : ∀ L ∈ zs, isC L = true ∧ L.length = m) (f : List Int) (hf : f ∈ zs) (w : World)
    (hown : w.ownsMap Tryz.prog 53 (plainElem (H := Unit) Tryz.prog 3) b n (mapP klL zs n)) :
    Calls Tryz.prog 82 #[.map (some b), .agg #[.int .i64 ((m : Int)), .int .i64 (ofL f 0), .int .i64 (ofL f 1), .int .i64 (ofL f 2), .int .i64 (ofL f 3), .int .i64 (ofL f 4), .int .i64 (ofL f 5)]] w fun e w' => ∃ v, e = .returned v ∧ w'.ownsRow w.heap.size 53 7 v (zs.filter (idlB zs f)).length (cwc m (zs.filter (idlB zs f))) ∧ Below w.heap.size w w' := by
  have hfz := hz f hf
  have hn4 : n ≤ 400 := by rw [← hn]; exact S.most
  have HSG := Lib.hid S
  have HZ := Lib.hid hz
  have hbl := hown.lt
  have hB1 : Below w.heap.size w (w.alloc (.cells #[.int .i64 ((m : Int)), .int .i64 (ofL f 0), .int .i64 (ofL f 1), .int .i64 (ofL f 2), .int .i64 (ofL f 3), .int .i64 (ofL f 4), .int .i64 (ofL f 5)] 53)) := (Below.refl _ w).alloc (Nat.le_refl _) _
  have hB2 := hB1.alloc hB1.size (.cells #[.int .i64 ((m : Int)), .int .i64 (ofL f 0), .int .i64 (ofL f 1), .int .i64 (ofL f 2), .int .i64 (ofL f 3), .int .i64 (ofL f 4), .int .i64 (ofL f 5)] 53)
  have hrow0 : ((w.alloc (.cells #[.int .i64 ((m : Int)), .int .i64 (ofL f 0), .int .i64 (ofL f 1), .int .i64 (ofL f 2), .int .i64 (ofL f 3), .int .i64 (ofL f 4), .int .i64 (ofL f 5)] 53)).alloc (.cells #[.int .i64 ((m : Int)), .int .i64 (ofL f 0), .int .i64 (ofL f 1), .int .i64 (ofL f 2), .int .i64 (ofL f 3), .int .i64 (ofL f 4), .int .i64 (ofL f 5)] 53)).ownsRow (w.heap.size + 1) 53 7 (.slice (some ⟨w.heap.size + 1, 0, none⟩) 1 1) [f].length (cwc m [f]) := by
    have := World.ownsRow_lit (base := w.heap.size + 1) (e := 53) (size := 7) (w.alloc (.cells #[.int .i64 ((m : Int)), .int .i64 (ofL f 0), .int .i64 (ofL f 1), .int .i64 (ofL f 2), .int .i64 (ofL f 3), .int .i64 (ofL f 4), .int .i64 (ofL f 5)] 53)) #[.int .i64 ((m : Int)), .int .i64 (ofL f 0), .int .i64 (ofL f 1), .int .i64 (ofL f 2), .int .i64 (ofL f 3), .int .i64 (ofL f 4), .int .i64 (ofL f 5)] 1 (by simp) (by simp [maxLen]) rfl
    rw [World.size_alloc] at this
    rw [cwc_one_]; exact this
  obtain ⟨a0, a1, a2, a3, a4, a5, a6⟩ := (Cb.new w (m : Int) (ofL f)).all
  have hre := reached_any (U := fun L => L ∈ zs) (nx := nxS zs) m 800 112 (w.heap.size + 1) #[.map (some b)] #[] (.slice (some ⟨w.heap.size + 1, 0, none⟩) 1 1) [f] hz (fun L hL => by rw [List.mem_singleton.1 hL]; exact hf) (fun L hL M hM => by
      obtain ⟨s, hs, rfl | rfl⟩ := hM
      · exact S.ti L hL s hs
      · exact S.ti s hs L hL) (by omega) (by simp) ((w.alloc (.cells #[.int .i64 ((m : Int)), .int .i64 (ofL f 0), .int .i64 (ofL f 1), .int .i64 (ofL f 2), .int .i64 (ofL f 3), .int .i64 (ofL f 4), .int .i64 (ofL f 5)] 53)).alloc (.cells #[.int .i64 ((m : Int)), .int .i64 (ofL f 0), .int .i64 (ofL f 1), .int .i64 (ofL f 2), .int .i64 (ofL f 3), .int .i64 (ofL f 4), .int .i64 (ofL f 5)] 53)) (enters_of Tryz.func112 (by kernel_rfl) rfl)
      (fun L hL W hW => products_any b m n zs hn hn4 hz S.srt L (hz L hL) W (ownsMap_same ((hown.alloc _).alloc _) (hW.block b (by simp; omega)))) hrow0
  clear hown hz S hn hrow0
  go_enter Tryz.func82, Tryz.ntmps82
  go_wp2_with fail
  refine hre.mono ?_
  rintro e w3 ⟨v3, all, rfl, hra, hR, _, _, hb3⟩
  obtain ⟨hall, h4, hfa, hiff⟩ := ideal_rch HSG.out hf hR
  obtain ⟨q, hq⟩ : ∃ q, all.length = q + 1 := ⟨all.length - 1, by have := List.length_pos_of_mem hfa; omega⟩
  obtain ⟨g, cp, rfl, hgb, hg⟩ := hra.form (by omega)
  have hC3 : Chs w3 g m all := Chs.of_own hra
  have hB3 := hB2.trans (hb3.mono hB2.size)
  have HAZ : Hid (∀ L ∈ all, isC L = true ∧ L.length = m) := fun L hL => HZ.out L (hall L hL)
  have HND := Lib.hid hR.nodup
  have HIF := Lib.hid hiff
  have HQ := Lib.hid hq
  have hq4 : q + 1 ≤ 400 := by omega
  rw [hq] at hra ⊢
  clear hre hR hall h4 hfa hiff hb3 hra hq
  go_wp2_with fail
  refine (placed_any (H := Unit) g cp q m all HQ.out (by omega) HAZ.out w3 hg hC3).mono ?_
  rintro e w4 ⟨Sx, rfl, hpl, hSl, hown4, hb4⟩
  have hB4 := hB3.trans (hb4.mono hB3.size)
  have hsr := placed_sorted hpl HND.out HAZ.out
  have hSz : ∀ L ∈ Sx, isC L = true ∧ L.length = m := fun L hL => HAZ.out L (hpl.perm.mem_iff.1 hL)
  have hSx := srt_filter HSG.out.srt hsr (fun L => by rw [hpl.perm.mem_iff]; exact HIF.out L)
  have hch := charts_any w3.heap.size m (q + 1) Sx hSl (by omega) hSz hsr w4 hown4
  have HSX := Lib.hid hSx
  have HSL := Lib.hid hSl
  have hs3 := hB3.size
  clear hpl hSl hsr hSz hSx hown4 hb4 hC3
  go_wp2_with fail
  refine hch.mono ?_
  rintro e w5 ⟨G, rfl, hrow5, hb5⟩
  have hB5 := hB4.trans (hb5.mono hB4.size)
  have hs4 := hB4.size
  have HFL : Hid ((zs.filter (idlB zs f)).length = q + 1) := by show _ = _; rw [← HSX.out]; exact HSL.out
  go_wp2
  go_ret
  exact ⟨_, rfl, by rw [HFL.out, ← HSX.out]; exact own_base hrow5 hs4, hB5⟩
set_option maxHeartbeats 1000000 in
theorem implIdeal_any (A B : Option Addr) (n c m d : Nat) (zs : List (List Int)) (f : List Int) (w : World) (h : RSS w A n zs) (h' : RI w B m f) (hg : EtAt w) :
    Calls Tryz.prog 30 #[.slice A n c, .slice B m d] w fun e w' => ∃ v, e = .returned (.tuple #[v, .bool (swhB zs f)]) ∧ OSS w' w.heap.size w'.heap.size v (idlL zs f) ∧ Below w.heap.size w w' := by
  have htw := toldWith_any A B n c m d zs f w h h' hg
  clear h h' hg
  go_enter Tryz.func30, Tryz.ntmps30
  go_wp2_with fail
  refine htw.mono ?_
  rintro e w1 ⟨v, cv, rfl, hy, hno, hb⟩
  cases hS : swhB zs f
  · obtain ⟨rfl, rfl⟩ := hno hS
    have HSX := Lib.hid hS
    have HI : Hid (idlL zs f = []) := by show _ = _; unfold idlL; rw [hS]; rfl
    have hB1 := hb.alloc hb.size (.cells #[.int .i64 ((0 : Int)), .int .i64 ((fun _ => (0 : Int)) 0), .int .i64 ((fun _ => (0 : Int)) 1), .int .i64 ((fun _ => (0 : Int)) 2), .int .i64 ((fun _ => (0 : Int)) 3), .int .i64 ((fun _ => (0 : Int)) 4), .int .i64 ((fun _ => (0 : Int)) 5)] 53)
    clear hy hno htw hS
    go_wp2
    go_ret2
    exact ⟨_, by rw [HSX.out]; rfl, by rw [HI.out]; exact oss_nil _ _ _, hB1⟩
  · obtain ⟨⟨b, rfl, hbl, hown⟩, rfl⟩ := hy hS
    have HSX := Lib.hid hS
    have hs := swh_iff.1 hS
    have S := sgS_iff.1 hs.1
    have HI : Hid (idlL zs f = zs.filter (idlB zs f)) := by show _ = _; unfold idlL; rw [hS]; rfl
    have hzf : ∀ L ∈ zs, isC L = true ∧ L.length = f.length := fun L hL => ⟨(S.ch L hL).1, (S.ch L hL).2.trans (S.ch f hs.2).2.symm⟩
    have HZ : Hid (∀ L ∈ zs.filter (idlB zs f), isC L = true ∧ L.length = f.length) := fun L hL => hzf L (List.mem_filter.1 hL).1
    have hle : (zs.filter (idlB zs f)).length ≤ 1048576 := Nat.le_trans (List.length_filter_le _ _) (by have := S.most; omega)
    have hB1 := hb.alloc hb.size (.cells #[.int .i64 ((f.length : Int)), .int .i64 (ofL f 0), .int .i64 (ofL f 1), .int .i64 (ofL f 2), .int .i64 (ofL f 3), .int .i64 (ofL f 4), .int .i64 (ofL f 5)] 53)
    have hid := ideal_any b f.length zs.length zs rfl S hzf f hs.2 (w1.alloc (.cells #[.int .i64 ((f.length : Int)), .int .i64 (ofL f 0), .int .i64 (ofL f 1), .int .i64 (ofL f 2), .int .i64 (ofL f 3), .int .i64 (ofL f 4), .int .i64 (ofL f 5)] 53)) (hown.alloc _)
    obtain ⟨a0, a1, a2, a3, a4, a5, a6⟩ := (Cb.new w1 (f.length : Int) (ofL f)).all
    clear hy hno htw hS S hs hzf hown
    go_wp2_with fail
    refine hid.mono ?_
    rintro e w2 ⟨v, rfl, ho, hb2⟩
    have hB2 := hB1.trans (hb2.mono hB1.size)
    clear hid
    go_wp2_with fail
    refine (listsOf_any f.length _ v (zs.filter (idlB zs f)) HZ.out hle w2 ho).mono ?_
    rintro e w3 ⟨v', rfl, hO, hb3⟩
    have hs2 := hB2.size
    go_wp2
    go_ret2
    exact ⟨_, by rw [HSX.out]; rfl, by rw [HI.out]; exact hO.more hs2 (Nat.le_refl _), hB2.trans (hb3.mono hs2)⟩
end

end Go.Proofs.YtigapanfihpgaaaGreatDoor
