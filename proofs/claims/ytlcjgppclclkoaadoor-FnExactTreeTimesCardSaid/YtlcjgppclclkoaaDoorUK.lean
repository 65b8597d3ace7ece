/-
  Io.
-/
import Derived.Test.YtlcjgppclclkoaaDoorUC
import Derived.Test.YtlcjgppclclkoaaDoorUI
namespace Go.Proofs.YtlcjgppclclkoaaDoor
set_option maxRecDepth 100000
set_option linter.unusedVariables false
set_option linter.unusedSimpArgs false
set_option linter.unusedSectionVars false

/-! impl.TreeOf, impl.TreeTimes, impl.TreeTurned. -/
section
open Go.RowKit Go.Lib Go.Sort

theorem implOfT_any (s : ByteArray) (hs : s.size ≤ 1048576) (w : World) : Calls Tryd.prog 17 #[.string s] w fun e' w' => ∃ R, OfOk s R ∧ TreePost R w e' w' := by
  cases hw : wordB s with
  | false => exact (treeOf_no s hs hw w).mono fun e' w' ⟨h1, h2⟩ => ⟨none, .inl ⟨hw, rfl⟩, h2, none, 0, 0, h1, ⟨rfl, .inl ⟨rfl, rfl⟩⟩⟩
  | true =>
    obtain ⟨ws, rfl, hl⟩ := word_txt hw
    exact (treeOf_yes ws hl w).mono fun e' w' ⟨S, g, cp, h1, h2, h3, h4, h5⟩ => ⟨some (S, redS ws), .inr ⟨ws, S, rfl, hw, h1, h2, rfl⟩, h5, some ⟨g, 0, none⟩, S.length, cp, h3, by show World.ownsRow _ _ _ _ _ _ (svL (S.map strOf)); rw [← wvL_sv]; exact h4⟩
theorem own_far2' {w : World} {base size n g : Nat} {e t : TypeId} {v : Value} {xs : List Value} {cs : Array Value} (h : w.ownsRow base e size v n xs) (hg : Blk w g t cs) (hne : e ≠ t) (x y : Value) : ((w.setCell ⟨g, 0, none⟩ x).setCell ⟨g, 1, none⟩ y).ownsRow base e size v n xs := by
  have n1 := own_blk_ne h hg hne
  exact ownsRow_setCell_other (ownsRow_setCell_other h n1 x) n1 y
/-- a tree in memory from another node on -/
theorem mulW_inj {u v x : List (Fin 4)} (hu : Rdc u) (hv : Rdc v) (hx : Rdc x) (h : mulW u v = mulW u x) : v = x := by rw [← inv_mul_cancel hu hv, h, inv_mul_cancel hu hx]
theorem gr_turn {w : World} {base : Nat} {N S : List (List (Fin 4))} {m : List (Fin 4) → Nat} {u : List (Fin 4)} (h : Gr w base N m) (hS : Tin S) (hX : ∀ x, x ∈ N ↔ x ∈ S) (hu : u ∈ N) :
    Gr w base (N.map (mulW (invW u))) (fun x => m (mulW u x)) := by
  have hr := h.tre.rd u hu
  have hi := invW_rdc hr
  have hback : ∀ v ∈ N, mulW u (mulW (invW u) v) = v := fun v hv => mul_inv_cancel hr (h.tre.rd v hv)
  have hmem : ∀ v, v ∈ N → ∀ c, stp (mulW (invW u) v) c ∈ N.map (mulW (invW u)) ↔ stp v c ∈ N := fun v hv c => by
    rw [← mulW_stp hi]
    constructor
    · intro hm
      obtain ⟨x, hx, e⟩ := List.mem_map.1 hm
      rw [← mulW_inj hi (h.tre.rd x hx) (stp_rdc (h.tre.rd v hv)) e]; exact hx
    · intro hm; exact List.mem_map.2 ⟨_, hm, rfl⟩
  have hnd : (N.map (mulW (invW u))).Nodup := by
    have : ∀ L : List (List (Fin 4)), L.Nodup → (∀ x ∈ L, Rdc x) → (L.map (mulW (invW u))).Nodup := by
      intro L
      induction L with
      | nil => intro _ _; exact List.nodup_nil
      | cons a L ih =>
        intro hnd hrd
        rw [List.nodup_cons] at hnd
        rw [List.map_cons, List.nodup_cons]
        refine ⟨fun hm => ?_, ih hnd.2 (fun x hx => hrd x (List.mem_cons_of_mem _ hx))⟩
        obtain ⟨x, hx, e⟩ := List.mem_map.1 hm
        rw [mulW_inj hi (hrd x (List.mem_cons_of_mem _ hx)) (hrd a List.mem_cons_self) e] at hx
        exact hnd.1 hx
    exact this N h.tre.nd h.tre.rd
  refine ⟨⟨hnd, List.mem_map.2 ⟨u, hu, inv_mul hr⟩, fun x hx => ?_, fun c x hx => ?_⟩, fun x hx => ?_, fun x hx => ?_, fun x hx y hy e => ?_⟩
  · obtain ⟨v, _, rfl⟩ := List.mem_map.1 hx
    exact mulW_rdc v hi
  · obtain ⟨v, hv, e⟩ := List.mem_map.1 hx
    obtain ⟨y, hy, e2⟩ := mul_tail hS.cl hr ((hX u).1 hu) ((hX v).1 hv) 1
    rw [e, List.drop_succ_cons, List.drop_zero] at e2
    exact List.mem_map.2 ⟨y, (hX y).2 hy, e2.symm⟩
  · obtain ⟨v, hv, rfl⟩ := List.mem_map.1 hx
    show base ≤ m (mulW u (mulW (invW u) v))
    rw [hback v hv]; exact h.lo v hv
  · obtain ⟨v, hv, rfl⟩ := List.mem_map.1 hx
    show w.heap[m (mulW u (mulW (invW u) v))]? = _
    rw [hback v hv, h.blk v hv]
    congr 2
    congr 1
    funext c
    unfold ptrTo
    by_cases hc : stp v c ∈ N
    · rw [if_pos hc, if_pos ((hmem v hv c).2 hc)]
      show _ = Value.pointer (some ⟨m (mulW u (stp (mulW (invW u) v) c)), 0, none⟩)
      rw [mulW_stp hr, hback v hv]
    · rw [if_neg hc, if_neg (fun e => hc ((hmem v hv c).1 e))]
  · obtain ⟨v, hv, rfl⟩ := List.mem_map.1 hx
    obtain ⟨v', hv', rfl⟩ := List.mem_map.1 hy
    have e' : m (mulW u (mulW (invW u) v)) = m (mulW u (mulW (invW u) v')) := e
    rw [hback v hv, hback v' hv'] at e'
    rw [h.inj v hv v' hv' e']
set_option maxHeartbeats 1000000 in
theorem turned_any (p q : Option Addr) (w : World) : Calls Tryd.prog 65 #[.agg #[.pointer p, .pointer q]] w fun e w' => e = .returned (.agg #[.pointer q, .pointer p]) ∧ RowKit.Below w.heap.size w w' := by
  go_enter Tryd.func65, Tryd.ntmps65
  go_wp2
  refine bodyPost_ret (v := .agg #[.pointer q, .pointer p]) (by simp [results, Tryd.results65, go_sem]) rfl ⟨rfl, ((RowKit.Below.refl _ w).alloc (Nat.le_refl _) _).alloc (by simp) _⟩
set_option maxHeartbeats 4000000 in
theorem implTurned_any (A : Option Addr) (n c : Nat) (ss : List ByteArray) (e : ByteArray) (w : World) (h : RS w A n ss) (hn : n ≤ 1048576) (hl : ∀ s ∈ ss, s.size ≤ 1048576) (hle : e.size ≤ 1048576) :
    Calls Tryd.prog 38 #[.agg #[.slice A n c, .string e]] w fun e' w' => ∃ R, TurnOk ss e R ∧ TreePost R w e' w' := by
  have hB0 : RowKit.Below w.heap.size w ((w.alloc (.cells #[.slice A n c, .string e] 29)).alloc (.cells #[.slice none 0 0, .string ⟨#[]⟩] 29)) := ((RowKit.Below.refl _ w).alloc (Nat.le_refl _) _).alloc (by simp) _
  have hA1 : Blk ((w.alloc (.cells #[.slice A n c, .string e] 29)).alloc (.cells #[.slice none 0 0, .string ⟨#[]⟩] 29)) (w.heap.size + 1) 29 #[.slice none 0 0, .string ⟨#[]⟩] := by
    have := Blk.new (w.alloc (.cells #[.slice A n c, .string e] 29)) 29 #[.slice none 0 0, .string ⟨#[]⟩]
    rwa [World.size_alloc] at this
  have hz : ((w.alloc (.cells #[.slice A n c, .string e] 29)).alloc (.cells #[.slice none 0 0, .string ⟨#[]⟩] 29)).heap.size = w.heap.size + 1 + 1 := by simp
  have hF := treeFrom_any A n c ss e _ (h.below hB0) hn hl hle
  unfold FromPost at hF
  rw [hz] at hF
  have HF := Lib.hid hF
  have HB0 := Lib.hid hB0
  have HA1 := Lib.hid hA1
  clear h hB0 hl hA1 hF hz
  go_enter Tryd.func38, Tryd.ntmps38
  go_wp2_with fail
  refine HF.out.mono ?_
  rintro e' w1 ⟨hb, ⟨S, u, N, m, hT, rfl, hG, hX⟩ | ⟨hno, p, q, rfl⟩⟩
  · have hz1 : w.heap.size + 1 < w1.heap.size := (HA1.out.below hb (by omega)).lt
    have hBa : RowKit.Below w1.heap.size w1 (w1.alloc (.cells #[.pointer (some ⟨m [], 0, none⟩), .pointer (some ⟨m u, 0, none⟩)] 54)) := (RowKit.Below.refl _ _).alloc (Nat.le_refl _) _
    have hB2 := hb.trans (hBa.mono (by omega))
    have hG2 := hG.below hBa
    have hz2 : (w1.alloc (.cells #[.pointer (some ⟨m [], 0, none⟩), .pointer (some ⟨m u, 0, none⟩)] 54)).heap.size = w1.heap.size + 1 := by simp
    have hTU := turned_any (some ⟨m [], 0, none⟩) (some ⟨m u, 0, none⟩) (w1.alloc (.cells #[.pointer (some ⟨m [], 0, none⟩), .pointer (some ⟨m u, 0, none⟩)] 54))
    rw [hz2] at hTU
    have HTU := Lib.hid hTU
    have HG2 := Lib.hid hG2
    have HB2 := Lib.hid hB2
    have HT := Lib.hid hT
    have HX := Lib.hid hX
    clear hb hG hBa hB2 hG2 hTU hT hX HF
    go_wp2_with fail
    refine HTU.out.mono ?_
    rintro e' w3 ⟨rfl, hb3⟩
    have hz3 : w1.heap.size + 1 ≤ w3.heap.size := by have := hb3.size; rw [hz2] at this; exact this
    have hB3 := HB2.out.trans (hb3.mono (by omega))
    have hG3 := HG2.out.below (by rw [hz2]; exact hb3)
    have hTin := HT.out.2.2.2
    have huS := HT.out.2.2.1
    have huN := (HX.out u).2 huS
    have hr := hTin.rd u huS
    have hGt := gr_turn hG3 hTin HX.out huN
    have hinv : invW u ∈ N.map (mulW (invW u)) := List.mem_map.2 ⟨[], (HX.out []).2 hTin.nil, rfl⟩
    have hlen : (N.map (mulW (invW u))).length ≤ 400000 := by
      rw [List.length_map]
      have := hG3.tre.nd.length_le_of_subset (fun x hx => (HX.out x).1 hx)
      have := hTin.len
      omega
    have hTO := told_any _ _ _ _ hinv w3 hGt hlen
    simp only [mulW_nil, mul_inv hr] at hTO
    have HTO := Lib.hid hTO
    have HB3 := Lib.hid hB3
    have HGT := Lib.hid hGt.tre.nd
    clear hb3 hB3 hG3 hTin huS huN hr hGt hinv hlen hTO HTU HG2 HB2 hz2
    go_wp2_with fail
    refine HTO.out.mono ?_
    rintro e' w4 ⟨L, hperm, hord, hb4, hcase⟩
    have hB4 := HB3.out.trans (hb4.mono (by omega))
    have h1 := HA1.out.below hB4 (by omega)
    have c0 : w4.cell? ⟨w.heap.size + 1, 0, none⟩ = some (.slice none 0 0) := h1.cell 0
    have c1 : w4.cell? ⟨w.heap.size + 1, 1, none⟩ = some (.string ⟨#[]⟩) := h1.cell 1
    have f0 := h1.frozen 0
    have f1 := h1.frozen 1
    have hlt := h1.lt
    have hBE := HB0.out.trans (hB4.mono (by omega))
    have hLm : ∀ x, x ∈ L ↔ ∃ v ∈ S, x = mulW (invW u) v := fun x => by
      rw [hperm.mem_iff, List.mem_map]
      exact ⟨fun ⟨v, hv, e⟩ => ⟨v, (HX.out v).1 hv, e.symm⟩, fun ⟨v, hv, e⟩ => ⟨v, (HX.out v).2 hv, e.symm⟩⟩
    rcases hcase with ⟨hsm, g, cp, rfl, hown⟩ | ⟨hsm, rfl⟩
    · have hsL : smlB L = true := by rw [sml_perm hperm]; exact hsm
      have HOK : Hid (TurnOk ss e (some (L, invW u))) := .inr ⟨S, u, L, HT.out, hord, hLm, by rw [hsL]; rfl⟩
      have HO := Lib.hid (own_down0 (own_far2' hown h1 (by decide) (.slice (some ⟨g, 0, none⟩) (N.map (mulW (invW u))).length cp) (.string (strOf (invW u)))) (show w.heap.size ≤ w3.heap.size by omega))
      have HBE := Lib.hid ((hBE.setCell (p := ⟨w.heap.size + 1, 0, none⟩) (by simp) (.slice (some ⟨g, 0, none⟩) (N.map (mulW (invW u))).length cp)).setCell (p := ⟨w.heap.size + 1, 1, none⟩) (by simp) (.string (strOf (invW u))))
      clear h1 hB4 hb4 hBE hperm hord hLm hown HTO HB3
      generalize (N.map (mulW (invW u))).length = ln at *
      go_wp2
      refine bodyPost_ret (v := .tuple #[.agg #[.slice (some ⟨g, 0, none⟩) ln cp, .string (strOf (invW u))], .bool true]) (by simp [results, Tryd.results38, go_sem, hlt, c0, c1]) rfl ⟨some (L, invW u), HOK.out, HBE.out, some ⟨g, 0, none⟩, ln, cp, rfl, by show World.ownsRow _ _ _ _ _ _ (svL (L.map strOf)); rw [← wvL_sv]; exact HO.out⟩
    · have hsL : smlB L = false := by rw [sml_perm hperm]; exact hsm
      have HOK : Hid (TurnOk ss e none) := .inr ⟨S, u, L, HT.out, hord, hLm, by rw [hsL]; rfl⟩
      have HBE := Lib.hid ((hBE.setCell (p := ⟨w.heap.size + 1, 0, none⟩) (by simp) (.slice none 0 0)).setCell (p := ⟨w.heap.size + 1, 1, none⟩) (by simp) (.string ⟨#[]⟩))
      clear h1 hB4 hb4 hBE hperm hord hLm HTO HB3
      go_wp2
      refine bodyPost_ret (v := .tuple #[.agg #[.slice none 0 0, .string ⟨#[]⟩], .bool false]) (by simp [results, Tryd.results38, go_sem, hlt, c0, c1]) rfl ⟨none, HOK.out, HBE.out, none, 0, 0, rfl, ⟨rfl, .inl ⟨rfl, rfl⟩⟩⟩
  · have h1 := HA1.out.below hb (by omega)
    have c0 : w1.cell? ⟨w.heap.size + 1, 0, none⟩ = some (.slice none 0 0) := h1.cell 0
    have c1 : w1.cell? ⟨w.heap.size + 1, 1, none⟩ = some (.string ⟨#[]⟩) := h1.cell 1
    have f0 := h1.frozen 0
    have f1 := h1.frozen 1
    have hlt := h1.lt
    have HOK : Hid (TurnOk ss e none) := .inl ⟨hno, rfl⟩
    have HBE : Hid (RowKit.Below w.heap.size w (((w1.setCell ⟨w.heap.size + 1, 0, none⟩ (.slice none 0 0)).setCell ⟨w.heap.size + 1, 1, none⟩ (.string ⟨#[]⟩)).alloc (.cells #[.pointer p, .pointer q] 54))) := by
      have hx := ((HB0.out.trans (hb.mono (by omega))).setCell (p := ⟨w.heap.size + 1, 0, none⟩) (by simp) (.slice none 0 0)).setCell (p := ⟨w.heap.size + 1, 1, none⟩) (by simp) (.string ⟨#[]⟩)
      exact hx.alloc hx.size _
    clear hb hno h1 HF
    go_wp2
    refine bodyPost_ret (v := .tuple #[.agg #[.slice none 0 0, .string ⟨#[]⟩], .bool false]) (by simp [results, Tryd.results38, go_sem, hlt, c0, c1]) rfl ⟨none, HOK.out, HBE.out, none, 0, 0, rfl, ⟨rfl, .inl ⟨rfl, rfl⟩⟩⟩
end

end Go.Proofs.YtlcjgppclclkoaaDoor
