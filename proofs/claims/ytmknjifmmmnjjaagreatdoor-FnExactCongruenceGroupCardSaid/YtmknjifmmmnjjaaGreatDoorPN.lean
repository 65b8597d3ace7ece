/-
  As7.
-/
import Derived.Test.YtmknjifmmmnjjaaGreatDoorPM
namespace Go.Proofs.YtmknjifmmmnjjaaGreatDoor
set_option maxRecDepth 100000
set_option linter.unusedVariables false
set_option linter.unusedSimpArgs false
set_option linter.unusedSectionVars false

/-! (impl.arrows).places, GermPlaces of the program and of the spec. -/
section
open Go.RowKit Go.Maps

def plB (zs : List (List Int)) (p q : Nat) : Bool := zs.any (fun L => decide (ofL L p = (q : Int)))
theorem plc_ent {L : List Int} (h : isC L = true) {p : Nat} (hp : p < L.length) : ofL L p = -1 ∨ ∃ q : Nat, q < L.length ∧ ofL L p = (q : Int) := by
  have := isC_ent h p hp
  unfold ofL
  rcases Decidable.em (L[p]?.getD 0 = -1) with e | e
  · exact Or.inl e
  · exact Or.inr ⟨(L[p]?.getD 0).toNat, by omega, by omega⟩
theorem plcI_is {zs : List (List Int)} {p : Nat} (h : atOK zs (p : Int) = true) : upB (plB zs p) (m0 zs) = plcI zs (p : Int) := by
  obtain ⟨hS, _, hp⟩ := atOK_iff.1 h
  have S := sgS_iff.1 hS
  have hp' : p < m0 zs := by omega
  have hL0 : ∀ L ∈ zs, isC L = true ∧ L.length = m0 zs := S.ch
  unfold plcI
  refine (nums_is (upB_asc _ _) (fun x => ?_)).symm
  rw [upB_mem, List.mem_map]
  constructor
  · rintro ⟨v, _, hv, rfl⟩
    obtain ⟨L, hL, e⟩ := List.any_eq_true.1 hv
    have e := of_decide_eq_true e
    have hl := hL0 L hL
    refine ⟨L, ?_, e⟩
    unfold atLs
    rw [h, if_pos rfl]
    refine List.mem_filter.2 ⟨hL, ?_⟩
    unfold mvB
    rw [doN_bit hl.1, Bool.and_eq_true, decide_eq_true_eq, decide_eq_true_eq]
    refine ⟨by rw [hl.2]; exact hp', ?_⟩
    show ofL L p ≠ -1
    rw [e]; omega
  · rintro ⟨L, hL, rfl⟩
    obtain ⟨_, _, _, hLz, hm⟩ := atLs_mem hL
    have hl := hL0 L hLz
    unfold mvB at hm
    rw [doN_bit hl.1, Bool.and_eq_true, decide_eq_true_eq, decide_eq_true_eq] at hm
    rcases plc_ent hl.1 (show p < L.length by rw [hl.2]; exact hp') with e | ⟨q, hq, e⟩
    · exact absurd e hm.2
    · exact ⟨q, by rw [← hl.2]; exact hq, List.any_eq_true.2 ⟨L, hLz, decide_eq_true e⟩, e⟩
theorem plcI_none {zs : List (List Int)} {p : Int} (h : atOK zs p = false) : plcI zs p = [] := by unfold plcI; rw [atLs_no h]; exact nums_nil
theorem any_step {zs : List (List Int)} {p : List Int → Bool} {k : Nat} (hk : k < zs.length) : (zs.take (k + 1)).any p = ((zs.take k).any p || p (ent zs k)) := by
  have e : ent zs k = zs[k] := by unfold ent; rw [List.getElem?_eq_getElem hk]; rfl
  rw [List.take_succ_eq_append_getElem hk, List.any_append, e]; simp
theorem places1_in (m x p : Nat) (hp6 : p < 6) (L : List Int) (W : World) (hx : W.cell? ⟨x, 0, none⟩ = some (.int .i64 (p : Int))) (hxl : x < W.heap.size) :
    Calls Tryz.prog 109 #[.agg #[.int .i64 ((m : Int)), .int .i64 (ofL L 0), .int .i64 (ofL L 1), .int .i64 (ofL L 2), .int .i64 (ofL L 3), .int .i64 (ofL L 4), .int .i64 (ofL L 5), .int .i64 ((doN L : Nat)), .int .i64 ((raN L : Nat))], .pointer (some ⟨x, 0, none⟩)] W fun e W' => e = .returned (.int .i64 (ofL L p)) ∧ Below W.heap.size W W' := by
  have hB : Below W.heap.size W (W.alloc (.cells #[.int .i64 ((m : Int)), .int .i64 (ofL L 0), .int .i64 (ofL L 1), .int .i64 (ofL L 2), .int .i64 (ofL L 3), .int .i64 (ofL L 4), .int .i64 (ofL L 5), .int .i64 ((doN L : Nat)), .int .i64 ((raN L : Nat))] 65)) := (Below.refl _ _).alloc (Nat.le_refl _) _
  have hx1 : (W.alloc (.cells #[.int .i64 ((m : Int)), .int .i64 (ofL L 0), .int .i64 (ofL L 1), .int .i64 (ofL L 2), .int .i64 (ofL L 3), .int .i64 (ofL L 4), .int .i64 (ofL L 5), .int .i64 ((doN L : Nat)), .int .i64 ((raN L : Nat))] 65)).cell? ⟨x, 0, none⟩ = some (.int .i64 (p : Int)) := (hB.cell hxl).trans hx
  have hc : (W.alloc (.cells #[.int .i64 ((m : Int)), .int .i64 (ofL L 0), .int .i64 (ofL L 1), .int .i64 (ofL L 2), .int .i64 (ofL L 3), .int .i64 (ofL L 4), .int .i64 (ofL L 5), .int .i64 ((doN L : Nat)), .int .i64 ((raN L : Nat))] 65)).cell? ⟨W.heap.size, 1 + p, none⟩ = some (.int .i64 (ofL L p)) := by
    have hb := (Blk.new W 65 #[.int .i64 ((m : Int)), .int .i64 (ofL L 0), .int .i64 (ofL L 1), .int .i64 (ofL L 2), .int .i64 (ofL L 3), .int .i64 (ofL L 4), .int .i64 (ofL L 5), .int .i64 ((doN L : Nat)), .int .i64 ((raN L : Nat))]).cell (1 + p)
    rw [hb]
    rcases (show p = 0 ∨ p = 1 ∨ p = 2 ∨ p = 3 ∨ p = 4 ∨ p = 5 by omega) with rfl | rfl | rfl | rfl | rfl | rfl <;> rfl
  have hpi : (p : Int) < 6 := by omega
  clear hx
  go_enter Tryz.func109, Tryz.ntmps109
  go_wp2
  go_ret
  exact ⟨rfl, hB⟩
set_option maxHeartbeats 400000 in
theorem places_any (m lo : Nat) (p : Int) (v : Value) (Ls : List (List Int)) (hp6 : ∀ L ∈ Ls, 0 ≤ p ∧ p < 6) (hq : Ls.length ≤ 1048576) (w : World) (hown : w.ownsRow lo 65 9 v Ls.length (awc m Ls)) :
    Calls Tryz.prog 58 #[v, .int .i64 p] w fun e w' => ∃ v', e = .returned v' ∧ NewL w (nums (Ls.map (fun L => ofL L p.toNat))) v' w' := by
  have eg : ∀ args w, (callFunc 109 args).run Tryz.prog w = .ok (.enter 109 args) w := enters_of Tryz.func109 (by kernel_rfl) rfl
  have hB0 : Below w.heap.size w (w.alloc (.cells #[.int .i64 p] 3)) := (Below.refl _ w).alloc (Nat.le_refl _) _
  have hX := Blk.new w 3 #[.int .i64 p]
  have hP := numbers_any m 109 lo #[] #[.pointer (some ⟨w.heap.size, 0, none⟩)] v Ls hq (fun L => ofL L p.toNat) (w.alloc (.cells #[.int .i64 p] 3)) eg
    (fun L hL W hW => places1_in m w.heap.size p.toNat (by have := hp6 L hL; omega) L W ((congrArg (fun z => W.cell? ⟨w.heap.size, 0, none⟩ = some (.int .i64 z)) (show ((p.toNat : Nat) : Int) = p by have := hp6 L hL; omega)).mpr ((hX.below hW hX.lt).cell 0)) (hX.below hW hX.lt).lt) (hown.alloc _)
  obtain ⟨A, cp, rfl⟩ := own_shape hown
  have hs0 := hB0.size
  clear hown hX
  generalize nums (Ls.map (fun L => ofL L p.toNat)) = ns at *
  go_enter Tryz.func58, Tryz.ntmps58
  go_wp2_with fail
  refine hP.mono ?_
  rintro e w1 ⟨v', rfl, ho, hb⟩
  have hB := hB0.trans (hb.mono hs0)
  have hR := own_base ho hs0
  clear ho hb hP
  go_wp2
  go_ret
  exact ⟨_, rfl, hR, hB⟩
set_option maxHeartbeats 400000 in
theorem implPlc_any (A : Option Addr) (n c : Nat) (zs : List (List Int)) (p : Int) (w : World) (h : RSS w A n zs) (hg : EtAt w) :
    Calls Tryz.prog 19 #[.slice A n c, .int .i64 p] w fun e w' => ∃ v, e = .returned (.tuple #[v, .bool (atOK zs p)]) ∧ NewL w (plcI zs p) v w' := by
  have hF := arrowsAt_any A n c zs p w h hg
  have hq : (atLs zs p).length ≤ 1048576 := by have := atLs_len zs p; omega
  have h6 : ∀ L ∈ atLs zs p, 0 ≤ p ∧ p < 6 := fun L hL => by
    obtain ⟨hS, h0, hm, hz, _⟩ := atLs_mem hL
    have h1 := (sgS_iff.1 hS).ch L hz
    have h2 := (isC_len h1.1).2
    have h3 : L.length = m0 zs := h1.2
    omega
  clear h hg
  go_enter Tryz.func19, Tryz.ntmps19
  go_wp2_with fail
  refine hF.mono ?_
  rintro e w1 ⟨v, rfl, hown, hb⟩
  have hO := places_any (m0 zs) _ p v (atLs zs p) h6 hq w1 hown
  replace hO : Calls Tryz.prog 58 #[v, .int .i64 p] w1 fun e w' => ∃ v', e = .returned v' ∧ NewL w1 (plcI zs p) v' w' := hO
  obtain ⟨A1, c1, rfl⟩ := own_shape hown
  have hs := hb.size
  clear hown hF h6 hq
  go_wp2_with fail
  refine hO.mono ?_
  rintro e w2 ⟨v', rfl, ho, hb2⟩
  have hB := hb.trans (hb2.mono hs)
  clear hb hb2 hO
  go_wp2
  go_ret2
  exact ⟨_, rfl, own_base ho hs, hB⟩
end

end Go.Proofs.YtmknjifmmmnjjaaGreatDoor
