/-
  Ag.
-/
import Derived.Test.YtoomeimloaloaaaGreatDoorPF
namespace Go.Proofs.YtoomeimloaloaaaGreatDoor
set_option maxRecDepth 100000
set_option linter.unusedVariables false
set_option linter.unusedSimpArgs false
set_option linter.unusedSectionVars false

/-! slices.IndexFunc, slices.ContainsFunc of arrows; (impl.arrows).isObject, lists; ArrowObjects, ArrowLocal, ArrowFrom of the program. -/
section
open Go.RowKit Go.Maps

set_option maxHeartbeats 2000000 in
theorem idxA_any (m gf lo : Nat) (ca cb : Array Value) (v : Value) (Ls : List (List Int)) (hq : Ls.length ≤ 1048576) (p : List Int → Bool) (w : World)
    (eg : ∀ args w, (callFunc gf args).run Tryz.prog w = .ok (.enter gf args) w) (hp : HoldsAt gf ca cb m p Ls w) (hown : w.ownsRow lo 65 9 v Ls.length (awc m Ls)) :
    Calls Tryz.prog 106 #[v, .func (.func gf) ca cb] w fun e w' => ∃ r : Int, e = .returned (.int .i64 r) ∧ decide (r ≥ 0) = Ls.any p ∧ Below w.heap.size w w' := by
  obtain ⟨A, cp, rfl⟩ := own_shape hown
  have HP := Lib.hid hp
  have HOW := Lib.hid hown
  clear hown hp
  go_enter Tryz.func106, Tryz.ntmps106
  go_wp2
  go_loopw [8] (fun i wr => ∃ k : Nat, k ≤ Ls.length ∧ i = .int .i64 (k : Int) ∧ Hid ((Ls.take k).any p = false) ∧ Below w.heap.size w wr) (fun i _ => Ls.length - (intOf i).toNat)
  case atStart => exact ⟨0, Nat.zero_le _, rfl, rfl, Below.refl _ _⟩
  case round =>
    obtain ⟨k, hk, rfl, HN, hB⟩ := hrel
    by_cases hlt : k < Ls.length
    · obtain ⟨L, hL⟩ : ∃ L, Ls[k]? = some L := ⟨_, List.getElem?_eq_getElem hlt⟩
      have hr1 := own_below HOW.out hB
      obtain ⟨g1, cp1, hv, _, hg1⟩ := hr1.form (by omega)
      injection hv with hv1 _ hv3
      subst hv1
      have hC1 : Ars wr g1 m Ls := Ars.of_own hr1
      obtain ⟨c0, c1, c2, c3, c4, c5, c6, c7, c8⟩ := hC1.all hL
      have hcall := HP.out L (List.mem_of_getElem? hL) wr hB
      have HT : Hid (Ls.take (k + 1) = Ls.take k ++ [L]) := by show _ = _; rw [List.take_add_one, hL]; rfl
      have HM := Lib.hid (List.mem_of_getElem? hL)
      clear hC1 hL hr1 hv3
      go_wp2_with fail
      refine hcall.mono ?_
      rintro e w2 ⟨rfl, hb2⟩
      have hB2 := hB.trans (hb2.mono hB.size)
      clear hb2 hcall c0 c1 c2 c3 c4 c5 c6 c7 c8
      cases hpL : p L
      · have HN2 : Hid ((Ls.take (k + 1)).any p = false) := by show _ = _; rw [HT.out, List.any_append, HN.out, List.any_cons, hpL]; rfl
        clear hpL
        go_wp2
        go_roundw
        case rel => exact ⟨k + 1, by omega, by go_num, HN2, hB2⟩
        case measure => simp [intOf]; omega
      · have HA : Hid (Ls.any p = true) := List.any_eq_true.2 ⟨L, HM.out, hpL⟩
        clear hpL
        go_wp2
        go_ret
        exact ⟨_, rfl, by rw [HA.out]; exact decide_eq_true (by omega), hB2⟩
    · obtain rfl : k = Ls.length := by omega
      have HA : Hid (Ls.any p = false) := by have := HN.out; rw [List.take_of_length_le (Nat.le_refl _)] at this; exact this
      go_wp2
      go_ret
      exact ⟨-1, rfl, by rw [HA.out]; rfl, hB⟩
set_option maxHeartbeats 400000 in
theorem conA_any (m gf lo : Nat) (ca cb : Array Value) (v : Value) (Ls : List (List Int)) (hq : Ls.length ≤ 1048576) (p : List Int → Bool) (w : World)
    (eg : ∀ args w, (callFunc gf args).run Tryz.prog w = .ok (.enter gf args) w) (hp : HoldsAt gf ca cb m p Ls w) (hown : w.ownsRow lo 65 9 v Ls.length (awc m Ls)) :
    Calls Tryz.prog 76 #[v, .func (.func gf) ca cb] w fun e w' => e = .returned (.bool (Ls.any p)) ∧ Below w.heap.size w w' := by
  have hI := idxA_any m gf lo ca cb v Ls hq p w eg hp hown
  obtain ⟨A, cp, rfl⟩ := own_shape hown
  clear hp hown
  go_enter Tryz.func76, Tryz.ntmps76
  go_wp2_with fail
  refine hI.mono ?_
  rintro e w1 ⟨r, rfl, hr, hb⟩
  have HR := Lib.hid hr
  clear hr hI
  go_wp2
  go_ret
  exact ⟨by rw [← HR.out]; rfl, hb⟩
def isO (a : Int) (L : List Int) : Bool := decide (doI L = a)
theorem isObj1_in (m x : Nat) (a : Int) (L : List Int) (W : World) (hx : W.cell? ⟨x, 0, none⟩ = some (.int .i64 a)) (hxl : x < W.heap.size) :
    Calls Tryz.prog 77 #[.agg #[.int .i64 ((m : Int)), .int .i64 (ofL L 0), .int .i64 (ofL L 1), .int .i64 (ofL L 2), .int .i64 (ofL L 3), .int .i64 (ofL L 4), .int .i64 (ofL L 5), .int .i64 ((doN L : Nat)), .int .i64 ((raN L : Nat))], .pointer (some ⟨x, 0, none⟩)] W fun e W' => e = .returned (.bool (isO a L)) ∧ Below W.heap.size W W' := by
  have hB : Below W.heap.size W (W.alloc (.cells #[.int .i64 ((m : Int)), .int .i64 (ofL L 0), .int .i64 (ofL L 1), .int .i64 (ofL L 2), .int .i64 (ofL L 3), .int .i64 (ofL L 4), .int .i64 (ofL L 5), .int .i64 ((doN L : Nat)), .int .i64 ((raN L : Nat))] 65)) := (Below.refl _ _).alloc (Nat.le_refl _) _
  have hx1 : (W.alloc (.cells #[.int .i64 ((m : Int)), .int .i64 (ofL L 0), .int .i64 (ofL L 1), .int .i64 (ofL L 2), .int .i64 (ofL L 3), .int .i64 (ofL L 4), .int .i64 (ofL L 5), .int .i64 ((doN L : Nat)), .int .i64 ((raN L : Nat))] 65)).cell? ⟨x, 0, none⟩ = some (.int .i64 a) := (hB.cell hxl).trans hx
  have H1 : Hid ((((doN L : Nat) : Int) == a) = isO a L) := eqI_dec (doN L : Nat) a
  clear hx
  go_enter Tryz.func77, Tryz.ntmps77
  go_wp2
  go_ret
  exact ⟨by rw [← H1.out]; rfl, hB⟩
set_option maxHeartbeats 400000 in
theorem isObject_any (m lo : Nat) (a : Int) (v : Value) (Ls : List (List Int)) (hq : Ls.length ≤ 1048576) (w : World) (hown : w.ownsRow lo 65 9 v Ls.length (awc m Ls)) :
    Calls Tryz.prog 46 #[v, .int .i64 a] w fun e w' => e = .returned (.bool (Ls.any (isO a))) ∧ Below w.heap.size w w' := by
  have eg : ∀ args w, (callFunc 77 args).run Tryz.prog w = .ok (.enter 77 args) w := enters_of Tryz.func77 (by kernel_rfl) rfl
  have hB0 : Below w.heap.size w (w.alloc (.cells #[.int .i64 a] 3)) := (Below.refl _ w).alloc (Nat.le_refl _) _
  have hX := Blk.new w 3 #[.int .i64 a]
  have hP := conA_any m 77 lo #[] #[.pointer (some ⟨w.heap.size, 0, none⟩)] v Ls hq (isO a) (w.alloc (.cells #[.int .i64 a] 3)) eg
    (fun L _ W hW => isObj1_in m w.heap.size a L W ((hX.below hW hX.lt).cell 0) (hX.below hW hX.lt).lt) (hown.alloc _)
  obtain ⟨A, cp, rfl⟩ := own_shape hown
  have hs0 := hB0.size
  clear hown hX
  go_enter Tryz.func46, Tryz.ntmps46
  go_wp2_with fail
  refine hP.mono ?_
  rintro e w1 ⟨rfl, hb⟩
  have hB := hB0.trans (hb.mono hs0)
  go_wp2
  go_ret
  exact ⟨rfl, hB⟩
end

end Go.Proofs.YtoomeimloaloaaaGreatDoor
