/-
  Bd7.
-/
import Derived.Deep.RegionHeld3
import Derived.ChangeKeysEq
import Derived.Laws.StructEq
import Derived.Test.YtoomeimloaloaaaGreatDoorMC
import Derived.Test.YtoomeimloaloaaaGreatDoorQB
namespace Go.Proofs.YtoomeimloaloaaaGreatDoor
set_option maxRecDepth 100000
set_option linter.unusedVariables false
set_option linter.unusedSimpArgs false
set_option linter.unusedSectionVars false

/-! slices.Index and slices.Contains of arrows. -/
section
open Go.RowKit Go.Maps

set_option maxHeartbeats 400000 in
theorem arr_eq8 (a0 a1 a2 a3 a4 a5 b0 b1 b2 b3 b4 b5 : Int) (w : World) :
    (Op.equalIn 9998 59 (.agg #[.int .i64 a0, .int .i64 a1, .int .i64 a2, .int .i64 a3, .int .i64 a4, .int .i64 a5]) (.agg #[.int .i64 b0, .int .i64 b1, .int .i64 b2, .int .i64 b3, .int .i64 b4, .int .i64 b5])).run Tryz.prog w = .ok (a0 == b0 && (a1 == b1 && (a2 == b2 && (a3 == b3 && (a4 == b4 && a5 == b5))))) w := by
  obtain ⟨i0, hi, hz0, hz1, hz2⟩ := info_parts info_int
  have hc : Tryz.prog.cellsOf 3 = 1 := by kernel_rfl
  have hpk : Tryz.prog.plainKey 3 = true := by kernel_rfl
  have hp : ∀ (xs : Array Value) (j : Nat) (v : Value) (W : World), xs[j]? = some v → (part 3 xs j).run Tryz.prog W = .ok v W := fun xs j v W h => run_part_plain W hpk h
  rw [run_equalIn_array w 9997 _ _ Tryz.underlying59 hi]
  have q0 := fun W => hp #[Value.int .i64 a0, .int .i64 a1, .int .i64 a2, .int .i64 a3, .int .i64 a4, .int .i64 a5] 0 _ W rfl
  have q1 := fun W => hp #[Value.int .i64 a0, .int .i64 a1, .int .i64 a2, .int .i64 a3, .int .i64 a4, .int .i64 a5] 1 _ W rfl
  have q2 := fun W => hp #[Value.int .i64 a0, .int .i64 a1, .int .i64 a2, .int .i64 a3, .int .i64 a4, .int .i64 a5] 2 _ W rfl
  have q3 := fun W => hp #[Value.int .i64 a0, .int .i64 a1, .int .i64 a2, .int .i64 a3, .int .i64 a4, .int .i64 a5] 3 _ W rfl
  have q4 := fun W => hp #[Value.int .i64 a0, .int .i64 a1, .int .i64 a2, .int .i64 a3, .int .i64 a4, .int .i64 a5] 4 _ W rfl
  have q5 := fun W => hp #[Value.int .i64 a0, .int .i64 a1, .int .i64 a2, .int .i64 a3, .int .i64 a4, .int .i64 a5] 5 _ W rfl
  have r0 := fun W => hp #[Value.int .i64 b0, .int .i64 b1, .int .i64 b2, .int .i64 b3, .int .i64 b4, .int .i64 b5] 0 _ W rfl
  have r1 := fun W => hp #[Value.int .i64 b0, .int .i64 b1, .int .i64 b2, .int .i64 b3, .int .i64 b4, .int .i64 b5] 1 _ W rfl
  have r2 := fun W => hp #[Value.int .i64 b0, .int .i64 b1, .int .i64 b2, .int .i64 b3, .int .i64 b4, .int .i64 b5] 2 _ W rfl
  have r3 := fun W => hp #[Value.int .i64 b0, .int .i64 b1, .int .i64 b2, .int .i64 b3, .int .i64 b4, .int .i64 b5] 3 _ W rfl
  have r4 := fun W => hp #[Value.int .i64 b0, .int .i64 b1, .int .i64 b2, .int .i64 b3, .int .i64 b4, .int .i64 b5] 4 _ W rfl
  have r5 := fun W => hp #[Value.int .i64 b0, .int .i64 b1, .int .i64 b2, .int .i64 b3, .int .i64 b4, .int .i64 b5] 5 _ W rfl
  have hq : ∀ (a b : Int) (W : World), (Op.equalIn 9997 3 (.int .i64 a) (.int .i64 b)).run Tryz.prog W = .ok (a == b) W := fun a b W => run_equalIn_int W 9996 3 .i64 .i64 a b Tryz.underlying3
  clear hp
  simp [Op.eqItems, hc, List.range_succ, q0, q1, q2, q3, q4, q5, r0, r1, r2, r3, r4, r5, hq]
  by_cases h0 : a0 = b0 <;> by_cases h1 : a1 = b1 <;> by_cases h2 : a2 = b2 <;> by_cases h3 : a3 = b3 <;> by_cases h4 : a4 = b4 <;> by_cases h5 : a5 = b5 <;> simp [h0, h1, h2, h3, h4, h5]
def eqAr (k0 m : Nat) (T : Nat → Int) (x y : Int) (L : List Int) : Bool := decide ((k0 : Int) = (m : Int)) && ((T 0 == ofL L 0 && (T 1 == ofL L 1 && (T 2 == ofL L 2 && (T 3 == ofL L 3 && (T 4 == ofL L 4 && T 5 == ofL L 5))))) && (decide (x = ((doN L : Nat) : Int)) && decide (y = ((raN L : Nat) : Int))))
theorem any_step3 {zs : List (List Int)} {p : List Int → Bool} {k : Nat} {L : List Int} (h : zs[k]? = some L) : (zs.take (k + 1)).any p = ((zs.take k).any p || p L) := by
  rw [List.take_add_one, h, Option.toList_some, List.any_append]; simp
set_option maxHeartbeats 2000000 in
theorem indexAr_any (m lo k0 : Nat) (x y : Int) (T : Nat → Int) (v : Value) (Ls : List (List Int)) (hq : Ls.length ≤ 1048576) (w : World) (hown : w.ownsRow lo 65 9 v Ls.length (awc m Ls)) :
    Calls Tryz.prog 85 #[v, .agg #[.int .i64 ((k0 : Int)), .int .i64 (T 0), .int .i64 (T 1), .int .i64 (T 2), .int .i64 (T 3), .int .i64 (T 4), .int .i64 (T 5), .int .i64 (x), .int .i64 (y)]] w fun e w' => ∃ r : Int, e = .returned (.int .i64 r) ∧ decide (r ≥ 0) = Ls.any (eqAr k0 m T x y) ∧ Below w.heap.size w w' := by
  obtain ⟨A, cp, rfl⟩ := own_shape hown
  have hX := Blk.new w 65 #[.int .i64 ((k0 : Int)), .int .i64 (T 0), .int .i64 (T 1), .int .i64 (T 2), .int .i64 (T 3), .int .i64 (T 4), .int .i64 (T 5), .int .i64 (x), .int .i64 (y)]
  have hB0 : Below w.heap.size w (w.alloc (.cells #[.int .i64 ((k0 : Int)), .int .i64 (T 0), .int .i64 (T 1), .int .i64 (T 2), .int .i64 (T 3), .int .i64 (T 4), .int .i64 (T 5), .int .i64 (x), .int .i64 (y)] 65)) := (Below.refl _ _).alloc (Nat.le_refl _) _
  have HOW := Lib.hid hown
  clear hown
  go_enter Tryz.func85, Tryz.ntmps85
  go_wp2
  go_loopw [8] (fun i wr => ∃ k : Nat, k ≤ Ls.length ∧ i = .int .i64 (k : Int) ∧ Hid ((Ls.take k).any (eqAr k0 m T x y) = false) ∧ Blk wr w.heap.size 65 #[.int .i64 ((k0 : Int)), .int .i64 (T 0), .int .i64 (T 1), .int .i64 (T 2), .int .i64 (T 3), .int .i64 (T 4), .int .i64 (T 5), .int .i64 (x), .int .i64 (y)] ∧ Below w.heap.size w wr) (fun i _ => Ls.length - (intOf i).toNat)
  case atStart => exact ⟨0, Nat.zero_le _, rfl, rfl, hX, hB0⟩
  case round =>
    clear hX hB0
    obtain ⟨k, hk, rfl, HN, hX, hB⟩ := hrel
    by_cases hlt : k < Ls.length
    · obtain ⟨L, hL⟩ : ∃ L, Ls[k]? = some L := ⟨_, List.getElem?_eq_getElem hlt⟩
      have hr1 := own_below HOW.out hB
      obtain ⟨g1, cp1, hv, _, hg1⟩ := hr1.form (by omega)
      injection hv with hv1 _ hv3
      subst hv1
      have hC1 : Ars wr g1 m Ls := Ars.of_own hr1
      have hki : (k : Int) < (Ls.length : Int) := by omega
      obtain ⟨c0, c1, c2, c3, c4, c5, c6, c7, c8⟩ := hC1.all hL
      have d0 := hX.cell 0
      have d1 := hX.cell 1
      have d2 := hX.cell 2
      have d3 := hX.cell 3
      have d4 := hX.cell 4
      have d5 := hX.cell 5
      have d6 := hX.cell 6
      have d7 := hX.cell 7
      have d8 := hX.cell 8
      have HST := Lib.hid (any_step3 (p := eqAr k0 m T x y) hL)
      have HM := Lib.hid (List.mem_of_getElem? hL)
      clear hC1 hr1 hv3 hL
      go_wp2
      obtain ⟨ab, hab⟩ : ∃ ab : Bool, (T 0 == ofL L 0 && (T 1 == ofL L 1 && (T 2 == ofL L 2 && (T 3 == ofL L 3 && (T 4 == ofL L 4 && T 5 == ofL L 5))))) = ab := ⟨_, rfl⟩
      have harr : ∀ W, (Op.equalIn 9998 59 (.agg #[.int .i64 (T 0), .int .i64 (T 1), .int .i64 (T 2), .int .i64 (T 3), .int .i64 (T 4), .int .i64 (T 5)]) (.agg #[.int .i64 (ofL L 0), .int .i64 (ofL L 1), .int .i64 (ofL L 2), .int .i64 (ofL L 3), .int .i64 (ofL L 4), .int .i64 (ofL L 5)])).run Tryz.prog W = .ok ab W := fun W => by rw [← hab]; exact arr_eq8 _ _ _ _ _ _ _ _ _ _ _ _ W
      obtain ⟨r, hr⟩ : ∃ r : Bool, r = (decide ((k0 : Int) = (m : Int)) && (ab && (decide (x = ((doN L : Nat) : Int)) && decide (y = ((raN L : Nat) : Int))))) := ⟨_, rfl⟩
      have HR : Hid (r = eqAr k0 m T x y L) := by show _ = _; rw [hr, ← hab]; rfl
      clear hab
      refine wp_region_held_drew (S := (fun w' => w'.cell? ⟨g1, k * 9, none⟩ = some (.int .i64 (m : Int)) ∧ w'.cell? ⟨g1, k * 9 + 1, none⟩ = some (.int .i64 (ofL L 0)) ∧ w'.cell? ⟨g1, k * 9 + 2, none⟩ = some (.int .i64 (ofL L 1)) ∧ w'.cell? ⟨g1, k * 9 + 3, none⟩ = some (.int .i64 (ofL L 2)) ∧ w'.cell? ⟨g1, k * 9 + 4, none⟩ = some (.int .i64 (ofL L 3)) ∧ w'.cell? ⟨g1, k * 9 + 5, none⟩ = some (.int .i64 (ofL L 4)) ∧ w'.cell? ⟨g1, k * 9 + 6, none⟩ = some (.int .i64 (ofL L 5)) ∧ w'.cell? ⟨g1, k * 9 + 7, none⟩ = some (.int .i64 (doN L : Nat)) ∧ w'.cell? ⟨g1, k * 9 + 8, none⟩ = some (.int .i64 (raN L : Nat)) ∧ w'.cell? ⟨w.heap.size, 0, none⟩ = some (.int .i64 (k0 : Int)) ∧ w'.cell? ⟨w.heap.size, 1, none⟩ = some (.int .i64 (T 0)) ∧ w'.cell? ⟨w.heap.size, 2, none⟩ = some (.int .i64 (T 1)) ∧ w'.cell? ⟨w.heap.size, 3, none⟩ = some (.int .i64 (T 2)) ∧ w'.cell? ⟨w.heap.size, 4, none⟩ = some (.int .i64 (T 3)) ∧ w'.cell? ⟨w.heap.size, 5, none⟩ = some (.int .i64 (T 4)) ∧ w'.cell? ⟨w.heap.size, 6, none⟩ = some (.int .i64 (T 5)) ∧ w'.cell? ⟨w.heap.size, 7, none⟩ = some (.int .i64 x) ∧ w'.cell? ⟨w.heap.size, 8, none⟩ = some (.int .i64 y))) (by kernel_rfl) ?_ (fun hHeld => ?_)
      · exact ⟨c0, c1, c2, c3, c4, c5, c6, c7, c8, d0, d1, d2, d3, d4, d5, d6, d7, d8⟩
      refine wpAnyH_take (i := 0) (v := .agg #[.int .i64 (k0 : Int), .int .i64 (T 0), .int .i64 (T 1), .int .i64 (T 2), .int .i64 (T 3), .int .i64 (T 4), .int .i64 (T 5), .int .i64 x, .int .i64 y]) (by rw [List.getElem?_toArray]; rfl) (by kernel_rfl) (by kernel_rfl) (by kernel_rfl) (by exact fun _ _ _ h => h) (Or.inl ⟨by rfl, fun w hSw => by (try dsimp only at hSw); (go_simp <;> (by_cases e1 : (k0 : Int) = (m : Int) <;> by_cases e2 : x = ((doN L : Nat) : Int) <;> by_cases e3 : y = ((raN L : Nat) : Int) <;> cases ab <;> simp_all))⟩) (by assumption) ?_
      try simp only [Act.put, List.setIfInBounds_toArray, List.set_cons_zero, List.set_cons_succ]
      refine wpAnyH_take (i := 1) (v := .slice (some ⟨g1, 0, none⟩) Ls.length cp) (by rw [List.getElem?_toArray]; rfl) (by kernel_rfl) (by kernel_rfl) (by kernel_rfl) (by exact fun _ _ _ h => h) (Or.inl ⟨by rfl, fun w hSw => by (try dsimp only at hSw); (go_simp <;> (by_cases e1 : (k0 : Int) = (m : Int) <;> by_cases e2 : x = ((doN L : Nat) : Int) <;> by_cases e3 : y = ((raN L : Nat) : Int) <;> cases ab <;> simp_all))⟩) (by assumption) ?_
      try simp only [Act.put, List.setIfInBounds_toArray, List.set_cons_zero, List.set_cons_succ]
      refine wpAnyH_take (i := 2) (v := .int .i64 (k : Int)) (by rw [List.getElem?_toArray]; rfl) (by kernel_rfl) (by kernel_rfl) (by kernel_rfl) (by exact fun _ _ _ h => h) (Or.inl ⟨by rfl, fun w hSw => by (try dsimp only at hSw); (go_simp <;> (by_cases e1 : (k0 : Int) = (m : Int) <;> by_cases e2 : x = ((doN L : Nat) : Int) <;> by_cases e3 : y = ((raN L : Nat) : Int) <;> cases ab <;> simp_all))⟩) (by assumption) ?_
      try simp only [Act.put, List.setIfInBounds_toArray, List.set_cons_zero, List.set_cons_succ]
      refine wpAnyH_take (i := 3) (v := .pointer (some ⟨g1, k * 9, none⟩)) (by rw [List.getElem?_toArray]; rfl) (by kernel_rfl) (by kernel_rfl) (by kernel_rfl) (by exact fun _ _ _ h => h) (Or.inl ⟨by rfl, fun w hSw => by (try dsimp only at hSw); (go_simp <;> (by_cases e1 : (k0 : Int) = (m : Int) <;> by_cases e2 : x = ((doN L : Nat) : Int) <;> by_cases e3 : y = ((raN L : Nat) : Int) <;> cases ab <;> simp_all))⟩) (by assumption) ?_
      try simp only [Act.put, List.setIfInBounds_toArray, List.set_cons_zero, List.set_cons_succ]
      refine wpAnyH_take (i := 4) (v := .agg #[.int .i64 (m : Int), .int .i64 (ofL L 0), .int .i64 (ofL L 1), .int .i64 (ofL L 2), .int .i64 (ofL L 3), .int .i64 (ofL L 4), .int .i64 (ofL L 5), .int .i64 (doN L : Nat), .int .i64 (raN L : Nat)]) (by rw [List.getElem?_toArray]; rfl) (by kernel_rfl) (by kernel_rfl) (by kernel_rfl) (by exact fun _ _ _ h => h) (Or.inl ⟨by rfl, fun w hSw => by (try dsimp only at hSw); (go_simp <;> (by_cases e1 : (k0 : Int) = (m : Int) <;> by_cases e2 : x = ((doN L : Nat) : Int) <;> by_cases e3 : y = ((raN L : Nat) : Int) <;> cases ab <;> simp_all))⟩) (by assumption) ?_
      try simp only [Act.put, List.setIfInBounds_toArray, List.set_cons_zero, List.set_cons_succ]
      refine wpAnyH_take (i := 5) (v := .bool r) (by rw [List.getElem?_toArray]; rfl) (by kernel_rfl) (by kernel_rfl) (by kernel_rfl) (by exact fun _ _ _ h => h) (Or.inl ⟨by rfl, fun w hSw => by (try dsimp only at hSw); (go_simp <;> (by_cases e1 : (k0 : Int) = (m : Int) <;> by_cases e2 : x = ((doN L : Nat) : Int) <;> by_cases e3 : y = ((raN L : Nat) : Int) <;> cases ab <;> simp_all))⟩) (by assumption) ?_
      try simp only [Act.put, List.setIfInBounds_toArray, List.set_cons_zero, List.set_cons_succ]
      refine wpAnyH_done (by kernel_rfl) ?_ _
      have hX2 := hX.drew
      have hB2 := hB.drew
      clear c0 c1 c2 c3 c4 c5 c6 c7 c8 d0 d1 d2 d3 d4 d5 d6 d7 d8 hX hB harr hHeld hr
      cases r
      · have HN2 : Hid ((Ls.take (k + 1)).any (eqAr k0 m T x y) = false) := by show _ = _; rw [HST.out, HN.out, ← HR.out]; rfl
        go_wp2
        go_roundw
        case rel => exact ⟨k + 1, by omega, by go_num, HN2, hX2, hB2⟩
        case measure => simp [intOf]; omega
      · have HA : Hid (Ls.any (eqAr k0 m T x y) = true) := List.any_eq_true.2 ⟨L, HM.out, HR.out.symm⟩
        go_wp2
        go_ret
        exact ⟨_, rfl, by rw [HA.out]; exact decide_eq_true (by omega), hB2⟩
    · obtain rfl : k = Ls.length := by omega
      have HA : Hid (Ls.any (eqAr k0 m T x y) = false) := by have := HN.out; rw [List.take_of_length_le (Nat.le_refl _)] at this; exact this
      go_wp2
      go_ret
      exact ⟨-1, rfl, by rw [HA.out]; rfl, hB⟩
set_option maxHeartbeats 400000 in
theorem containsAr_any (m lo k0 : Nat) (x y : Int) (T : Nat → Int) (v : Value) (Ls : List (List Int)) (hq : Ls.length ≤ 1048576) (w : World) (hown : w.ownsRow lo 65 9 v Ls.length (awc m Ls)) :
    Calls Tryz.prog 53 #[v, .agg #[.int .i64 ((k0 : Int)), .int .i64 (T 0), .int .i64 (T 1), .int .i64 (T 2), .int .i64 (T 3), .int .i64 (T 4), .int .i64 (T 5), .int .i64 (x), .int .i64 (y)]] w fun e w' => e = .returned (.bool (Ls.any (eqAr k0 m T x y))) ∧ Below w.heap.size w w' := by
  have hB0 : Below w.heap.size w (w.alloc (.cells #[.int .i64 ((k0 : Int)), .int .i64 (T 0), .int .i64 (T 1), .int .i64 (T 2), .int .i64 (T 3), .int .i64 (T 4), .int .i64 (T 5), .int .i64 (x), .int .i64 (y)] 65)) := (Below.refl _ _).alloc (Nat.le_refl _) _
  have hI := indexAr_any m lo k0 x y T v Ls hq _ (hown.alloc (.cells #[.int .i64 ((k0 : Int)), .int .i64 (T 0), .int .i64 (T 1), .int .i64 (T 2), .int .i64 (T 3), .int .i64 (T 4), .int .i64 (T 5), .int .i64 (x), .int .i64 (y)] 65))
  obtain ⟨A, cp, rfl⟩ := own_shape hown
  have hs := hB0.size
  clear hown
  go_enter Tryz.func53, Tryz.ntmps53
  go_wp2_with fail
  refine hI.mono ?_
  rintro e w1 ⟨r, rfl, hr, hb⟩
  have HR := Lib.hid hr
  have hB := hB0.trans (hb.mono hs)
  clear hr hI hb
  go_wp2
  go_ret
  exact ⟨by rw [← HR.out]; rfl, hB⟩
end

end Go.Proofs.YtoomeimloaloaaaGreatDoor
