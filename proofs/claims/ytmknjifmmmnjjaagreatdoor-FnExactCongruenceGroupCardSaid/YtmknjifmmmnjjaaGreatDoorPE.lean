/-
  Ae.
-/
import Derived.Test.YtmknjifmmmnjjaaGreatDoorPA
import Derived.Test.YtmknjifmmmnjjaaGreatDoorPD
namespace Go.Proofs.YtmknjifmmmnjjaaGreatDoor
set_option maxRecDepth 100000
set_option linter.unusedVariables false
set_option linter.unusedSimpArgs false
set_option linter.unusedSectionVars false

/-! (impl.arrows).numbers, lists; impl.arrowsFrom; objects, isObject, between, and what is asked of them: ArrowObjects, ArrowLocal, ArrowFrom. -/
section
open Go.RowKit Go.Maps

def NumsAt (gf : Nat) (ca cb : Array Value) (m : Nat) (z : List Int → Int) (Ls : List (List Int)) (w : World) : Prop :=
  ∀ L ∈ Ls, ∀ W, Below w.heap.size w W → Calls Tryz.prog gf (ca ++ #[.agg #[.int .i64 ((m : Int)), .int .i64 (ofL L 0), .int .i64 (ofL L 1), .int .i64 (ofL L 2), .int .i64 (ofL L 3), .int .i64 (ofL L 4), .int .i64 (ofL L 5), .int .i64 ((doN L : Nat)), .int .i64 ((raN L : Nat))]] ++ cb) W fun e W' => e = .returned (.int .i64 (z L)) ∧ Below W.heap.size W W'
theorem nums_nil : nums [] = [] := List.eq_nil_iff_forall_not_mem.2 (fun x h => by rw [nums_mem] at h; cases h)
set_option maxHeartbeats 2000000 in
theorem numbers_any (m gf lo : Nat) (ca cb : Array Value) (v : Value) (Ls : List (List Int)) (hq : Ls.length ≤ 1048576) (z : List Int → Int) (w : World)
    (eg : ∀ args w, (callFunc gf args).run Tryz.prog w = .ok (.enter gf args) w) (hp : NumsAt gf ca cb m z Ls w) (hown : w.ownsRow lo 65 9 v Ls.length (awc m Ls)) :
    Calls Tryz.prog 108 #[v, .func (.func gf) ca cb] w fun e w' => ∃ v', e = .returned v' ∧ w'.ownsRow w.heap.size 3 1 v' (nums (Ls.map z)).length (ivs (nums (Ls.map z))) ∧ Below w.heap.size w w' := by
  obtain ⟨i0, hi, hz0, hz1, hz2⟩ := info_parts info_int
  obtain ⟨A, cp, rfl⟩ := own_shape hown
  have HP := Lib.hid hp
  have HOW := Lib.hid hown
  clear hown hp
  go_enter Tryz.func108, Tryz.ntmps108
  go_wp2
  go_loopw [5, 7, 10] (fun v _ i wr => ∃ k : Nat, k ≤ Ls.length ∧ i = .int .i64 (k : Int) ∧ wr.ownsRow w.heap.size 3 1 v k (ivs ((Ls.take k).map z)) ∧ Below w.heap.size w wr) (fun _ _ i _ => Ls.length - (intOf i).toNat)
  case atStart => exact ⟨0, Nat.zero_le _, rfl, World.ownsRow_nil _ _ _ _, Below.refl _ _⟩
  case round =>
    obtain ⟨k, hk, rfl, hown, hB⟩ := hrel
    by_cases hlt : k < Ls.length
    · obtain ⟨L, hL⟩ : ∃ L, Ls[k]? = some L := ⟨_, List.getElem?_eq_getElem hlt⟩
      have hr1 := own_below HOW.out hB
      obtain ⟨g1, cp1, hv, _, hg1⟩ := hr1.form (by omega)
      injection hv with hv1 _ hv3
      subst hv1
      have hC1 : Ars wr g1 m Ls := Ars.of_own hr1
      obtain ⟨c0, c1, c2, c3, c4, c5, c6, c7, c8⟩ := hC1.all hL
      have HT : Hid ((Ls.take k).map z ++ [z L] = (Ls.take (k + 1)).map z) := by show _ = _; rw [List.take_add_one, hL, List.map_append]; rfl
      have hB1 := hB.alloc hB.size (.cells #[.int .i64 ((m : Int)), .int .i64 (ofL L 0), .int .i64 (ofL L 1), .int .i64 (ofL L 2), .int .i64 (ofL L 3), .int .i64 (ofL L 4), .int .i64 (ofL L 5), .int .i64 ((doN L : Nat)), .int .i64 ((raN L : Nat))] 65)
      have hcall := HP.out L (List.mem_of_getElem? hL) (wr.alloc (.cells #[.int .i64 ((m : Int)), .int .i64 (ofL L 0), .int .i64 (ofL L 1), .int .i64 (ofL L 2), .int .i64 (ofL L 3), .int .i64 (ofL L 4), .int .i64 (ofL L 5), .int .i64 ((doN L : Nat)), .int .i64 ((raN L : Nat))] 65)) hB1
      have hown1 := hown.alloc (.cells #[.int .i64 ((m : Int)), .int .i64 (ofL L 0), .int .i64 (ofL L 1), .int .i64 (ofL L 2), .int .i64 (ofL L 3), .int .i64 (ofL L 4), .int .i64 (ofL L 5), .int .i64 ((doN L : Nat)), .int .i64 ((raN L : Nat))] 65)
      clear hown hC1 hL hr1 hv3
      go_wp2_with fail
      refine hcall.mono ?_
      rintro e w2 ⟨rfl, hb2⟩
      have hown2 := own_below hown1 hb2
      have hB2 := hB1.trans (hb2.mono hB1.size)
      clear hown1 hb2 hB1 hcall c0 c1 c2 c3 c4 c5 c6 c7 c8
      have p1 : k + 1 ≤ maxLen := by unfold maxLen; omega
      have p2 : (k + 1) * 8 ≤ 140737488355328 := by omega
      have p3 : ∀ o : Obj, w.heap.size ≤ (w2.alloc o).heap.size := fun o => by have := hB2.size; simp; omega
      go_wp2_with (at_builtin; refine wpList_append_own _ rfl _ _ 24 rfl w.heap.size 3 i0 (.int .i64 0) 1 8 Tryz.underlying24 hi hz0 hz1 hz2 rfl (by decide) _ _ _ rfl (hown2.alloc _) ⟨w2.heap.size, 0, none⟩ 1 1 [.int .i64 (z L)] rfl rfl (cell_one_new _ _ _) (by simp [Value.oneCell']) p1 p2 (p3 _) ?_; intro v' w4 hown' hgrow _)
      have hR := app_step hB2 hown2 hown' hgrow HT.out
      go_roundw
      case rel => exact ⟨k + 1, by omega, by go_num, hR.1, hR.2⟩
      case measure => simp [intOf]; omega
    · obtain rfl : k = Ls.length := by omega
      have e : Ls.take Ls.length = Ls := List.take_of_length_le (Nat.le_refl _)
      rw [e] at hown
      clear e
      by_cases h0 : Ls.length = 0
      · have hLs : Ls = [] := List.length_eq_zero_iff.1 h0
        have HE : Hid (nums (Ls.map z) = []) := by show _ = _; rw [hLs]; exact nums_nil
        rw [h0] at hown
        obtain ⟨A2, c2, rfl⟩ := own_shape hown
        have HO : Hid (wr.ownsRow w.heap.size 3 1 (.slice A2 0 c2) 0 (ivs [])) := by
          show World.ownsRow _ _ _ _ _ _ _
          rw [hLs] at hown; exact hown
        have HB := Lib.hid hB
        have hsort := Any.slices_Sort_int_none Tryz.sortI A2 c2 wr
        have hcomp := Any.slices_Compact_int_empty Tryz.compI A2 c2 wr
        clear hown hB h0 hLs
        go_wp2_with fail
        refine hsort.mono ?_
        rintro e w3 ⟨rfl, rfl⟩
        go_wp2_with fail
        refine hcomp.mono ?_
        rintro e w4 ⟨rfl, rfl⟩
        go_wp2
        go_ret
        exact ⟨_, rfl, by rw [HE.out]; exact HO.out, HB.out⟩
      · obtain ⟨g, c2, rfl⟩ : ∃ g c, u5 = .slice (some ⟨g, 0, none⟩) Ls.length c := by obtain ⟨g, c, h, _⟩ := hown.form (by omega); exact ⟨g, c, h⟩
        have hsort := sortI_any g Ls.length c2 w.heap.size (Ls.map z) wr (by simp) hq hown
        have hglo := (hown.lt g rfl).1
        clear hown
        go_wp2_with fail
        refine hsort.mono ?_
        rintro e w3 ⟨rfl, ho3, hg3⟩
        have hcomp := compI_any g Ls.length c2 w.heap.size ((Ls.map z).mergeSort (fun x y => decide (x ≤ y))) w3 (by rw [List.length_mergeSort, List.length_map]) hq ho3
        have hB3 := hB.grown hg3 hB.size (fun g' e => by injection e with e; omega)
        clear hsort ho3 hg3
        go_wp2_with fail
        refine hcomp.mono ?_
        rintro e w4 ⟨rfl, ho4, hg4⟩
        have hB4 := hB3.grown hg4 hB3.size (fun g' e => by injection e with e; omega)
        clear hcomp hg4 hB3 hB
        go_wp2
        go_ret
        exact ⟨_, rfl, ho4, hB4⟩
end

end Go.Proofs.YtmknjifmmmnjjaaGreatDoor
