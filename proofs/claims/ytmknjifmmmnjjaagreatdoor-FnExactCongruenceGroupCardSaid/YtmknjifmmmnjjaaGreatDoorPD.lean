/-
  Ac.
-/
import Derived.Test.YtmknjifmmmnjjaaGreatDoorShi
import Derived.Test.YtmknjifmmmnjjaaGreatDoorPA
import Derived.Test.YtmknjifmmmnjjaaGreatDoorPC
namespace Go.Proofs.YtmknjifmmmnjjaaGreatDoor
set_option maxRecDepth 100000
set_option linter.unusedVariables false
set_option linter.unusedSimpArgs false
set_option linter.unusedSectionVars false

/-! (impl.arrows).part, numbers, lists. -/
section
open Go.RowKit Go.Maps

/-- what a function value answers of arrows -/
def HoldsAt (gf : Nat) (ca cb : Array Value) (m : Nat) (p : List Int → Bool) (Ls : List (List Int)) (w : World) : Prop :=
  ∀ L ∈ Ls, ∀ W, Below w.heap.size w W → Calls Tryz.prog gf (ca ++ #[.agg #[.int .i64 ((m : Int)), .int .i64 (ofL L 0), .int .i64 (ofL L 1), .int .i64 (ofL L 2), .int .i64 (ofL L 3), .int .i64 (ofL L 4), .int .i64 (ofL L 5), .int .i64 ((doN L : Nat)), .int .i64 ((raN L : Nat))]] ++ cb) W fun e W' => e = .returned (.bool (p L)) ∧ Below W.heap.size W W'
set_option maxHeartbeats 2000000 in
theorem apart_any (m gf lo : Nat) (ca cb : Array Value) (v : Value) (Ls : List (List Int)) (hq : Ls.length ≤ 1048576) (p : List Int → Bool) (w : World)
    (eg : ∀ args w, (callFunc gf args).run Tryz.prog w = .ok (.enter gf args) w) (hp : HoldsAt gf ca cb m p Ls w) (hown : w.ownsRow lo 65 9 v Ls.length (awc m Ls)) :
    Calls Tryz.prog 88 #[v, .func (.func gf) ca cb] w fun e w' => ∃ v', e = .returned v' ∧ w'.ownsRow w.heap.size 65 9 v' (Ls.filter p).length (awc m (Ls.filter p)) ∧ Below w.heap.size w w' := by
  obtain ⟨i1, hj, hj0, hj1, hj2⟩ := info_parts info_arrow
  obtain ⟨A, cp, rfl⟩ := own_shape hown
  have HP := Lib.hid hp
  have HOW := Lib.hid hown
  clear hown hp
  go_enter Tryz.func88, Tryz.ntmps88
  go_wp2
  go_loopw [5, 7, 10] (fun v _ i wr => ∃ k : Nat, k ≤ Ls.length ∧ i = .int .i64 (k : Int) ∧ wr.ownsRow w.heap.size 65 9 v ((Ls.take k).filter p).length (awc m ((Ls.take k).filter p)) ∧ Below w.heap.size w wr) (fun _ _ i _ => Ls.length - (intOf i).toNat)
  case atStart => exact ⟨0, Nat.zero_le _, rfl, World.ownsRow_nil _ _ _ _, Below.refl _ _⟩
  case round =>
    obtain ⟨k, hk, rfl, hown, hB⟩ := hrel
    by_cases hlt : k < Ls.length
    · obtain ⟨L, hL⟩ : ∃ L, Ls[k]? = some L := ⟨_, List.getElem?_eq_getElem hlt⟩
      have hr1 := own_below HOW.out hB
      obtain ⟨g1, cp1, hv, _, hg1⟩ := hr1.form (by omega)
      injection hv with hv1 _ hv3
      subst hv1
      have hC1 : Ars wr g1 m Ls := Ars.of_own hr1
      obtain ⟨c0, c1, c2, c3, c4, c5, c6, c7, c8⟩ := hC1.all hL
      have hE : ent Ls k = L := by unfold ent; rw [hL]; rfl
      have hB1 := hB.alloc hB.size (.cells #[.int .i64 ((m : Int)), .int .i64 (ofL L 0), .int .i64 (ofL L 1), .int .i64 (ofL L 2), .int .i64 (ofL L 3), .int .i64 (ofL L 4), .int .i64 (ofL L 5), .int .i64 ((doN L : Nat)), .int .i64 ((raN L : Nat))] 65)
      have hcall := HP.out L (List.mem_of_getElem? hL) (wr.alloc (.cells #[.int .i64 ((m : Int)), .int .i64 (ofL L 0), .int .i64 (ofL L 1), .int .i64 (ofL L 2), .int .i64 (ofL L 3), .int .i64 (ofL L 4), .int .i64 (ofL L 5), .int .i64 ((doN L : Nat)), .int .i64 ((raN L : Nat))] 65)) hB1
      have hown1 := hown.alloc (.cells #[.int .i64 ((m : Int)), .int .i64 (ofL L 0), .int .i64 (ofL L 1), .int .i64 (ofL L 2), .int .i64 (ofL L 3), .int .i64 (ofL L 4), .int .i64 (ofL L 5), .int .i64 ((doN L : Nat)), .int .i64 ((raN L : Nat))] 65)
      have hBx := Blk.new wr 65 #[.int .i64 ((m : Int)), .int .i64 (ofL L 0), .int .i64 (ofL L 1), .int .i64 (ofL L 2), .int .i64 (ofL L 3), .int .i64 (ofL L 4), .int .i64 (ofL L 5), .int .i64 ((doN L : Nat)), .int .i64 ((raN L : Nat))]
      clear hown hC1 hL hr1 hv3
      go_wp2_with fail
      refine hcall.mono ?_
      rintro e w2 ⟨rfl, hb2⟩
      have hown2 := own_below hown1 hb2
      have hB2 := hB1.trans (hb2.mono hB1.size)
      have hBx2 := hBx.below hb2 hBx.lt
      clear hown1 hb2 hBx hB1 hcall c0 c1 c2 c3 c4 c5 c6 c7 c8
      cases hpL : p L
      · have HT := Lib.hid (filt_no (p := p) hlt (by rw [hE]; exact hpL))
        clear hE hBx2 hpL
        go_wp2
        go_roundw
        case rel => exact ⟨k + 1, by omega, by go_num, by rw [HT.out]; exact hown2, hB2⟩
        case measure => simp [intOf]; omega
      · have HT := Lib.hid (filt_yes (p := p) hlt (by rw [hE]; exact hpL))
        rw [hE] at HT
        have hfl : ((Ls.take k).filter p).length ≤ k := Nat.le_trans (List.length_filter_le _ _) (by rw [List.length_take]; omega)
        have b0 := hBx2.cell 0
        have b1 := hBx2.cell 1
        have b2 := hBx2.cell 2
        have b3 := hBx2.cell 3
        have b4 := hBx2.cell 4
        have b5 := hBx2.cell 5
        have b6 := hBx2.cell 6
        have b7 := hBx2.cell 7
        have b8 := hBx2.cell 8
        have p1 : ((Ls.take k).filter p).length + 1 ≤ maxLen := by unfold maxLen; omega
        have p2 : (((Ls.take k).filter p).length + 1) * 72 ≤ 140737488355328 := by omega
        have p3 : w.heap.size ≤ (w2.alloc (.cells #[.int .i64 ((m : Int)), .int .i64 (ofL L 0), .int .i64 (ofL L 1), .int .i64 (ofL L 2), .int .i64 (ofL L 3), .int .i64 (ofL L 4), .int .i64 (ofL L 5), .int .i64 ((doN L : Nat)), .int .i64 ((raN L : Nat))] 65)).heap.size := by have := hB2.size; simp; omega
        have hrow2 := hown2.alloc (.cells #[.int .i64 ((m : Int)), .int .i64 (ofL L 0), .int .i64 (ofL L 1), .int .i64 (ofL L 2), .int .i64 (ofL L 3), .int .i64 (ofL L 4), .int .i64 (ofL L 5), .int .i64 ((doN L : Nat)), .int .i64 ((raN L : Nat))] 65)
        have hcl := cell_9_new w2 m L
        have hB3 := hB2.alloc hB2.size (.cells #[.int .i64 ((m : Int)), .int .i64 (ofL L 0), .int .i64 (ofL L 1), .int .i64 (ofL L 2), .int .i64 (ofL L 3), .int .i64 (ofL L 4), .int .i64 (ofL L 5), .int .i64 ((doN L : Nat)), .int .i64 ((raN L : Nat))] 65)
        generalize (Ls.take k).filter p = Fs at *
        clear hE hBx2 hpL hown2 hB2
        go_wp2_with (at_builtin; refine wpList_append_own _ rfl _ _ 56 rfl w.heap.size 65 i1 (.agg #[.int .i64 ((0 : Int)), .int .i64 ((fun _ => (0 : Int)) 0), .int .i64 ((fun _ => (0 : Int)) 1), .int .i64 ((fun _ => (0 : Int)) 2), .int .i64 ((fun _ => (0 : Int)) 3), .int .i64 ((fun _ => (0 : Int)) 4), .int .i64 ((fun _ => (0 : Int)) 5), .int .i64 ((0 : Int)), .int .i64 ((0 : Int))]) 9 72 Tryz.underlying56 hj hj0 hj1 hj2 rfl (by decide) _ _ _ rfl hrow2 ⟨w2.heap.size, 0, none⟩ 1 1 (c9 m L) rfl rfl hcl (c9_one _ _) p1 p2 p3 ?_; intro v' w4 hown' hgrow _)
        go_roundw
        case rel => exact ⟨k + 1, by omega, by go_num, by rw [HT.out, List.length_append, awc_append, awc_one_]; exact hown', hB3.grown hgrow p3 (fun g e => (hrow2.lt g e).1)⟩
        case measure => simp [intOf]; omega
    · obtain rfl : k = Ls.length := by omega
      have e : Ls.take Ls.length = Ls := List.take_of_length_le (Nat.le_refl _)
      rw [e] at hown
      go_wp2
      go_ret
      exact ⟨_, rfl, hown, hB⟩
end

end Go.Proofs.YtmknjifmmmnjjaaGreatDoor
