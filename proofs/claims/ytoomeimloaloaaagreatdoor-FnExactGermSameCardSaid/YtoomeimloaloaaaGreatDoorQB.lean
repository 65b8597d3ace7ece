/-
  Bc7.
-/
import Derived.Test.YtoomeimloaloaaaGreatDoorMA
import Derived.Test.YtoomeimloaloaaaGreatDoorPM
namespace Go.Proofs.YtoomeimloaloaaaGreatDoor
set_option maxRecDepth 100000
set_option linter.unusedVariables false
set_option linter.unusedSimpArgs false
set_option linter.unusedSectionVars false

/-! (impl.arrows).leastObject, (impl.arrow).germ; slices.Index and slices.Contains of arrows. -/
section
open Go.RowKit Go.Maps

def ldN (Ls : List (List Int)) : Nat := Ls.foldl (fun m L => m &&& doN L) 63
theorem ldN_step {Ls : List (List Int)} {k : Nat} {L : List Int} (h : Ls[k]? = some L) : ldN (Ls.take (k + 1)) = ldN (Ls.take k) &&& doN L := by
  unfold ldN
  rw [List.take_add_one, h, Option.toList_some, List.foldl_append]
  rfl
theorem foldl_and_le : ∀ (Ls : List (List Int)) (m : Nat), m < 64 → Ls.foldl (fun m L => m &&& doN L) m < 64
  | [], _, h => h
  | L :: Ls, m, h => foldl_and_le Ls _ (Nat.lt_of_le_of_lt Nat.and_le_left h)
theorem ldN_64 (Ls : List (List Int)) : ldN Ls < 64 := foldl_and_le Ls 63 (by omega)
theorem and64_fin : ∀ (a b : Fin 64), bits BinOp.and IntKind.i64 (a.val : Int) (b.val : Int) = ((a.val &&& b.val : Nat) : Int) := by decide +kernel
theorem and64_is {a b : Nat} (ha : a < 64) (hb : b < 64) : bits BinOp.and IntKind.i64 (a : Int) (b : Int) = ((a &&& b : Nat) : Int) := and64_fin ⟨a, ha⟩ ⟨b, hb⟩
set_option maxHeartbeats 1000000 in
theorem leastObj_any (m lo : Nat) (v : Value) (Ls : List (List Int)) (hq : Ls.length ≤ 1048576) (w : World) (hown : w.ownsRow lo 65 9 v Ls.length (awc m Ls)) :
    Calls Tryz.prog 54 #[v] w fun e w' => e = .returned (.int .i64 (ldN Ls : Nat)) ∧ Below w.heap.size w w' := by
  obtain ⟨A, cp, rfl⟩ := own_shape hown
  have HOW := Lib.hid hown
  clear hown
  go_enter Tryz.func54, Tryz.ntmps54
  go_wp2
  go_loopw [3, 8] (fun v i wr => ∃ k : Nat, k ≤ Ls.length ∧ i = .int .i64 (k : Int) ∧ v = .int .i64 ((ldN (Ls.take k) : Nat) : Int) ∧ Below w.heap.size w wr) (fun _ i _ => Ls.length - (intOf i).toNat)
  case atStart => exact ⟨0, Nat.zero_le _, rfl, rfl, Below.refl _ _⟩
  case round =>
    obtain ⟨k, hk, rfl, rfl, hB⟩ := hrel
    by_cases hlt : k < Ls.length
    · obtain ⟨L, hL⟩ : ∃ L, Ls[k]? = some L := ⟨_, List.getElem?_eq_getElem hlt⟩
      have hr1 := own_below HOW.out hB
      obtain ⟨g1, cp1, hv, _, hg1⟩ := hr1.form (by omega)
      injection hv with hv1 _ hv3
      subst hv1
      have hC1 : Ars wr g1 m Ls := Ars.of_own hr1
      obtain ⟨c0, c1, c2, c3, c4, c5, c6, c7, c8⟩ := hC1.all hL
      have HT := Lib.hid (ldN_step hL)
      have hB1 := hB.alloc hB.size (.cells #[.int .i64 ((m : Int)), .int .i64 (ofL L 0), .int .i64 (ofL L 1), .int .i64 (ofL L 2), .int .i64 (ofL L 3), .int .i64 (ofL L 4), .int .i64 (ofL L 5), .int .i64 ((doN L : Nat)), .int .i64 ((raN L : Nat))] 65)
      have HA := Lib.hid (and64_is (ldN_64 (Ls.take k)) (doN_64 L))
      clear hC1 hL hr1 hv3
      generalize ldN (Ls.take k) = ss at *
      go_wp2
      go_roundw
      case rel => exact ⟨k + 1, by omega, by go_num, by rw [HT.out, ← HA.out], hB1⟩
      case measure => simp [intOf]; omega
    · obtain rfl : k = Ls.length := by omega
      have HE : Hid (ldN (Ls.take Ls.length) = ldN Ls) := by show _ = _; rw [List.take_of_length_le (Nat.le_refl _)]
      go_wp2
      go_ret
      exact ⟨by rw [← HE.out]; rfl, hB⟩
theorem bel_put7 {B : Nat} {a W : World} {g : Nat} (h : Below B a W) (hg : B ≤ g) (v0 v1 v2 v3 v4 v5 v6 : Value) :
    Below B a (((((((W.setCell ⟨g, 0, none⟩ v0).setCell ⟨g, 1, none⟩ v1).setCell ⟨g, 2, none⟩ v2).setCell ⟨g, 3, none⟩ v3).setCell ⟨g, 4, none⟩ v4).setCell ⟨g, 5, none⟩ v5).setCell ⟨g, 6, none⟩ v6) :=
  ((((((h.setCell (p := ⟨g, 0, none⟩) hg v0).setCell (p := ⟨g, 1, none⟩) hg v1).setCell (p := ⟨g, 2, none⟩) hg v2).setCell (p := ⟨g, 3, none⟩) hg v3).setCell (p := ⟨g, 4, none⟩) hg v4).setCell (p := ⟨g, 5, none⟩) hg v5).setCell (p := ⟨g, 6, none⟩) hg v6
set_option maxHeartbeats 400000 in
theorem germ_any (n : Nat) (hn : n ≤ 6) (T : Nat → Int) (hT : Ok n T) (x y : Int) (m : Nat) (hm : m < 64) (w : World) :
    Calls Tryz.prog 55 #[.agg #[.int .i64 ((n : Int)), .int .i64 (T 0), .int .i64 (T 1), .int .i64 (T 2), .int .i64 (T 3), .int .i64 (T 4), .int .i64 (T 5), .int .i64 (x), .int .i64 (y)], .int .i64 (m : Int)] w fun e w' => ∃ T' : Nat → Int, e = .returned (.agg #[.int .i64 ((n : Int)), .int .i64 (T' 0), .int .i64 (T' 1), .int .i64 (T' 2), .int .i64 (T' 3), .int .i64 (T' 4), .int .i64 (T' 5)]) ∧ Hid (∀ j, j < 6 → T' j = cutL n m (mv T n) j) ∧ Below w.heap.size w w' := by
  have hB0 : Below w.heap.size w ((w.alloc (.cells #[.int .i64 ((n : Int)), .int .i64 (T 0), .int .i64 (T 1), .int .i64 (T 2), .int .i64 (T 3), .int .i64 (T 4), .int .i64 (T 5), .int .i64 (x), .int .i64 (y)] 65)).alloc (.cells #[.int .i64 ((0 : Int)), .int .i64 ((fun _ => (0 : Int)) 0), .int .i64 ((fun _ => (0 : Int)) 1), .int .i64 ((fun _ => (0 : Int)) 2), .int .i64 ((fun _ => (0 : Int)) 3), .int .i64 ((fun _ => (0 : Int)) 4), .int .i64 ((fun _ => (0 : Int)) 5)] 61)) := ((Below.refl _ w).alloc (Nat.le_refl _) _).alloc (by simp) _
  go_enter Tryz.func55, Tryz.ntmps55
  go_wp2_with fail
  refine (cut_any n hn T hT m hm _).mono ?_
  rintro e w1 ⟨T', rfl, HT', hb⟩
  have hk := Blk.new (w.alloc (.cells #[.int .i64 ((n : Int)), .int .i64 (T 0), .int .i64 (T 1), .int .i64 (T 2), .int .i64 (T 3), .int .i64 (T 4), .int .i64 (T 5), .int .i64 (x), .int .i64 (y)] 65)) 61 #[.int .i64 ((0 : Int)), .int .i64 ((fun _ => (0 : Int)) 0), .int .i64 ((fun _ => (0 : Int)) 1), .int .i64 ((fun _ => (0 : Int)) 2), .int .i64 ((fun _ => (0 : Int)) 3), .int .i64 ((fun _ => (0 : Int)) 4), .int .i64 ((fun _ => (0 : Int)) 5)]
  rw [World.size_alloc] at hk
  replace hk := hk.below hb hk.lt
  have c0 := hk.cell 0
  have c1 := hk.cell 1
  have c2 := hk.cell 2
  have c3 := hk.cell 3
  have c4 := hk.cell 4
  have c5 := hk.cell 5
  have c6 := hk.cell 6
  have f0 := hk.frozen 0
  have f1 := hk.frozen 1
  have f2 := hk.frozen 2
  have f3 := hk.frozen 3
  have f4 := hk.frozen 4
  have f5 := hk.frozen 5
  have f6 := hk.frozen 6
  have hlt := hk.lt
  have hB := hB0.trans (hb.mono hB0.size)
  have HB := Lib.hid (bel_put7 hB (Nat.le_succ w.heap.size) (.int .i64 (n : Int)) (.int .i64 (T' 0)) (.int .i64 (T' 1)) (.int .i64 (T' 2)) (.int .i64 (T' 3)) (.int .i64 (T' 4)) (.int .i64 (T' 5)))
  clear hk hb hB hB0
  go_wp2
  exact bodyPost_ret (v := .agg #[.int .i64 ((n : Int)), .int .i64 (T' 0), .int .i64 (T' 1), .int .i64 (T' 2), .int .i64 (T' 3), .int .i64 (T' 4), .int .i64 (T' 5)]) (by simp [results, Tryz.results55, go_sem, hlt, c0, c1, c2, c3, c4, c5, c6]) rfl ⟨T', rfl, HT', HB.out⟩
end

end Go.Proofs.YtoomeimloaloaaaGreatDoor
