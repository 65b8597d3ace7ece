/-
  impl.GraphIn.
-/
import Derived.Test.YthliifgjolgmgaaHd
namespace Go.Proofs.Ythliifgjolgmgaa
set_option maxRecDepth 100000
set_option linter.unusedVariables false
open Go.RowKit Go.Lib

set_option maxHeartbeats 1000000 in
theorem implGraphIn_any (k : Int) (a b : Option Addr) (p m c d : Nat) (zs ys : List Int) (w : World) (h : RI w a p zs) (h' : RI w b m ys) (hp : p ≤ 1048576) (hm : m ≤ 1048576) :
    Calls Try.prog 11 #[.agg #[.int .i64 k, .slice a p c, .slice b m d]] w fun e w' => ∃ r : Bool, e = .returned (.bool r) ∧ (r = true ↔ GT k zs ys) ∧ Below w.heap.size w w' := by
  have hB0 : Below w.heap.size w (w.alloc (.cells #[.int .i64 k, .slice a p c, .slice b m d] 27)) := (Below.refl _ w).alloc (Nat.le_refl _) _
  have HG := Lib.hid (graphFrom_any k a b p m c d zs ys _ (h.below hB0) (h'.below hB0) hp hm)
  have HB0 := Lib.hid hB0
  clear h h' hB0
  go_enter Try.func11, Try.ntmps11
  go_wp2_with fail
  refine HG.out.mono ?_
  rintro e w1 ⟨hb, hcase⟩
  have HB1 := Lib.hid (HB0.out.trans (hb.mono (by simp)))
  clear hb HG HB0
  rcases hcase with ⟨rfl, hno⟩ | ⟨n, v, hk, rfl, hg, ho⟩
  · have HNO := Lib.hid hno
    clear hno
    go_wp2
    go_ret
    exact ⟨false, rfl, ⟨(fun h => by cases h), fun h => absurd h HNO.out⟩, HB1.out.alloc HB1.out.size _⟩
  · have HG := Lib.hid hg
    obtain ⟨A, c, rfl⟩ := own_sl5 ho
    clear hg ho hk
    go_wp2
    go_ret
    exact ⟨true, rfl, ⟨fun _ => HG.out, fun _ => rfl⟩, HB1.out.alloc HB1.out.size _⟩
theorem b2 {r s : Bool} {P : Prop} (h : r = true ↔ P) (h' : s = true ↔ P) : r = s := by
  cases r <;> cases s
  · rfl
  · exact absurd (h.2 (h'.1 rfl)) (by decide)
  · exact absurd (h'.2 (h.1 rfl)) (by decide)
  · rfl
end Go.Proofs.Ythliifgjolgmgaa
