/-
  spec.DrawChartTimes.
-/
import Derived.Test.YtdmobfjcbjengaaTwo
import Derived.Test.YtdmobfjcbjengaaChart
namespace Go.Proofs.Ytdmobfjcbjengaa
open Go.RowKit
theorem drawTimes_any (A : Option Addr) (n c : Nat) (bs : Nat → Nat) (w : World) (h : Src w w.heap.size A n bs) (hnc : n ≤ c) (hn : n ≤ 1048576) :
    Calls Try.prog 15 #[.slice A n c] w fun e w' => ∃ v u, e = .returned (.tuple #[v, u]) ∧ TwoL w v u w' := by
  go_enter Try.func15, Try.ntmps15
  go_wp2_with fail
  refine (l91Two_any _ _ _ _ _ h hnc hn).mono ?_
  rintro e w1 ⟨v, u, rfl, h1⟩
  go_wp2
  go_ret2
  exact ⟨_, _, rfl, h1⟩
end Go.Proofs.Ytdmobfjcbjengaa
