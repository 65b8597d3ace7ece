/-
  Le.
-/
import Derived.Lib.Bytealg
import Derived.WalkSmall
import Derived.Test.YtlcjgppclclkoaaDoorTJ
namespace Go.Proofs.YtlcjgppclclkoaaDoor
set_option maxRecDepth 100000
set_option linter.unusedVariables false
set_option linter.unusedSimpArgs false
set_option linter.unusedSectionVars false

/-! cmp.Compare[int], strings.Compare, cmp.Or[int], impl.byLength. -/
section
open Go.RowKit

/-- shorter ones first, and those of one length in the order of their texts -/
def ciL (a b : Int) : Int := if a < b then -1 else if b < a then 1 else 0
def leL (u v : List (Fin 4)) : Int := if u.length = v.length then Lib.compareBytes (strOf u).data.toList (strOf v).data.toList else ciL (u.length : Int) (v.length : Int)
set_option maxHeartbeats 1000000 in
theorem cmpInt_any (a b : Int) (w : World) : Calls Tryd.prog 88 #[.int .i64 a, .int .i64 b] w fun e w' => e = .returned (.int .i64 (ciL a b)) ∧ w' = w := by
  unfold ciL
  by_cases h1 : a < b
  · rw [if_pos h1]
    go_enter Tryd.func88, Tryd.ntmps88
    go_wp2
    go_ret
    exact ⟨rfl, rfl⟩
  · rw [if_neg h1]
    by_cases h2 : b < a
    · rw [if_pos h2]
      go_enter Tryd.func88, Tryd.ntmps88
      go_wp2
      go_ret
      exact ⟨rfl, rfl⟩
    · rw [if_neg h2]
      go_enter Tryd.func88, Tryd.ntmps88
      go_wp2
      go_ret
      exact ⟨rfl, rfl⟩
set_option maxHeartbeats 1000000 in
theorem cmpStr0_any (a b : ByteArray) (w : World) : Calls Tryd.prog 106 #[.string a, .string b] w fun e w' => e = .returned (.int .i64 (Lib.compareBytes a.data.toList b.data.toList)) ∧ w' = w := by
  go_enter Tryd.func106, Tryd.ntmps106
  go_wp2
  rw [run_callFunc_extern Tryd.func115 (by kernel_rfl) (by kernel_rfl) (by kernel_rfl) (e := Extern.BytealgCompare.compare) (by kernel_rfl), Lib.run_compareString]
  simp only [Result.andThen]
  rw [Oper.upon_value]
  go_wp2
  go_ret
  exact ⟨rfl, rfl⟩
theorem cmpStr_any (a b : ByteArray) (w : World) : Calls Tryd.prog 89 #[.string a, .string b] w fun e w' => e = .returned (.int .i64 (Lib.compareBytes a.data.toList b.data.toList)) ∧ w' = w := by
  go_enter Tryd.func89, Tryd.ntmps89
  go_wp2_with fail
  refine (cmpStr0_any a b _).mono ?_
  rintro e w' ⟨rfl, rfl⟩
  go_wp2
  go_ret
  exact ⟨rfl, rfl⟩
set_option maxHeartbeats 1000000 in
theorem cmpOr_any (g : Nat) (a b : Int) (w : World) (h0 : w.cell? ⟨g, 0, none⟩ = some (.int .i64 a)) (h1 : w.cell? ⟨g, 1, none⟩ = some (.int .i64 b)) : Calls Tryd.prog 87 #[.slice (some ⟨g, 0, none⟩) 2 2] w fun e w' => e = .returned (.int .i64 (if a = 0 then b else a)) ∧ w' = w := by
  go_enter Tryd.func87, Tryd.ntmps87
  go_wp2
  go_loopw [8] (fun i wr => ∃ k : Nat, k ≤ 2 ∧ i = .int .i64 (k : Int) ∧ wr = w ∧ Hid (1 ≤ k → a = 0) ∧ Hid (2 ≤ k → b = 0)) (fun i _ => 2 - (intOf i).toNat)
  case atStart => exact ⟨0, by omega, rfl, rfl, fun h => by omega, fun h => by omega⟩
  case round =>
    obtain ⟨k, hk, rfl, rfl, HA, HB⟩ := hrel
    have hc : k = 0 ∨ k = 1 ∨ k = 2 := by omega
    rcases hc with rfl | rfl | rfl
    · by_cases ha : a = 0
      · subst ha
        go_wp2
        go_roundw
        case rel => refine ⟨1, by omega, by go_num, ?_, ?_, ?_⟩ <;> first | trivial | rfl | exact True.intro | exact (fun _ => True.intro) | exact (fun _ => rfl) | (intro h; omega) | (show _ → _; intro h; omega)
        case measure => simp [intOf]
      · go_wp2
        go_ret
        first | exact ⟨rfl, rfl⟩ | exact ⟨by rw [if_neg ha]; rfl, rfl⟩
    · have ha := HA.out (Nat.le_refl _)
      subst ha
      by_cases hb : b = 0
      · subst hb
        go_wp2
        go_roundw
        case rel => refine ⟨2, by omega, by go_num, ?_, ?_, ?_⟩ <;> first | trivial | rfl | exact True.intro | exact (fun _ => True.intro) | exact (fun _ => rfl) | (intro h; omega) | (show _ → _; intro h; omega)
        case measure => simp [intOf]
      · go_wp2
        go_ret
        first | exact ⟨rfl, rfl⟩ | exact ⟨by rw [if_pos rfl]; rfl, rfl⟩
    · have ha := HA.out (by omega)
      have hb := HB.out (Nat.le_refl _)
      subst ha hb
      go_wp2
      go_ret
      exact ⟨rfl, rfl⟩
set_option maxHeartbeats 1000000 in
theorem byLength_any (u v : List (Fin 4)) (w : World) : Calls Tryd.prog 73 #[.string (strOf u), .string (strOf v)] w fun e w' => e = .returned (.int .i64 (leL u v)) ∧ ∃ o, w' = w.alloc o := by
  have hu : (strOf u).size = u.length := strOf_size u
  have hv : (strOf v).size = v.length := strOf_size v
  have hr : leL u v = if ciL (u.length : Int) (v.length : Int) = 0 then Lib.compareBytes (strOf u).data.toList (strOf v).data.toList else ciL (u.length : Int) (v.length : Int) := by
    unfold leL ciL
    by_cases h : u.length = v.length
    · rw [if_pos h, h]; simp
    · rw [if_neg h]
      by_cases h1 : (u.length : Int) < (v.length : Int)
      · simp [h1]
      · have h2 : (v.length : Int) < (u.length : Int) := by omega
        simp [h1, h2]
  have H1 : Hid (∀ W : World, Calls Tryd.prog 88 #[.int .i64 ((strOf u).size : Int), .int .i64 ((strOf v).size : Int)] W fun e w' => e = .returned (.int .i64 (ciL (u.length : Int) (v.length : Int))) ∧ w' = W) := fun W => by
    rw [hu, hv]; exact cmpInt_any _ _ W
  have H2 := Lib.hid (fun W => cmpStr_any (strOf u) (strOf v) W)
  have H3 := Lib.hid (fun W h0 h1 => cmpOr_any w.heap.size (ciL (u.length : Int) (v.length : Int)) (Lib.compareBytes (strOf u).data.toList (strOf v).data.toList) W h0 h1)
  rw [← hr] at H3
  clear hu hv hr
  generalize Lib.compareBytes (strOf u).data.toList (strOf v).data.toList = cs at *
  generalize ciL (u.length : Int) (v.length : Int) = ci at *
  generalize strOf u = su at *
  generalize strOf v = sv at *
  go_enter Tryd.func73, Tryd.ntmps73
  go_wp2_with fail
  refine (H1.out _).mono ?_
  rintro e w1 ⟨rfl, rfl⟩
  go_wp2_with fail
  refine (H2.out _).mono ?_
  rintro e w2 ⟨rfl, rfl⟩
  have hz0 := cell_two_new w2 (.int .i64 ci) (.int .i64 cs) 3 0 _ rfl
  have hz1 := cell_two_new w2 (.int .i64 ci) (.int .i64 cs) 3 1 _ rfl
  have H4 := Lib.hid (H3.out _ hz0 hz1)
  clear hz0 hz1 H3
  go_wp2_with fail
  refine H4.out.mono ?_
  rintro e w3 ⟨rfl, rfl⟩
  go_wp2
  go_ret
  exact ⟨rfl, _, rfl⟩
end

end Go.Proofs.YtlcjgppclclkoaaDoor
