/-
  Rd.
-/
import Derived.WalkSmall
import Derived.Test.YtlcjgppclclkoaaDoorTG
namespace Go.Proofs.YtlcjgppclclkoaaDoor
set_option maxRecDepth 100000
set_option linter.unusedVariables false
set_option linter.unusedSimpArgs false
set_option linter.unusedSectionVars false

/-! The specification's words: spec.l4Letter, l4Other, l4Word. -/
section
open Go.RowKit

theorem str_idx {s : ByteArray} {k : Nat} {x : UInt8} (h : s.data.toList[k]? = some x) (W : World) : (Instr.index 9 (.string s) (.int .i64 (k : Int))).run Tryd.prog W = .ok (.int .u8 (x.toNat : Int)) W := by
  have hk : k < s.data.toList.length := by
    rcases Nat.lt_or_ge k s.data.toList.length with h' | h'
    · exact h'
    · rw [List.getElem?_eq_none h'] at h; cases h
  have hk' : k < s.size := by rw [Array.length_toList] at hk; exact hk
  have hx : s[k] = x := by
    rw [List.getElem?_eq_getElem hk] at h
    have := Option.some.inj h
    rw [← this]; rfl
  rw [run_index_string W _ s .i64 (k : Int) (by kernel_rfl), dif_pos ⟨by omega, by omega⟩]
  simp only [Int.toNat_natCast]
  rw [hx]
set_option maxHeartbeats 1000000 in
theorem l4Letter_any (x : UInt8) (w : World) : Calls Tryd.prog 69 #[.int .u8 (x.toNat : Int)] w fun e w' => e = .returned (.bool (isL x)) ∧ w' = w := by
  have key : ∀ b : Int, (x.toNat : Int) = b → isL x = (b == 65 || b == 66 || b == 97 || b == 98) := fun b hb => by
    subst hb
    have e : ∀ n : Nat, n < 256 → ((x == UInt8.ofNat n) = ((x.toNat : Int) == (n : Int))) := fun n hn => by
      have h1 : (UInt8.ofNat n).toNat = n := by simp; omega
      by_cases h : x = UInt8.ofNat n
      · subst h
        rw [h1]; simp
      · have h2 : x.toNat ≠ n := fun e => h (UInt8.toNat_inj.1 (by rw [e, h1]))
        have h3 : (x.toNat : Int) ≠ (n : Int) := by omega
        rw [beq_eq_false_iff_ne.2 h, beq_eq_false_iff_ne.2 h3]
    unfold isL
    rw [show (65 : UInt8) = UInt8.ofNat 65 from rfl, show (66 : UInt8) = UInt8.ofNat 66 from rfl, show (97 : UInt8) = UInt8.ofNat 97 from rfl, show (98 : UInt8) = UInt8.ofNat 98 from rfl, e 65 (by omega), e 66 (by omega), e 97 (by omega), e 98 (by omega)]
    rfl
  have hk := key _ rfl
  rw [hk]
  clear hk key
  generalize (x.toNat : Int) = b
  have hc : b = 97 ∨ b = 98 ∨ b = 65 ∨ b = 66 ∨ ¬ (b = 97 ∨ b = 98 ∨ b = 65 ∨ b = 66) := by omega
  rcases hc with rfl | rfl | rfl | rfl | hc
  case inr.inr.inr.inr =>
    have h1 : ¬ b = 97 := fun e => hc (.inl e)
    have h2 : ¬ b = 98 := fun e => hc (.inr (.inl e))
    have h3 : ¬ b = 65 := fun e => hc (.inr (.inr (.inl e)))
    have h4 : ¬ b = 66 := fun e => hc (.inr (.inr (.inr e)))
    clear hc
    have e : (b == 65 || b == 66 || b == 97 || b == 98) = false := by simp [h1, h2, h3, h4]
    rw [e]
    go_enter Tryd.func69, Tryd.ntmps69
    go_wp2
    go_ret
    exact ⟨by simp [h1, h2, h3, h4], rfl⟩
  all_goals
    go_enter Tryd.func69, Tryd.ntmps69
    go_wp2
    go_ret
    exact ⟨rfl, rfl⟩
theorem l4Other_any (c : Fin 4) (w : World) : Calls Tryd.prog 70 #[.int .u8 ((ltB c).toNat : Int)] w fun e w' => e = .returned (.int .u8 ((ltB (ivL c)).toNat : Int)) ∧ w' = w := by
  have key : ∀ (a b : Int) (W : World), (a = 65 ∧ b = 97) ∨ (a = 66 ∧ b = 98) ∨ (a = 97 ∧ b = 65) ∨ (a = 98 ∧ b = 66) → Calls Tryd.prog 70 #[.int .u8 a] W fun e w' => e = .returned (.int .u8 b) ∧ w' = W := by
    intro a b W h
    rcases h with ⟨rfl, rfl⟩ | ⟨rfl, rfl⟩ | ⟨rfl, rfl⟩ | ⟨rfl, rfl⟩
    all_goals
      go_enter Tryd.func70, Tryd.ntmps70
      go_wp2
      go_ret
      exact ⟨rfl, rfl⟩
  refine key _ _ w ?_
  revert c
  decide
set_option maxHeartbeats 1000000 in
theorem l4Word_any (s : ByteArray) (hs : s.size ≤ 1048576) (w : World) : Calls Tryd.prog 41 #[.string s] w fun e w' => e = .returned (.bool (wordB s)) ∧ w' = w := by
  have hlen : s.data.toList.length = s.size := by rw [Array.length_toList]; rfl
  have HLEN := Lib.hid hlen
  have HW : Hid (wordB s = (s.data.toList.all isL && decide (s.size ≤ 24))) := rfl
  have HIX := Lib.hid (fun (k : Nat) (x : UInt8) (h : s.data.toList[k]? = some x) (W : World) => str_idx h W)
  clear hlen
  generalize hL : s.data.toList = L at *
  clear hL
  go_enter Tryd.func41, Tryd.ntmps41
  go_wp2
  go_loopw [3] (fun i wr => ∃ k : Nat, k ≤ s.size ∧ i = .int .i64 (k : Int) ∧ wr = w ∧ Hid ((L.take k).all isL = true)) (fun i _ => s.size - (intOf i).toNat)
  case atStart => exact ⟨0, Nat.zero_le _, rfl, rfl, rfl⟩
  case round =>
    obtain ⟨k, hk, rfl, rfl, HA⟩ := hrel
    by_cases hlt : k < s.size
    · obtain ⟨x, hx⟩ : ∃ x, L[k]? = some x := ⟨_, List.getElem?_eq_getElem (by rw [HLEN.out]; exact hlt)⟩
      have hix := fun W => HIX.out k x hx W
      have HLT := Lib.hid (l4Letter_any x wr)
      have HX := Lib.hid hx
      have hli : (k : Int) < (s.size : Int) := by omega
      clear hx
      cases hb : isL x with
      | true =>
        rw [hb] at HLT
        have HA2 : Hid ((L.take (k + 1)).all isL = true) := by
          show _ = _
          rw [List.take_add_one, HX.out, Option.toList_some, List.all_append, HA.out]
          simp [hb]
        clear hb HX
        generalize (x.toNat : Int) = b at *
        go_wp2_with fail
        refine HLT.out.mono ?_
        rintro e w1 ⟨rfl, rfl⟩
        go_wp2
        go_roundw
        case rel => exact ⟨k + 1, by omega, by go_num, trivial, HA2⟩
        case measure => simp [intOf]; omega
      | false =>
        rw [hb] at HLT
        have HF : Hid (wordB s = false) := by
          show _ = _
          rw [HW.out, Bool.and_eq_false_iff]
          refine .inl ?_
          rw [List.all_eq_false]
          exact ⟨x, List.mem_of_getElem? HX.out, by simp [hb]⟩
        clear hb HX
        generalize (x.toNat : Int) = b at *
        go_wp2_with fail
        refine HLT.out.mono ?_
        rintro e w1 ⟨rfl, rfl⟩
        go_wp2
        go_ret
        exact ⟨by rw [HF.out]; rfl, rfl⟩
    · obtain rfl : k = s.size := by omega
      have HF : Hid (wordB s = decide (s.size ≤ 24)) := by
        show _ = _
        have := HA.out
        rw [← HLEN.out, List.take_length] at this
        rw [HW.out, this, Bool.true_and]
      by_cases h24 : s.size ≤ 24
      · rw [decide_eq_true h24] at HF
        have h24i : (s.size : Int) ≤ 24 := by omega
        go_wp2
        go_ret
        exact ⟨by rw [HF.out]; rfl, rfl⟩
      · rw [decide_eq_false h24] at HF
        have h24i : ¬ (s.size : Int) ≤ 24 := by omega
        go_wp2
        go_ret
        exact ⟨by rw [HF.out]; rfl, rfl⟩
end

end Go.Proofs.YtlcjgppclclkoaaDoor
