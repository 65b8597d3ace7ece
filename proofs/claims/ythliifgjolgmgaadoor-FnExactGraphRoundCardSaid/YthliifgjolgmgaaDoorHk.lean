/-
  Words of a graph: spec.l4Letter, spec.l4Word, impl.isWord.
-/
import Derived.Test.YthliifgjolgmgaaDoorHj
import Derived.Test.YthliifgjolgmgaaDoorSht
import Derived.Shelf.Strings.SlTrimAscii
import Derived.WalkSmall
namespace Go.Proofs.YthliifgjolgmgaaDoor
set_option maxRecDepth 100000
set_option linter.unusedVariables false
open Go.RowKit Go.Lib Go.Sort

def isL5 (b : UInt8) : Bool := b == 65 || b == 66 || b == 97 || b == 98
def wordB5 (s : ByteArray) : Bool := s.data.toList.all isL5 && decide (s.size ≤ 24)
set_option maxHeartbeats 1000000 in
theorem l4Letter5_any (x : UInt8) (w : World) : Calls Tryd.prog 47 #[.int .u8 (x.toNat : Int)] w fun e w' => e = .returned (.bool (isL5 x)) ∧ w' = w := by
  have key : ∀ b : Int, (x.toNat : Int) = b → isL5 x = (b == 65 || b == 66 || b == 97 || b == 98) := fun b hb => by
    subst hb
    have e : ∀ n : Nat, n < 256 → ((x == UInt8.ofNat n) = ((x.toNat : Int) == (n : Int))) := fun n hn => by
      have h1 : (UInt8.ofNat n).toNat = n := by simp; omega
      by_cases h : x = UInt8.ofNat n
      · subst h
        rw [h1]; simp
      · have h2 : x.toNat ≠ n := fun e => h (UInt8.toNat_inj.1 (by rw [e, h1]))
        have h3 : (x.toNat : Int) ≠ (n : Int) := by omega
        rw [beq_eq_false_iff_ne.2 h, beq_eq_false_iff_ne.2 h3]
    unfold isL5
    rw [show (65 : UInt8) = UInt8.ofNat 65 from rfl, show (66 : UInt8) = UInt8.ofNat 66 from rfl, show (97 : UInt8) = UInt8.ofNat 97 from rfl, show (98 : UInt8) = UInt8.ofNat 98 from rfl, e 65 (by omega), e 66 (by omega), e 97 (by omega), e 98 (by omega)]
    rfl
  have hk := key _ rfl
  rw [hk]
  clear hk key
  generalize (x.toNat : Int) = b
  have hc : b = 97 ∨ b = 98 ∨ b = 65 ∨ b = 66 ∨ ¬ (b = 97 ∨ b = 98 ∨ b = 65 ∨ b = 66) := by omega
  rcases hc with rfl | rfl | rfl | rfl | hc
  case inr.inr.inr.inr =>
    have h1 : ¬ b = 97 := fun e => hc (.inl e)
    have h2 : ¬ b = 98 := fun e => hc (.inr (.inl e))
    have h3 : ¬ b = 65 := fun e => hc (.inr (.inr (.inl e)))
    have h4 : ¬ b = 66 := fun e => hc (.inr (.inr (.inr e)))
    clear hc
    have e : (b == 65 || b == 66 || b == 97 || b == 98) = false := by simp [h1, h2, h3, h4]
    rw [e]
    go_enter Tryd.func47, Tryd.ntmps47
    go_wp2
    go_ret
    exact ⟨by simp [h1, h2, h3, h4], rfl⟩
  all_goals
    go_enter Tryd.func47, Tryd.ntmps47
    go_wp2
    go_ret
    exact ⟨rfl, rfl⟩
set_option maxHeartbeats 1000000 in
theorem l4Word5_any (s : ByteArray) (hs : s.size ≤ 1048576) (w : World) : Calls Tryd.prog 22 #[.string s] w fun e w' => e = .returned (.bool (wordB5 s)) ∧ w' = w := by
  have hlen : s.data.toList.length = s.size := by rw [Array.length_toList]; rfl
  have HLEN := Lib.hid hlen
  have HW : Hid (wordB5 s = (s.data.toList.all isL5 && decide (s.size ≤ 24))) := rfl
  have HIX := Lib.hid (fun (k : Nat) (x : UInt8) (h : s.data.toList[k]? = some x) (W : World) => str_idx5 h W)
  clear hlen
  generalize hL : s.data.toList = L at *
  clear hL
  go_enter Tryd.func22, Tryd.ntmps22
  go_wp2
  go_loopw [3] (fun i wr => ∃ k : Nat, k ≤ s.size ∧ i = .int .i64 (k : Int) ∧ wr = w ∧ Hid ((L.take k).all isL5 = true)) (fun i _ => s.size - (RowKit.intOf i).toNat)
  case atStart => exact ⟨0, Nat.zero_le _, rfl, rfl, rfl⟩
  case round =>
    obtain ⟨k, hk, rfl, rfl, HA⟩ := hrel
    by_cases hlt : k < s.size
    · obtain ⟨x, hx⟩ : ∃ x, L[k]? = some x := ⟨_, List.getElem?_eq_getElem (by rw [HLEN.out]; exact hlt)⟩
      have hix := fun W => HIX.out k x hx W
      have HLT := Lib.hid (l4Letter5_any x wr)
      have HX := Lib.hid hx
      have hli : (k : Int) < (s.size : Int) := by omega
      clear hx
      cases hb : isL5 x with
      | true =>
        rw [hb] at HLT
        have HA2 : Hid ((L.take (k + 1)).all isL5 = true) := by
          show _ = _
          rw [List.take_add_one, HX.out, Option.toList_some, List.all_append, HA.out]
          simp [hb]
        clear hb HX
        generalize (x.toNat : Int) = b at *
        go_wp2_with fail
        refine HLT.out.mono ?_
        rintro e w1 ⟨rfl, rfl⟩
        go_wp2
        go_roundw
        case rel => exact ⟨k + 1, by omega, by go_num, trivial, HA2⟩
        case measure => simp [RowKit.intOf]; omega
      | false =>
        rw [hb] at HLT
        have HF : Hid (wordB5 s = false) := by
          show _ = _
          rw [HW.out, Bool.and_eq_false_iff]
          refine .inl ?_
          rw [List.all_eq_false]
          exact ⟨x, List.mem_of_getElem? HX.out, by simp [hb]⟩
        clear hb HX
        generalize (x.toNat : Int) = b at *
        go_wp2_with fail
        refine HLT.out.mono ?_
        rintro e w1 ⟨rfl, rfl⟩
        go_wp2
        go_ret
        exact ⟨by rw [HF.out]; rfl, rfl⟩
    · obtain rfl : k = s.size := by omega
      have HF : Hid (wordB5 s = decide (s.size ≤ 24)) := by
        show _ = _
        have := HA.out
        rw [← HLEN.out, List.take_length] at this
        rw [HW.out, this, Bool.true_and]
      by_cases h24 : s.size ≤ 24
      · rw [decide_eq_true h24] at HF
        have h24i : (s.size : Int) ≤ 24 := by omega
        go_wp2
        go_ret
        exact ⟨by rw [HF.out]; rfl, rfl⟩
      · rw [decide_eq_false h24] at HF
        have h24i : ¬ (s.size : Int) ≤ 24 := by omega
        go_wp2
        go_ret
        exact ⟨by rw [HF.out]; rfl, rfl⟩
theorem isL5_mem (b : UInt8) : ([65, 66, 97, 98] : List UInt8).contains b = isL5 b := by
  unfold isL5
  rw [List.contains_cons, List.contains_cons, List.contains_cons, List.contains_cons, List.contains_nil, Bool.or_false, Bool.or_assoc, Bool.or_assoc]
theorem trim5_all {l : List UInt8} (h : l.all isL5 = true) : trimLeftS l [65, 66, 97, 98] = [] := by
  unfold trimLeftS
  induction l with
  | nil => rfl
  | cons b l ih =>
    rw [List.all_cons, Bool.and_eq_true] at h
    rw [List.dropWhile_cons, isL5_mem, h.1]
    exact ih h.2
theorem trim5_not {l : List UInt8} (h : l.all isL5 = false) : trimLeftS l [65, 66, 97, 98] ≠ [] := by
  unfold trimLeftS
  induction l with
  | nil => cases h
  | cons b l ih =>
    rw [List.dropWhile_cons, isL5_mem]
    cases hb : isL5 b with
    | false => simp
    | true =>
      rw [List.all_cons, hb, Bool.true_and] at h
      simpa using ih h
theorem trimL5_any (s : ByteArray) (w : World) : Calls Tryd.prog 65 #[.string s, .string ⟨#[65, 66, 97, 98]⟩] w fun e w' => e = .returned (.string ⟨(trimLeftS s.data.toList [65, 66, 97, 98]).toArray⟩) ∧ RowKit.Below w.heap.size w w' :=
  Any.strings_TrimLeft_laid Tryd.trimL (by kernel_rfl) s ⟨#[65, 66, 97, 98]⟩ w (by decide) (ascii_of_all (by decide))
set_option maxHeartbeats 1000000 in
theorem isWord5_any (s : ByteArray) (hs : s.size ≤ 1048576) (w : World) : Calls Tryd.prog 41 #[.string s] w fun e w' => e = .returned (.bool (wordB5 s)) ∧ RowKit.Below w.heap.size w w' := by
  have HT := Lib.hid (trimL5_any s w)
  by_cases h24 : s.size ≤ 24
  · have h24i : (s.size : Int) ≤ 24 := by omega
    cases hb : s.data.toList.all isL5 with
    | true =>
      have hw : wordB5 s = true := by unfold wordB5; rw [hb, decide_eq_true h24]; rfl
      rw [trim5_all hb] at HT
      rw [hw]
      clear hb hw h24
      go_enter Tryd.func41, Tryd.ntmps41
      go_wp2_with fail
      refine HT.out.mono ?_
      rintro e w1 ⟨rfl, hB⟩
      have HB := Lib.hid hB
      clear hB
      go_wp2
      go_ret
      exact ⟨by try rfl, HB.out⟩
    | false =>
      have hw : wordB5 s = false := by unfold wordB5; rw [hb]; rfl
      have hne := trim5_not hb
      have hne2 : (⟨(trimLeftS s.data.toList [65, 66, 97, 98]).toArray⟩ : ByteArray) ≠ ⟨#[]⟩ := fun e => hne (by
        have := congrArg (fun x : ByteArray => x.data.toList) e
        simpa using this)
      rw [hw]
      have hre : ByteArray.toList (⟨(trimLeftS s.data.toList [65, 66, 97, 98]).toArray⟩ : ByteArray) ≠ [] := by rw [ByteArray.toList_mk]; exact hne
      generalize (⟨(trimLeftS s.data.toList [65, 66, 97, 98]).toArray⟩ : ByteArray) = r at *
      have hre2 : r.toList.isEmpty = false := by cases h : r.toList with | nil => exact absurd h hre | cons a b => rfl
      clear hb hw h24 hne hre hne2
      go_enter Tryd.func41, Tryd.ntmps41
      go_wp2_with fail
      refine HT.out.mono ?_
      rintro e w1 ⟨rfl, hB⟩
      have HB := Lib.hid hB
      clear hB
      go_wp2
      go_ret
      exact ⟨by try rfl, HB.out⟩
  · have h24i : ¬ (s.size : Int) ≤ 24 := by omega
    have hw : wordB5 s = false := by unfold wordB5; rw [decide_eq_false h24, Bool.and_false]
    rw [hw]
    clear hw h24
    go_enter Tryd.func41, Tryd.ntmps41
    go_wp2
    go_ret
    exact ⟨by try rfl, RowKit.Below.refl _ _⟩
theorem isL_is {b : UInt8} (h : isL5 b = true) : isLt b := by
  unfold isL5 at h
  simp only [Bool.or_eq_true, beq_iff_eq] at h
  rcases h with ((h | h) | h) | h
  · exact .inl h
  · exact .inr (.inl h)
  · exact .inr (.inr (.inl h))
  · exact .inr (.inr (.inr h))
theorem word_is {s : ByteArray} (h : wordB5 s = true) : ∀ b ∈ s.data.toList, isLt b := fun b hb => by
  unfold wordB5 at h
  rw [Bool.and_eq_true, List.all_eq_true] at h
  exact isL_is (h.1 b hb)
end Go.Proofs.YthliifgjolgmgaaDoor
