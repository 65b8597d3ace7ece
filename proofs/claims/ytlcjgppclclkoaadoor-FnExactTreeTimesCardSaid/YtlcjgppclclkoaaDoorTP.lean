/-
  Iw.
-/
import Derived.Test.YtlcjgppclclkoaaDoorSht
import Derived.Shelf.Strings.SlTrimAscii
import Derived.Test.YtlcjgppclclkoaaDoorTO
namespace Go.Proofs.YtlcjgppclclkoaaDoor
set_option maxRecDepth 100000
set_option linter.unusedVariables false
set_option linter.unusedSimpArgs false
set_option linter.unusedSectionVars false

/-! impl.isWord, impl.TreeOf, impl.TreeReduced. -/
section
open Go.RowKit Go.Lib Go.Sort

theorem isL_mem (b : UInt8) : ([65, 66, 97, 98] : List UInt8).contains b = isL b := by
  unfold isL
  rw [List.contains_cons, List.contains_cons, List.contains_cons, List.contains_cons, List.contains_nil, Bool.or_false, Bool.or_assoc, Bool.or_assoc]
theorem trim_all {l : List UInt8} (h : l.all isL = true) : trimLeftS l [65, 66, 97, 98] = [] := by
  unfold trimLeftS
  induction l with
  | nil => rfl
  | cons b l ih =>
    rw [List.all_cons, Bool.and_eq_true] at h
    rw [List.dropWhile_cons, isL_mem, h.1]
    exact ih h.2
theorem trim_not {l : List UInt8} (h : l.all isL = false) : trimLeftS l [65, 66, 97, 98] ≠ [] := by
  unfold trimLeftS
  induction l with
  | nil => cases h
  | cons b l ih =>
    rw [List.dropWhile_cons, isL_mem]
    cases hb : isL b with
    | false => simp
    | true =>
      rw [List.all_cons, hb, Bool.true_and] at h
      simpa using ih h
theorem trimL_any (s : ByteArray) (w : World) : Calls Tryd.prog 71 #[.string s, .string ⟨#[65, 66, 97, 98]⟩] w fun e w' => e = .returned (.string ⟨(trimLeftS s.data.toList [65, 66, 97, 98]).toArray⟩) ∧ RowKit.Below w.heap.size w w' :=
  Any.strings_TrimLeft_laid Tryd.trimL (by kernel_rfl) s ⟨#[65, 66, 97, 98]⟩ w (by decide) (ascii_of_all (by decide))
set_option maxHeartbeats 1000000 in
theorem isWord_any (s : ByteArray) (hs : s.size ≤ 1048576) (w : World) : Calls Tryd.prog 46 #[.string s] w fun e w' => e = .returned (.bool (wordB s)) ∧ RowKit.Below w.heap.size w w' := by
  have HT := Lib.hid (trimL_any s w)
  by_cases h24 : s.size ≤ 24
  · have h24i : (s.size : Int) ≤ 24 := by omega
    cases hb : s.data.toList.all isL with
    | true =>
      have hw : wordB s = true := by unfold wordB; rw [hb, decide_eq_true h24]; rfl
      rw [trim_all hb] at HT
      rw [hw]
      clear hb hw h24
      go_enter Tryd.func46, Tryd.ntmps46
      go_wp2_with fail
      refine HT.out.mono ?_
      rintro e w1 ⟨rfl, hB⟩
      have HB := Lib.hid hB
      clear hB
      go_wp2
      go_ret
      exact ⟨by try rfl, HB.out⟩
    | false =>
      have hw : wordB s = false := by unfold wordB; rw [hb]; rfl
      have hne := trim_not hb
      have hne2 : (⟨(trimLeftS s.data.toList [65, 66, 97, 98]).toArray⟩ : ByteArray) ≠ ⟨#[]⟩ := fun e => hne (by
        have := congrArg (fun x : ByteArray => x.data.toList) e
        simpa using this)
      rw [hw]
      have hre : ByteArray.toList (⟨(trimLeftS s.data.toList [65, 66, 97, 98]).toArray⟩ : ByteArray) ≠ [] := by rw [ByteArray.toList_mk]; exact hne
      generalize (⟨(trimLeftS s.data.toList [65, 66, 97, 98]).toArray⟩ : ByteArray) = r at *
      have hre2 : r.toList.isEmpty = false := by cases h : r.toList with | nil => exact absurd h hre | cons a b => rfl
      clear hb hw h24 hne hre hne2
      go_enter Tryd.func46, Tryd.ntmps46
      go_wp2_with fail
      refine HT.out.mono ?_
      rintro e w1 ⟨rfl, hB⟩
      have HB := Lib.hid hB
      clear hB
      go_wp2
      go_ret
      exact ⟨by try rfl, HB.out⟩
  · have h24i : ¬ (s.size : Int) ≤ 24 := by omega
    have hw : wordB s = false := by unfold wordB; rw [decide_eq_false h24, Bool.and_false]
    rw [hw]
    clear hw h24
    go_enter Tryd.func46, Tryd.ntmps46
    go_wp2
    go_ret
    exact ⟨by try rfl, RowKit.Below.refl _ _⟩
end

end Go.Proofs.YtlcjgppclclkoaaDoor
