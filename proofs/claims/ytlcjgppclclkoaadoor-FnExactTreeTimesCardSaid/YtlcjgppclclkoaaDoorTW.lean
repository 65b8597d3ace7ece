/-
  Sp.
-/
import Derived.Laws.DeepStrings4
import Derived.Test.YtlcjgppclclkoaaDoorTL
import Derived.Test.YtlcjgppclclkoaaDoorTT
namespace Go.Proofs.YtlcjgppclclkoaaDoor
set_option maxRecDepth 100000
set_option linter.unusedVariables false
set_option linter.unusedSimpArgs false
set_option linter.unusedSectionVars false

/-! The specification's small functions on words: l6In, l4Has, l4Less, a word without its last letter. -/
section
open Go.RowKit Go.Lib Go.Sort

def inB0 (n lo hi : Int) : Bool := decide (lo ≤ n) && decide (n ≤ hi)
theorem l6In0_any (n lo hi : Int) (w : World) : Calls Tryd.prog 55 #[.int .i64 n, .int .i64 lo, .int .i64 hi] w fun e w' => e = .returned (.bool (inB0 n lo hi)) ∧ w' = w := by
  by_cases h1 : lo ≤ n
  · by_cases h2 : n ≤ hi
    · have HB : Hid (inB0 n lo hi = true) := by show _ = _; simp [inB0, h1, h2]
      go_enter Tryd.func55, Tryd.ntmps55
      go_wp2
      go_ret
      exact ⟨by rw [HB.out]; rfl, rfl⟩
    · have HB : Hid (inB0 n lo hi = false) := by show _ = _; simp [inB0, h2]
      go_enter Tryd.func55, Tryd.ntmps55
      go_wp2
      go_ret
      exact ⟨by rw [HB.out]; rfl, rfl⟩
  · have HB : Hid (inB0 n lo hi = false) := by show _ = _; simp [inB0, h1]
    go_enter Tryd.func55, Tryd.ntmps55
    go_wp2
    go_ret
    exact ⟨by rw [HB.out]; rfl, rfl⟩
/-- a list has a text -/
def hasB (ss : List ByteArray) (s : ByteArray) : Bool := ss.any (fun t => decide (t = s))
theorem hasB_iff {ss : List ByteArray} {s : ByteArray} : hasB ss s = true ↔ s ∈ ss := by
  unfold hasB
  rw [List.any_eq_true]
  constructor
  · rintro ⟨t, ht, e⟩; rw [← of_decide_eq_true e]; exact ht
  · exact fun h => ⟨s, h, decide_eq_true rfl⟩
theorem hasB_no {ss : List ByteArray} {s : ByteArray} : hasB ss s = false ↔ s ∉ ss := by
  rw [← hasB_iff]; simp
set_option maxHeartbeats 1000000 in
theorem l4Has_any (A : Option Addr) (n c : Nat) (ss : List ByteArray) (s : ByteArray) (w : World) (h : RS w A n ss) (hn : n ≤ 1048576) :
    Calls Tryd.prog 56 #[.slice A n c, .string s] w fun e w' => e = .returned (.bool (hasB ss s)) ∧ w' = w := by
  have HL := Lib.hid h.len
  go_enter Tryd.func56, Tryd.ntmps56
  go_wp2
  go_loopw [5] (fun i wr => ∃ k : Nat, k ≤ n ∧ i = .int .i64 (k : Int) ∧ wr = w ∧ Hid (s ∉ ss.take k)) (fun i _ => n - (intOf i).toNat)
  case atStart => exact ⟨0, Nat.zero_le _, rfl, rfl, Lib.hid (by simp)⟩
  case round =>
    obtain ⟨k, hk, rfl, rfl, HX⟩ := hrel
    by_cases hlt : k < n
    · obtain ⟨ad, t, rfl, hab, hs, hc⟩ := h.at_ hlt
      have HS := Lib.hid hs
      have hbq := beq_str t s
      clear hs h
      by_cases he : t = s
      · rw [decide_eq_true he] at hbq
        have HD : Hid (hasB ss s = true) := hasB_iff.2 (by rw [← he]; exact List.mem_of_getElem? HS.out)
        clear he
        go_wp2
        go_ret
        exact ⟨by rw [HD.out]; rfl, rfl⟩
      · rw [decide_eq_false he] at hbq
        have HX2 : Hid (s ∉ ss.take (k + 1)) := fun hm => by
          rw [take_str ss HS.out] at hm
          rcases List.mem_append.1 hm with h' | h'
          · exact HX.out h'
          · exact he (List.mem_singleton.1 h').symm
        clear he
        go_wp2
        go_roundw
        case rel => exact ⟨k + 1, by omega, by go_num, trivial, HX2⟩
        case measure => simp [intOf]; omega
    · obtain rfl : k = n := by omega
      have HD : Hid (hasB ss s = false) := hasB_no.2 (fun hm => HX.out (by rw [List.take_of_length_le (by have := HL.out; omega)]; exact hm))
      clear h
      go_wp2
      go_ret
      exact ⟨by rw [HD.out]; rfl, rfl⟩
theorem bytesLess_lx : ∀ a b : List UInt8, Op.bytesLess a b = true ↔ lxB a b := by
  intro a
  induction a with
  | nil =>
    intro b
    rw [bytesLess_eq, decide_eq_true_eq]
    cases b with
    | nil => simp [lxB]
    | cons y b => simp [lxB]
  | cons x a ih =>
    intro b
    rw [bytesLess_eq, decide_eq_true_eq]
    cases b with
    | nil => simp [lxB]
    | cons y b =>
      have := ih b
      rw [bytesLess_eq, decide_eq_true_eq] at this
      rw [List.cons_lt_cons_iff, this]
      rfl
theorem ltOf_eq (u v : List (Fin 4)) : ltOf leL u v = if u.length = v.length then Op.bytesLess (strOf u).toList (strOf v).toList else decide (u.length < v.length) := by
  rw [Bool.eq_iff_iff, ltOf_leL]
  unfold ltW
  by_cases h : u.length = v.length
  · rw [if_pos h, ByteArray.toList_eq, ByteArray.toList_eq, bytesLess_lx]; simp [h]
  · rw [if_neg h, decide_eq_true_eq]; simp [h]
set_option maxHeartbeats 1000000 in
theorem l4Less_any (u v : List (Fin 4)) (w : World) : Calls Tryd.prog 57 #[.string (strOf u), .string (strOf v)] w fun e w' => e = .returned (.bool (ltOf leL u v)) ∧ w' = w := by
  have HE := Lib.hid (ltOf_eq u v)
  have hu := strOf_size u
  have hv := strOf_size v
  generalize hs : strOf u = s at *
  generalize ht : strOf v = t at *
  generalize u.length = a at *
  generalize v.length = b at *
  clear hs ht
  by_cases h : a = b
  · subst h
    have HE2 : Hid (ltOf leL u v = Op.bytesLess s.toList t.toList) := by show _ = _; rw [HE.out, if_pos rfl]
    clear HE
    go_enter Tryd.func57, Tryd.ntmps57
    go_wp2
    go_ret
    exact ⟨by rw [HE2.out]; rfl, rfl⟩
  · have hab : ((a : Int) != (b : Int)) = true := by rw [bne_iff_ne]; omega
    by_cases hl : a < b
    · have HE2 : Hid (ltOf leL u v = true) := by show _ = _; rw [HE.out, if_neg h, decide_eq_true hl]
      clear HE
      have hli : (a : Int) < (b : Int) := by omega
      go_enter Tryd.func57, Tryd.ntmps57
      go_wp2
      go_ret
      exact ⟨by rw [HE2.out]; rfl, rfl⟩
    · have HE2 : Hid (ltOf leL u v = false) := by show _ = _; rw [HE.out, if_neg h, decide_eq_false hl]
      clear HE
      have hli : ¬ (a : Int) < (b : Int) := by omega
      go_enter Tryd.func57, Tryd.ntmps57
      go_wp2
      go_ret
      exact ⟨by rw [HE2.out]; rfl, rfl⟩
end

end Go.Proofs.YtlcjgppclclkoaaDoor
