/-
  Texts of two signs and beginnings, on both sides: spec.l6pText, spec.l6pBegins, impl.isSigns, strings.CutPrefix.
-/
import Derived.Test.YtdljndpobklkjaaDoorSw
import Derived.Test.YtdljndpobklkjaaDoorSht
import Derived.Shelf.Strings.SlTrimAscii
import Derived.WalkSmall
namespace Go.Proofs.YtdljndpobklkjaaDoor
set_option maxRecDepth 100000
set_option linter.unusedVariables false
open Go.RowKit Go.Lib

theorem isS_mem (b : UInt8) : ([48, 49] : List UInt8).contains b = isS b := by
  unfold isS
  rw [List.contains_cons, List.contains_cons, List.contains_nil, Bool.or_false]
theorem trimS_all {l : List UInt8} (h : l.all isS = true) : trimLeftS l [48, 49] = [] := by
  unfold trimLeftS
  induction l with
  | nil => rfl
  | cons b l ih =>
    rw [List.all_cons, Bool.and_eq_true] at h
    rw [List.dropWhile_cons, isS_mem, h.1]
    exact ih h.2
theorem trimS_not {l : List UInt8} (h : l.all isS = false) : trimLeftS l [48, 49] ≠ [] := by
  unfold trimLeftS
  induction l with
  | nil => cases h
  | cons b l ih =>
    rw [List.dropWhile_cons, isS_mem]
    cases hb : isS b with
    | false => simp
    | true =>
      rw [List.all_cons, hb, Bool.true_and] at h
      simpa using ih h
theorem trimS_any (l : List UInt8) (w : World) : Calls Tryd.prog 68 #[.string (bs l), .string ⟨#[48, 49]⟩] w fun e w' => e = .returned (.string ⟨(trimLeftS l [48, 49]).toArray⟩) ∧ RowKit.Below w.heap.size w w' := by
  have h := Any.strings_TrimLeft_laid Tryd.trimL (by kernel_rfl) (bs l) ⟨#[48, 49]⟩ w (by decide) (ascii_of_all (by decide))
  rw [bs_data] at h
  exact h
set_option maxHeartbeats 1000000 in
theorem isSigns_any (l : List UInt8) (m : Nat) (w : World) : Calls Tryd.prog 60 #[.string (bs l), .int .i64 m] w fun e w' => e = .returned (.bool (sgB l m)) ∧ RowKit.Below w.heap.size w w' := by
  have HT := Lib.hid (trimS_any l w)
  have hz := bs_size l
  by_cases hm : l.length ≤ m
  · have hmi : ((bs l).size : Int) ≤ (m : Int) := by rw [hz]; omega
    cases hb : l.all isS with
    | true =>
      have hw : sgB l m = true := by unfold sgB; rw [hb, decide_eq_true hm]; rfl
      rw [trimS_all hb] at HT
      rw [hw]
      clear hb hw hm hz
      generalize bs l = s at *
      go_enter Tryd.func60, Tryd.ntmps60
      go_wp2_with fail
      refine HT.out.mono ?_
      rintro e w1 ⟨rfl, hB⟩
      have HB := Lib.hid hB
      clear hB
      go_wp2
      go_ret
      exact ⟨by try rfl, HB.out⟩
    | false =>
      have hw : sgB l m = false := by unfold sgB; rw [hb]; rfl
      have hne := trimS_not hb
      rw [hw]
      have hre : ByteArray.toList (⟨(trimLeftS l [48, 49]).toArray⟩ : ByteArray) ≠ [] := by rw [ByteArray.toList_mk]; exact hne
      generalize (⟨(trimLeftS l [48, 49]).toArray⟩ : ByteArray) = r at *
      have hre2 : r.toList.isEmpty = false := by cases h : r.toList with | nil => exact absurd h hre | cons a b => rfl
      clear hb hw hm hne hre hz
      generalize bs l = s at *
      go_enter Tryd.func60, Tryd.ntmps60
      go_wp2_with fail
      refine HT.out.mono ?_
      rintro e w1 ⟨rfl, hB⟩
      have HB := Lib.hid hB
      clear hB
      go_wp2
      go_ret
      exact ⟨by try rfl, HB.out⟩
  · have hmi : ¬ ((bs l).size : Int) ≤ (m : Int) := by rw [hz]; omega
    have hw : sgB l m = false := by unfold sgB; rw [decide_eq_false hm, Bool.and_false]
    rw [hw]
    clear hw hm hz
    generalize bs l = s at *
    go_enter Tryd.func60, Tryd.ntmps60
    go_wp2
    go_ret
    exact ⟨by try rfl, RowKit.Below.refl _ _⟩
theorem txt_idx {l : List UInt8} {k : Nat} {x : UInt8} (h : l[k]? = some x) (W : World) : (Instr.index 9 (.string (bs l)) (.int .i64 (k : Int))).run Tryd.prog W = .ok (.int .u8 (x.toNat : Int)) W := by
  have hk : k < l.length := by
    rcases Nat.lt_or_ge k l.length with h' | h'
    · exact h'
    · rw [List.getElem?_eq_none h'] at h; cases h
  have hk' : k < (bs l).size := by rw [bs_size]; exact hk
  have hx : (bs l)[k] = x := by
    rw [List.getElem?_eq_getElem hk] at h
    have := Option.some.inj h
    rw [← this]; rfl
  rw [run_index_string W _ (bs l) .i64 (k : Int) (by kernel_rfl), dif_pos ⟨by omega, by omega⟩]
  simp only [Int.toNat_natCast]
  rw [hx]
theorem u8_nat (x : UInt8) (n : Nat) (hn : n < 256) : (x == UInt8.ofNat n) = ((x.toNat : Int) == (n : Int)) := by
  have h1 : (UInt8.ofNat n).toNat = n := by simp; omega
  by_cases h : x = UInt8.ofNat n
  · subst h
    rw [h1]; simp
  · have h2 : x.toNat ≠ n := fun e => h (UInt8.toNat_inj.1 (by rw [e, h1]))
    have h3 : (x.toNat : Int) ≠ (n : Int) := by omega
    rw [beq_eq_false_iff_ne.2 h, beq_eq_false_iff_ne.2 h3]
theorem isS_int (x : UInt8) : isS x = ((x.toNat : Int) == 48 || (x.toNat : Int) == 49) := by
  unfold isS
  rw [show (48 : UInt8) = UInt8.ofNat 48 from rfl, show (49 : UInt8) = UInt8.ofNat 49 from rfl, u8_nat x 48 (by omega), u8_nat x 49 (by omega)]
  rfl
set_option maxHeartbeats 1000000 in
theorem l6pText_any (l : List UInt8) (m : Nat) (hl : l.length ≤ 4000000000) (w : World) : Calls Tryd.prog 55 #[.string (bs l), .int .i64 m] w fun e w' => e = .returned (.bool (sgB l m)) ∧ w' = w := by
  have hz := bs_size l
  have HW : Hid (sgB l m = (l.all isS && decide (l.length ≤ m))) := rfl
  have HIX := Lib.hid (fun (k : Nat) (x : UInt8) (h : l[k]? = some x) (W : World) => txt_idx h W)
  have HZ := Lib.hid hz
  have hzs : (bs l).size ≤ 4000000000 := by omega
  clear hz hl
  generalize bs l = s at *
  go_enter Tryd.func55, Tryd.ntmps55
  go_wp2
  go_loopw [5] (fun i wr => ∃ k : Nat, k ≤ s.size ∧ i = .int .i64 (k : Int) ∧ wr = w ∧ Hid ((l.take k).all isS = true)) (fun i _ => s.size - (RowKit.intOf i).toNat)
  case atStart => exact ⟨0, Nat.zero_le _, rfl, rfl, rfl⟩
  case round =>
    obtain ⟨k, hk, rfl, rfl, HA⟩ := hrel
    by_cases hlt : k < s.size
    · obtain ⟨x, hx⟩ : ∃ x, l[k]? = some x := ⟨_, List.getElem?_eq_getElem (by rw [← HZ.out]; exact hlt)⟩
      have hix := fun W => HIX.out k x hx W
      have hli : (k : Int) < (s.size : Int) := by omega
      have hS := isS_int x
      cases hb : isS x with
      | true =>
        have HA2 : Hid ((l.take (k + 1)).all isS = true) := by
          show _ = _
          rw [List.take_add_one, hx, Option.toList_some, List.all_append, HA.out]
          simp [hb]
        rw [hb] at hS
        have hS2 : (x.toNat : Int) = 48 ∨ (x.toNat : Int) = 49 := by simpa using hS.symm
        clear hb hx hS
        generalize (x.toNat : Int) = b at *
        rcases hS2 with rfl | rfl
        all_goals
          go_wp2
          go_roundw
          case rel => exact ⟨k + 1, by omega, by go_num, trivial, HA2⟩
          case measure => simp [RowKit.intOf]; omega
      | false =>
        have HF : Hid (sgB l m = false) := by
          show _ = _
          rw [HW.out, Bool.and_eq_false_iff]
          refine .inl ?_
          rw [List.all_eq_false]
          exact ⟨x, List.mem_of_getElem? hx, by simp [hb]⟩
        rw [hb] at hS
        have hS1 : ¬ (x.toNat : Int) = 48 := fun e => by rw [e] at hS; exact absurd hS (by decide)
        have hS2 : ¬ (x.toNat : Int) = 49 := fun e => by rw [e] at hS; exact absurd hS (by decide)
        have hS3 : ((x.toNat : Int) != 48) = true := by simpa using hS1
        have hS4 : ((x.toNat : Int) != 49) = true := by simpa using hS2
        clear hb hx hS
        generalize (x.toNat : Int) = b at *
        go_wp2
        go_ret
        exact ⟨by rw [HF.out]; rfl, rfl⟩
    · obtain rfl : k = s.size := by omega
      have HF : Hid (sgB l m = decide (s.size ≤ m)) := by
        show _ = _
        have := HA.out
        rw [HZ.out, List.take_length] at this
        rw [HW.out, this, Bool.true_and, HZ.out]
      by_cases h24 : s.size ≤ m
      · rw [decide_eq_true h24] at HF
        have h24i : (s.size : Int) ≤ (m : Int) := by omega
        go_wp2
        go_ret
        exact ⟨by rw [HF.out]; rfl, rfl⟩
      · rw [decide_eq_false h24] at HF
        have h24i : ¬ (s.size : Int) ≤ (m : Int) := by omega
        go_wp2
        go_ret
        exact ⟨by rw [HF.out]; rfl, rfl⟩
theorem beg_len {s t : List UInt8} (h : s.length < t.length) : beg s t = false := by
  cases hb : beg s t with
  | false => rfl
  | true =>
    obtain ⟨e, rfl⟩ := beg_iff.1 hb
    rw [List.length_append] at h; omega
theorem beg_take (s t : List UInt8) : (s.take t.length == t) = beg s t := by
  cases hb : beg s t with
  | true =>
    obtain ⟨e, rfl⟩ := beg_iff.1 hb
    rw [List.take_left, beq_self_eq_true]
  | false =>
    rw [beq_eq_false_iff_ne]
    intro e
    have : beg s t = true := beg_iff.2 ⟨s.drop t.length, (List.take_append_drop t.length s).symm.trans (by rw [e])⟩
    rw [hb] at this; cases this
set_option maxHeartbeats 1000000 in
theorem l6pBegins_any (s t : List UInt8) (w : World) : Calls Tryd.prog 63 #[.string (bs s), .string (bs t)] w fun e w' => e = .returned (.bool (beg s t)) ∧ w' = w := by
  have h1 := bs_size s
  have h2 := bs_size t
  by_cases hl : t.length ≤ s.length
  · have hE : (bs s).extract 0 (bs t).size = bs (s.take t.length) := by rw [h2, bs_head]
    have hli : ((bs t).size : Int) ≤ ((bs s).size : Int) := by omega
    have hB := beg_take s t
    have e1 := bs_list (s.take t.length)
    have e2 := bs_list t
    rw [← hB, ← e1]
    clear hB h1 h2 hl
    generalize s.take t.length = z at *
    generalize bs z = zb at *
    generalize bs s = sb at *
    go_enter Tryd.func63, Tryd.ntmps63
    go_wp2
    go_ret
    exact ⟨by rw [e1]; rfl, rfl⟩
  · have hli : ¬ ((bs t).size : Int) ≤ ((bs s).size : Int) := by omega
    rw [beg_len (by omega)]
    clear h1 h2 hl
    generalize bs s = sb at *
    generalize bs t = tb at *
    go_enter Tryd.func63, Tryd.ntmps63
    go_wp2
    go_ret
    exact ⟨by try rfl, rfl⟩
end Go.Proofs.YtdljndpobklkjaaDoor
