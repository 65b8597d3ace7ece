/-
  Swaps by the program: CutPrefix, act, turned, times, below.
-/
import Derived.Test.YtdljndpobklkjaaDoorSj
namespace Go.Proofs.YtdljndpobklkjaaDoor
set_option maxRecDepth 100000
set_option linter.unusedVariables false
open Go.RowKit

theorem mul_alt (sf st tf tt : List UInt8) : mulS ⟨sf, st, false⟩ ⟨tf, tt, false⟩ = if beg st tf = true then ⟨sf, tt ++ st.drop tf.length, false⟩ else if beg tf st = true then ⟨sf ++ tf.drop st.length, tt, false⟩ else .none := by
  have HM : mulS ⟨sf, st, false⟩ ⟨tf, tt, false⟩ = if beg tf st = true then ⟨sf ++ tf.drop st.length, tt, false⟩ else if beg st tf = true then ⟨sf, tt ++ st.drop tf.length, false⟩ else .none := rfl
  rw [HM]
  by_cases h1 : beg tf st = true
  · by_cases h2 : beg st tf = true
    · rw [if_pos h1, if_pos h2]
      obtain ⟨d, e1⟩ := beg_iff.1 h1
      obtain ⟨d', e2⟩ := beg_iff.1 h2
      have hd : d = [] := by
        have a := congrArg List.length e1
        have b := congrArg List.length e2
        simp only [List.length_append] at a b
        exact List.length_eq_zero_iff.1 (by omega)
      subst hd
      rw [List.append_nil] at e1
      subst e1
      simp
    · rw [if_pos h1, if_neg h2, if_pos h1]
  · rw [if_neg h1, if_neg h1]
theorem bel_alt (sf st tf tt : List UInt8) (sn tn : Bool) : belS ⟨sf, st, sn⟩ ⟨tf, tt, tn⟩ = (sn || (!tn && beg sf tf) && (tt ++ sf.drop tf.length == st)) := by
  cases sn with
  | true => rfl
  | false =>
    cases tn with
    | true => rfl
    | false =>
      rw [Bool.false_or, Bool.not_false, Bool.true_and]
      have key : belS ⟨sf, st, false⟩ ⟨tf, tt, false⟩ = true ↔ (beg sf tf && (tt ++ sf.drop tf.length == st)) = true := by
        rw [bel_iff rfl rfl, Bool.and_eq_true, beg_iff, beq_iff_eq]
        constructor
        · rintro ⟨e, h1, h2⟩
          exact ⟨⟨e, h1⟩, by dsimp only at h1 h2; rw [h1, h2, List.drop_left]⟩
        · rintro ⟨⟨e, h1⟩, h2⟩
          rw [h1, List.drop_left] at h2
          exact ⟨e, h1, h2.symm⟩
      cases h : belS ⟨sf, st, false⟩ ⟨tf, tt, false⟩ with
      | true => exact (key.1 h).symm
      | false =>
        cases h2 : (beg sf tf && (tt ++ sf.drop tf.length == st)) with
        | false => rfl
        | true => rw [key.2 h2] at h; cases h
set_option maxHeartbeats 1000000 in
theorem cut_yes (x f : List UInt8) (h : beg x f = true) (w : World) : Calls Tryd.prog 69 #[.string (bs x), .string (bs f)] w fun e w' => e = .returned (.tuple #[.string (bs (x.drop f.length)), .bool true]) ∧ w' = w := by
  have z1 := bs_size x
  have z2 := bs_size f
  have hle : (f.length : Int) ≤ (x.length : Int) := by obtain ⟨e, rfl⟩ := beg_iff.1 h; rw [List.length_append]; omega
  have x1 := sub_bs x f
  have hE : (bs x).extract 0 f.length = bs (x.take f.length) := bs_head _ _
  have e1 := bs_list (x.take f.length)
  have e2 := bs_list f
  have e3 : (x.take f.length == f) = true := by rw [beg_take]; exact h
  have e4 : x.take f.length = f := beq_iff_eq.1 e3
  rw [e4] at hE e1
  clear h e3 e4 e1
  go_enter Tryd.func69, Tryd.ntmps69
  go_wp2
  exact bodyPost_ret (v := .tuple #[.string (bs (x.drop f.length)), .bool true]) (by simp [results, Tryd.results69, go_sem]) rfl ⟨rfl, rfl⟩
set_option maxHeartbeats 1000000 in
theorem cut_no (x f : List UInt8) (h : beg x f = false) (w : World) : Calls Tryd.prog 69 #[.string (bs x), .string (bs f)] w fun e w' => e = .returned (.tuple #[.string (bs x), .bool false]) ∧ w' = w := by
  have z1 := bs_size x
  have z2 := bs_size f
  by_cases hl : f.length ≤ x.length
  · have hle : (f.length : Int) ≤ (x.length : Int) := by omega
    have hE : (bs x).extract 0 f.length = bs (x.take f.length) := bs_head _ _
    have e1 := bs_list (x.take f.length)
    have e2 := bs_list f
    have e3 : (x.take f.length == f) = false := by rw [beg_take]; exact h
    clear h hl
    generalize x.take f.length = z at *
    go_enter Tryd.func69, Tryd.ntmps69
    go_wp2
    exact bodyPost_ret (v := .tuple #[.string (bs x), .bool false]) (by simp [results, Tryd.results69, go_sem]) rfl ⟨rfl, rfl⟩
  · have hle : ¬ (f.length : Int) ≤ (x.length : Int) := by omega
    clear h hl
    go_enter Tryd.func69, Tryd.ntmps69
    go_wp2
    exact bodyPost_ret (v := .tuple #[.string (bs x), .bool false]) (by simp [results, Tryd.results69, go_sem]) rfl ⟨rfl, rfl⟩
set_option maxHeartbeats 1000000 in
theorem turned_any (f t : List UInt8) (n : Bool) (w : World) :
    Calls Tryd.prog 56 #[.agg #[.string (bs f), .string (bs t), .bool n]] w fun e w' => e = .returned (.agg #[.string (bs t), .string (bs f), .bool n]) ∧ w' = (w.alloc (.cells #[.string (bs f), .string (bs t), .bool n] 32)).alloc (.cells #[.string (bs t), .string (bs f), .bool n] 32) := by
  go_enter Tryd.func56, Tryd.ntmps56
  go_wp2
  exact bodyPost_ret (v := .agg #[.string (bs t), .string (bs f), .bool n]) (by simp [results, Tryd.results56, go_sem]) rfl ⟨rfl, rfl⟩
set_option maxHeartbeats 1000000 in
theorem act_any (f t : List UInt8) (n : Bool) (x : List UInt8) (ht : t.length ≤ 4000000) (hx : x.length ≤ 4000000) (w : World) :
    Calls Tryd.prog 61 #[.agg #[.string (bs f), .string (bs t), .bool n], .string (bs x)] w fun e w' => e = .returned (.tuple #[.string (bs ((actS ⟨f, t, n⟩ x).getD [])), .bool (actS ⟨f, t, n⟩ x).isSome]) ∧ w' = w.alloc (.cells #[.string (bs f), .string (bs t), .bool n] 32) := by
  have z1 := bs_size f
  have z2 := bs_size t
  have z3 := bs_size x
  have z5 := bs_size (x.drop f.length)
  rw [List.length_drop] at z5
  have y1 := bs_app t (x.drop f.length)
  have HF : Hid (actS ⟨f, t, n⟩ x = if (!n && beg x f) = true then some (t ++ x.drop f.length) else Option.none) := rfl
  have HC1 : Hid (∀ W, beg x f = true → Calls Tryd.prog 69 #[.string (bs x), .string (bs f)] W fun e w' => e = .returned (.tuple #[.string (bs (x.drop f.length)), .bool true]) ∧ w' = W) := fun W h => cut_yes x f h W
  have HC2 : Hid (∀ W, beg x f = false → Calls Tryd.prog 69 #[.string (bs x), .string (bs f)] W fun e w' => e = .returned (.tuple #[.string (bs x), .bool false]) ∧ w' = W) := fun W h => cut_no x f h W
  cases hb : beg x f with
  | false =>
    cases n with
    | false =>
      have HC : Hid (∀ W, _) := Lib.hid (fun W => HC2.out W hb)
      have hR : actS ⟨f, t, false⟩ x = none := by rw [HF.out, hb]; rfl
      rw [hR]
      clear hR HF HC1 HC2 hb
      clear y1
      go_enter Tryd.func61, Tryd.ntmps61
      go_wp2_with fail
      refine (HC.out _).mono ?_
      rintro e v1 ⟨rfl, hw⟩
      subst hw
      clear HC
      go_wp2
      exact bodyPost_ret (v := .tuple #[.string ⟨#[]⟩, .bool false]) (by simp [results, Tryd.results61, go_sem]) rfl ⟨by try rfl, rfl⟩
    | true =>
      have HC : Hid (∀ W, _) := Lib.hid (fun W => HC2.out W hb)
      have hR : actS ⟨f, t, true⟩ x = none := by rw [HF.out, hb]; rfl
      rw [hR]
      clear hR HF HC1 HC2 hb
      clear y1
      go_enter Tryd.func61, Tryd.ntmps61
      go_wp2_with fail
      refine (HC.out _).mono ?_
      rintro e v1 ⟨rfl, hw⟩
      subst hw
      clear HC
      go_wp2
      exact bodyPost_ret (v := .tuple #[.string ⟨#[]⟩, .bool false]) (by simp [results, Tryd.results61, go_sem]) rfl ⟨by try rfl, rfl⟩
  | true =>
    cases n with
    | false =>
      have HC : Hid (∀ W, _) := Lib.hid (fun W => HC1.out W hb)
      have hR : actS ⟨f, t, false⟩ x = some (t ++ x.drop f.length) := by rw [HF.out, hb]; rfl
      rw [hR]
      clear hR HF HC1 HC2 hb
      rw [show ((some (t ++ x.drop f.length)).getD ([] : List UInt8)) = t ++ x.drop f.length from rfl, ← y1]
      clear y1
      go_enter Tryd.func61, Tryd.ntmps61
      go_wp2_with fail
      refine (HC.out _).mono ?_
      rintro e v1 ⟨rfl, hw⟩
      subst hw
      clear HC
      go_wp2
      exact bodyPost_ret (v := .tuple #[.string (bs t ++ bs (x.drop f.length)), .bool true]) (by simp [results, Tryd.results61, go_sem]) rfl ⟨by try rfl, rfl⟩
    | true =>
      have HC : Hid (∀ W, _) := Lib.hid (fun W => HC1.out W hb)
      have hR : actS ⟨f, t, true⟩ x = none := by rw [HF.out, hb]; rfl
      rw [hR]
      clear hR HF HC1 HC2 hb
      clear y1
      go_enter Tryd.func61, Tryd.ntmps61
      go_wp2_with fail
      refine (HC.out _).mono ?_
      rintro e v1 ⟨rfl, hw⟩
      subst hw
      clear HC
      go_wp2
      exact bodyPost_ret (v := .tuple #[.string ⟨#[]⟩, .bool false]) (by simp [results, Tryd.results61, go_sem]) rfl ⟨by try rfl, rfl⟩
set_option maxHeartbeats 1000000 in
theorem below_any (sf st tf tt : List UInt8) (sn tn : Bool) (h1 : sf.length ≤ 4000000) (h2 : st.length ≤ 4000000) (h3 : tf.length ≤ 4000000) (h4 : tt.length ≤ 4000000) (w : World) :
    Calls Tryd.prog 65 #[.agg #[.string (bs sf), .string (bs st), .bool sn], .iface 32 (.agg #[.string (bs tf), .string (bs tt), .bool tn])] w fun e w' => e = .returned (.bool (belS ⟨sf, st, sn⟩ ⟨tf, tt, tn⟩)) ∧ Below w.heap.size w w' := by
  have HE := Lib.hid (bel_alt sf st tf tt sn tn)
  have HA := Lib.hid (fun W => act_any tf tt tn sf h4 h1 W)
  have a2 := ta_ss (.agg #[.string (bs tf), .string (bs tt), .bool tn])
  have HF : Hid (actS ⟨tf, tt, tn⟩ sf = if (!tn && beg sf tf) = true then some (tt ++ sf.drop tf.length) else Option.none) := rfl
  have e2 := bs_list st
  rw [HE.out]
  clear HE
  cases hc : (!tn && beg sf tf) with
  | false =>
    rw [show actS ⟨tf, tt, tn⟩ sf = none by rw [HF.out, hc]; rfl] at HA
    rw [Bool.false_and]
    clear HF hc
    cases sn with
    | false =>
      have r1 : (bs (Option.getD (none : Option (List UInt8)) [])) = ⟨#[]⟩ := rfl
      have r2 : Option.isSome (none : Option (List UInt8)) = false := rfl
      rw [r1, r2] at HA
      clear r1 r2
      go_enter Tryd.func65, Tryd.ntmps65
      go_wp2_with fail
      refine (HA.out _).mono ?_
      rintro e v1 ⟨rfl, hw⟩
      subst hw
      clear HA
      go_wp2
      go_ret
      exact ⟨by try rfl, (((Below.refl _ _).alloc (Nat.le_refl _) _).alloc (bel1 w _).size _).alloc (bel2 w _ _).size _⟩
    | true =>
      have r1 : (bs (Option.getD (none : Option (List UInt8)) [])) = ⟨#[]⟩ := rfl
      have r2 : Option.isSome (none : Option (List UInt8)) = false := rfl
      rw [r1, r2] at HA
      clear r1 r2
      go_enter Tryd.func65, Tryd.ntmps65
      go_wp2_with fail
      refine (HA.out _).mono ?_
      rintro e v1 ⟨rfl, hw⟩
      subst hw
      clear HA
      go_wp2
      go_ret
      exact ⟨by try rfl, (((Below.refl _ _).alloc (Nat.le_refl _) _).alloc (bel1 w _).size _).alloc (bel2 w _ _).size _⟩
  | true =>
    rw [show actS ⟨tf, tt, tn⟩ sf = some (tt ++ sf.drop tf.length) by rw [HF.out, hc]; rfl] at HA
    rw [Bool.true_and]
    have r1 : (bs (Option.getD (some (tt ++ sf.drop tf.length)) [])) = bs (tt ++ sf.drop tf.length) := rfl
    have r2 : Option.isSome (some (tt ++ sf.drop tf.length)) = true := rfl
    rw [r1, r2] at HA
    have e1 := bs_list (tt ++ sf.drop tf.length)
    clear HF hc r1 r2
    generalize tt ++ sf.drop tf.length = y at *
    cases sn with
    | false =>
      skip
      go_enter Tryd.func65, Tryd.ntmps65
      go_wp2_with fail
      refine (HA.out _).mono ?_
      rintro e v1 ⟨rfl, hw⟩
      subst hw
      clear HA
      go_wp2
      go_ret
      exact ⟨by try rfl, (((Below.refl _ _).alloc (Nat.le_refl _) _).alloc (bel1 w _).size _).alloc (bel2 w _ _).size _⟩
    | true =>
      skip
      go_enter Tryd.func65, Tryd.ntmps65
      go_wp2_with fail
      refine (HA.out _).mono ?_
      rintro e v1 ⟨rfl, hw⟩
      subst hw
      clear HA
      go_wp2
      go_ret
      exact ⟨by try rfl, (((Below.refl _ _).alloc (Nat.le_refl _) _).alloc (bel1 w _).size _).alloc (bel2 w _ _).size _⟩
end Go.Proofs.YtdljndpobklkjaaDoor
