/-
  spec.l6In, spec.ChartIn: which lists are charts.
-/
import Derived.Test.YtoomeimloaloaaaUtil
import Derived.Test.YtoomeimloaloaaaMath
namespace Go.Proofs.Ytoomeimloaloaaa
set_option maxRecDepth 100000
open Go.RowKit

theorem l6In_any (n lo hi : Int) (w : World) : Calls Try.prog 44 #[.int .i64 n, .int .i64 lo, .int .i64 hi] w fun e w' => e = .returned (.bool (inB n lo hi)) ∧ w = w' := by
  by_cases h1 : lo ≤ n
  · by_cases h2 : n ≤ hi
    · have hb : inB n lo hi = true := by simp [inB, h1, h2]
      have HB := Lib.hid hb
      clear hb
      go_enter Try.func44, Try.ntmps44
      go_wp2
      go_ret
      exact ⟨by rw [HB.out]; rfl, rfl⟩
    · have hb : inB n lo hi = false := by simp [inB, h2]
      have HB := Lib.hid hb
      clear hb
      go_enter Try.func44, Try.ntmps44
      go_wp2
      go_ret
      exact ⟨by rw [HB.out]; rfl, rfl⟩
  · have hb : inB n lo hi = false := by simp [inB, h1]
    have HB := Lib.hid hb
    clear hb
    go_enter Try.func44, Try.ntmps44
    go_wp2
    go_ret
    exact ⟨by rw [HB.out]; rfl, rfl⟩

/-- the bit z of the mask m, as the program asks it -/
theorem bit_fin : ∀ (m : Fin 64) (z : Fin 6), (bits BinOp.and IntKind.i64 ((m.val : Int) / 2 ^ z.val) 1 == 1) = m.val.testBit z.val := by decide +kernel
theorem bit_is {m : Nat} {z : Int} (hm : m < 64) (h0 : 0 ≤ z) (h6 : z < 6) : (bits BinOp.and IntKind.i64 ((m : Int) / 2 ^ z.toNat) 1 == 1) = m.testBit z.toNat :=
  bit_fin ⟨m, hm⟩ ⟨z.toNat, by omega⟩
theorem set_fin : ∀ (m : Fin 64) (z : Fin 6), bits BinOp.or IntKind.i64 (m.val : Int) (wrap64 (2 ^ z.val)) = ((m.val ||| 1 <<< z.val : Nat) : Int) := by decide +kernel
theorem set_is {m : Nat} {z : Int} (hm : m < 64) (h0 : 0 ≤ z) (h6 : z < 6) : bits BinOp.or IntKind.i64 (m : Int) (wrap64 (2 ^ z.toNat)) = ((m ||| 1 <<< z.toNat : Nat) : Int) :=
  set_fin ⟨m, hm⟩ ⟨z.toNat, by omega⟩

set_option maxHeartbeats 400000 in
/-- spec.ChartIn at a list of more than six numbers: false -/
theorem specIn_long (A : Option Addr) (n c : Nat) (zs : List Int) (w : World) (h : RI w A n zs) (hn : n ≤ 1048576) (h6 : 6 < n) :
    Calls Try.prog 33 #[.slice A n c] w fun e w' => e = .returned (.bool false) ∧ w = w' := by
  go_enter Try.func33, Try.ntmps33
  go_wp2
  go_loop [3, 4] (fun s i => ∃ (k : Nat) (v : Int), k ≤ n ∧ i = .int .i64 k ∧ s = .int .i64 v) (fun _ i => n - (intOf i).toNat)
  case atStart => exact ⟨0, 0, Nat.zero_le _, rfl, rfl⟩
  case round =>
    obtain ⟨k, v, hk, rfl, rfl⟩ := hrel
    by_cases hlt : k < n
    · obtain ⟨ad, rfl, hab, hc⟩ := h.at_ hlt
      generalize zs[k]?.getD 0 = z at hc
      clear h
      by_cases hz : -1 ≤ z ∧ z ≤ n - 1
      · have HI := Lib.hid (show inB z (-1) (n - 1) = true by simp [inB, hz])
        go_wp2_with (go_at_call 44; refine (l6In_any _ _ _ _).mono ?_; rintro e w' ⟨rfl, rfl⟩; rw [HI.out])
        · go_ret
          exact ⟨rfl, rfl⟩
        · exact ⟨⟨k + 1, _, by omega, by go_num, rfl⟩, by simp [intOf]; omega⟩
        · exact ⟨⟨k + 1, _, by omega, by go_num, rfl⟩, by simp [intOf]; omega⟩
      · have HI := Lib.hid (show inB z (-1) (n - 1) = false by simp [inB]; omega)
        go_wp2_with (go_at_call 44; refine (l6In_any _ _ _ _).mono ?_; rintro e w' ⟨rfl, rfl⟩; rw [HI.out])
        go_ret
        exact ⟨rfl, rfl⟩
    · obtain rfl : k = n := by omega
      have HI := Lib.hid (show inB k 1 6 = false by simp [inB]; omega)
      go_wp2_with (go_at_call 44; refine (l6In_any _ _ _ _).mono ?_; rintro e w' ⟨rfl, rfl⟩; rw [HI.out])
      go_ret
      exact ⟨rfl, rfl⟩

set_option maxHeartbeats 400000 in
/-- spec.ChartIn at a list of at most six numbers -/
theorem specIn_short (A : Option Addr) (n c : Nat) (zs : List Int) (w : World) (h : RI w A n zs) (h6 : n ≤ 6) :
    Calls Try.prog 33 #[.slice A n c] w fun e w' => e = .returned (.bool (isC zs)) ∧ w = w' := by
  have HL := Lib.hid h.len
  go_enter Try.func33, Try.ntmps33
  go_wp2
  go_loop [3, 4] (fun s i => ∃ k m : Nat, k ≤ n ∧ m < 64 ∧ i = .int .i64 k ∧ s = .int .i64 m ∧ Hid (okFrom n m (zs.drop k) = okFrom n 0 zs)) (fun _ i => n - (intOf i).toNat)
  case atStart => exact ⟨0, 0, Nat.zero_le _, by omega, rfl, rfl, Lib.hid rfl⟩
  case round =>
    obtain ⟨k, m, hk, hm, rfl, rfl, HO⟩ := hrel
    by_cases hlt : k < n
    · obtain ⟨ad, rfl, hab, hc⟩ := h.at_ hlt
      have hd := okFrom_drop n m zs (k := k) (by have := HL.out; omega)
      rw [HO.out] at hd
      have hmid : isC zs = okFrom n 0 zs := by have := HL.out; rw [isC_mid (by omega) (by omega), HL.out]
      generalize zs[k]?.getD 0 = z at hc hd
      clear h
      by_cases hz : -1 ≤ z ∧ z ≤ n - 1
      · have HI := Lib.hid (show inB z (-1) (n - 1) = true by simp [inB, hz])
        obtain ⟨hz1, hz2⟩ := hz
        by_cases hz0 : 0 ≤ z
        · rw [if_neg (by omega)] at hd
          have hbit := bit_is hm hz0 (show z < 6 by omega)
          cases hb : m.testBit z.toNat
          · rw [hb] at hbit
            rw [if_pos ⟨hz0, by omega, hb⟩] at hd
            have HD := Lib.hid hd
            have HS := Lib.hid (set_is hm hz0 (show z < 6 by omega))
            have HLT := Lib.hid (mask_lt' hm (show z.toNat < 6 by omega))
            clear hd hmid hb
            go_wp2_with (go_at_call 44; refine (l6In_any _ _ _ _).mono ?_; rintro e w' ⟨rfl, rfl⟩; rw [HI.out])
            go_round
            case rel => exact ⟨k + 1, _, by omega, HLT.out, by go_num, by rw [HS.out], Lib.hid HD.out.symm⟩
            case measure => simp [intOf]; omega
          · rw [hb] at hbit
            rw [if_neg (by rw [hb]; simp)] at hd
            have HM := Lib.hid (hmid.trans hd)
            clear hd hmid hb
            go_wp2_with (go_at_call 44; refine (l6In_any _ _ _ _).mono ?_; rintro e w' ⟨rfl, rfl⟩; rw [HI.out])
            go_ret
            exact ⟨by rw [HM.out]; rfl, rfl⟩
        · obtain rfl : z = -1 := by omega
          rw [if_pos rfl] at hd
          have HD := Lib.hid hd
          clear hd hmid
          go_wp2_with (go_at_call 44; refine (l6In_any _ _ _ _).mono ?_; rintro e w' ⟨rfl, rfl⟩; rw [HI.out])
          go_round
          case rel => exact ⟨k + 1, m, by omega, hm, by go_num, rfl, Lib.hid HD.out.symm⟩
          case measure => simp [intOf]; omega
      · have HI := Lib.hid (show inB z (-1) (n - 1) = false by simp [inB]; omega)
        rw [if_neg (by omega), if_neg (by omega)] at hd
        have HM := Lib.hid (hmid.trans hd)
        clear hd hmid
        go_wp2_with (go_at_call 44; refine (l6In_any _ _ _ _).mono ?_; rintro e w' ⟨rfl, rfl⟩; rw [HI.out])
        go_ret
        exact ⟨by rw [HM.out]; rfl, rfl⟩
    · obtain rfl : k = n := by omega
      have he : okFrom k 0 zs = true := by rw [← HO.out, List.drop_eq_nil_of_le (by have := HL.out; omega)]; rfl
      have HI : Hid (inB k 1 6 = isC zs) := by
        show inB k 1 6 = isC zs
        by_cases h1 : 1 ≤ k
        · have := HL.out
          rw [isC_mid (by omega) (by omega), this, he]
          simp [inB]; omega
        · rw [isC_short (by have := HL.out; omega)]
          simp [inB]; omega
      clear he
      go_wp2_with (go_at_call 44; refine (l6In_any _ _ _ _).mono ?_; rintro e w' ⟨rfl, rfl⟩; rw [HI.out])
      go_ret
      exact ⟨rfl, rfl⟩

/-- spec.ChartIn -/
theorem specIn_any (A : Option Addr) (n c : Nat) (zs : List Int) (w : World) (h : RI w A n zs) (hn : n ≤ 1048576) :
    Calls Try.prog 33 #[.slice A n c] w fun e w' => e = .returned (.bool (isC zs)) ∧ w = w' := by
  by_cases h6 : n ≤ 6
  · exact specIn_short A n c zs w h h6
  · rw [isC_long (by have := h.len; omega)]
    exact specIn_long A n c zs w h hn (by omega)
end Go.Proofs.Ytoomeimloaloaaa
