/-
  impl.chartOf, impl.ChartIn.
-/
import Derived.Test.YtoomeimloaloaaaStill
import Derived.Test.YtoomeimloaloaaaFold
namespace Go.Proofs.Ytoomeimloaloaaa
set_option maxRecDepth 100000
open Go.RowKit

/-- the places when k numbers of the list are laid -/
def partL (n : Nat) (zs : List Int) (k : Nat) (j : Nat) : Int := if j < k then zs[j]?.getD 0 else if j < n then -1 else 0

theorem partL_skip {n k : Nat} {zs : List Int} (hk : k < n) (hz : zs[k]?.getD 0 = -1) (j : Nat) : partL n zs k j = partL n zs (k + 1) j := by
  unfold partL
  by_cases h : j = k
  · subst h; simp [hk, hz]
  · by_cases h2 : j < k
    · simp [h2, show j < k + 1 by omega]
    · simp [h2, show ¬ j < k + 1 by omega]
theorem partL_set {n k : Nat} {zs : List Int} (j : Nat) : (if j = k then zs[k]?.getD 0 else partL n zs k j) = partL n zs (k + 1) j := by
  unfold partL
  by_cases h : j = k
  · subst h; simp
  · by_cases h2 : j < k
    · simp [h, h2, show j < k + 1 by omega]
    · simp [h, h2, show ¬ j < k + 1 by omega]
theorem partL_all {n : Nat} {zs : List Int} (hn : zs.length = n) (j : Nat) : partL n zs n j = ofL zs j := by
  unfold partL ofL
  by_cases h : j < n
  · simp [h]
  · simp [h, List.getElem?_eq_none (show zs.length ≤ j by omega)]

def OfPost (zs : List Int) (w : World) (e : Ending) (w' : World) : Prop :=
  ∃ (n : Nat) (T : Nat → Int), e = .returned (.tuple #[.agg #[.int .i64 ((n : Int)), .int .i64 (T 0), .int .i64 (T 1), .int .i64 (T 2), .int .i64 (T 3), .int .i64 (T 4), .int .i64 (T 5)], .bool (isC zs)]) ∧ (isC zs = true → n = zs.length ∧ ∀ j, j < 6 → T j = ofL zs j) ∧ (isC zs = false → n = 0 ∧ ∀ j, j < 6 → T j = 0) ∧ Below w.heap.size w w'

set_option maxHeartbeats 400000 in
/-- impl.chartOf at a list that is too short or too long -/
theorem chartOf_out (A : Option Addr) (n c : Nat) (zs : List Int) (w : World) (h : RI w A n zs) (h6 : n < 1 ∨ 6 < n) :
    Calls Try.prog 34 #[.slice A n c] w (OfPost zs w) := by
  have HC : Hid (isC zs = false) := by
    show isC zs = false
    have := h.len
    rcases h6 with h6 | h6
    · exact isC_short (by omega)
    · exact isC_long (by omega)
  have hd : (decide ((n : Int) < 1) || decide (6 < (n : Int))) = true := by rcases h6 with h6 | h6 <;> simp <;> omega
  rcases h6 with h6 | h6
  · have h7 : n = 0 := by omega
    subst h7
    clear h
    go_enter Try.func34, Try.ntmps34
    go_wp2
    refine bodyPost_ret (v := .tuple #[.agg #[.int .i64 (((0 : Nat) : Int)), .int .i64 ((fun _ => (0 : Int)) 0), .int .i64 ((fun _ => (0 : Int)) 1), .int .i64 ((fun _ => (0 : Int)) 2), .int .i64 ((fun _ => (0 : Int)) 3), .int .i64 ((fun _ => (0 : Int)) 4), .int .i64 ((fun _ => (0 : Int)) 5)], .bool false]) (by simp [results, Try.results34, go_sem]) rfl ⟨0, fun _ => 0, by rw [HC.out], ?_, fun _ => ⟨rfl, fun _ _ => rfl⟩, (Below.refl _ _).alloc (Nat.le_refl _) _⟩
    intro hh; rw [HC.out] at hh; cases hh
  · clear h
    go_enter Try.func34, Try.ntmps34
    go_wp2
    refine bodyPost_ret (v := .tuple #[.agg #[.int .i64 (((0 : Nat) : Int)), .int .i64 ((fun _ => (0 : Int)) 0), .int .i64 ((fun _ => (0 : Int)) 1), .int .i64 ((fun _ => (0 : Int)) 2), .int .i64 ((fun _ => (0 : Int)) 3), .int .i64 ((fun _ => (0 : Int)) 4), .int .i64 ((fun _ => (0 : Int)) 5)], .bool false]) (by simp [results, Try.results34, go_sem]) rfl ⟨0, fun _ => 0, by rw [HC.out], ?_, fun _ => ⟨rfl, fun _ _ => rfl⟩, (Below.refl _ _).alloc (Nat.le_refl _) _⟩
    intro hh; rw [HC.out] at hh; cases hh

set_option maxHeartbeats 1000000 in
/-- impl.chartOf at a list of one to six numbers -/
theorem chartOf_mid (A : Option Addr) (n c : Nat) (zs : List Int) (w : World) (h : RI w A n zs) (h1 : 1 ≤ n) (h6 : n ≤ 6) :
    Calls Try.prog 34 #[.slice A n c] w (OfPost zs w) := by
  have HL := Lib.hid h.len
  have HM : Hid (isC zs = okFrom n 0 zs) := by have := HL.out; show isC zs = _; rw [isC_mid (by omega) (by omega), HL.out]
  go_enter Try.func34, Try.ntmps34
  go_wp2_with fail
  refine (still_any n h6 _).mono ?_
  rintro e w1 ⟨T, rfl, HT, hb⟩
  have hA := ((Cb.new w 0 (fun _ => 0)).below hb (by simp)).alloc (.cells #[.int .i64 ((n : Int)), .int .i64 (T 0), .int .i64 (T 1), .int .i64 (T 2), .int .i64 (T 3), .int .i64 (T 4), .int .i64 (T 5)] 38)
  have hC := Cb.new w1 n T
  have hB : Below w.heap.size w (w1.alloc (.cells #[.int .i64 ((n : Int)), .int .i64 (T 0), .int .i64 (T 1), .int .i64 (T 2), .int .i64 (T 3), .int .i64 (T 4), .int .i64 (T 5)] 38)) := (((Below.refl _ w).alloc (Nat.le_refl _) _).trans (hb.mono (by simp))).alloc (by have := hb.size; simp at this; omega) _
  have hz : w.heap.size + 1 ≤ w1.heap.size := by have := hb.size; simpa using this
  have hC0 : Cb (w1.alloc (.cells #[.int .i64 ((n : Int)), .int .i64 (T 0), .int .i64 (T 1), .int .i64 (T 2), .int .i64 (T 3), .int .i64 (T 4), .int .i64 (T 5)] 38)) w1.heap.size n (partL n zs 0) := hC.congr (fun j _ => by rw [HT.out]; simp [partL])
  clear hC HT hb
  have hd1 : decide ((n : Int) < 1) = false := by simp; omega
  have hd2 : decide (6 < (n : Int)) = false := by simp; omega
  go_wp2
  go_loopw [6, 7, 8, 22] (fun met _ _ i wr => ∃ k m : Nat, k ≤ n ∧ m < 64 ∧ i = .int .i64 k ∧ met = .int .i64 m ∧ Hid (okFrom n m (zs.drop k) = okFrom n 0 zs) ∧
      Cb wr w.heap.size 0 (fun _ => 0) ∧ Cb wr w1.heap.size n (partL n zs k) ∧ Below w.heap.size w wr) (fun _ _ _ i _ => n - (intOf i).toNat)
  case atStart => exact ⟨0, 0, Nat.zero_le _, by omega, rfl, rfl, Lib.hid rfl, hA, hC0, hB⟩
  case round =>
    clear hA hC0 hB
    obtain ⟨k, m, hk, hm, rfl, rfl, HO, hA, hC, hB⟩ := hrel
    by_cases hlt : k < n
    · obtain ⟨ad, rfl, hab, hc⟩ := h.at_ hlt
      have hc := (hB.cell (p := ad.add k) (by rw [block_of_add]; exact hab)).trans hc
      have hd := okFrom_drop n m zs (k := k) (by have := HL.out; omega)
      rw [HO.out] at hd
      have hskip := Lib.hid (partL_skip (n := n) (k := k) (zs := zs) hlt)
      have hset := Lib.hid (partL_set (n := n) (k := k) (zs := zs))
      generalize zs[k]?.getD 0 = z at hc hd hskip hset
      clear h
      by_cases hz1 : z = -1
      · subst hz1
        rw [if_pos rfl] at hd
        have HD := Lib.hid hd
        have hC' := hC.congr (fun j _ => hskip.out rfl j)
        clear hd
        go_wp2
        go_roundw
        case rel => exact ⟨k + 1, m, by omega, hm, by go_num, rfl, Lib.hid HD.out.symm, hA, hC', hB⟩
        case measure => simp [intOf]; omega
      · have hb1 : (z == -1) = false := by simpa using hz1
        rw [if_neg hz1] at hd
        obtain ⟨a0, a1, a2, a3, a4, a5, a6⟩ := hA.all
        obtain ⟨b0, b1, b2, b3, b4, b5, b6⟩ := hA.frees
        by_cases hin : 0 ≤ z ∧ z < n
        · obtain ⟨hz0, hzn⟩ := hin
          have hd3 : decide (z < 0) = false := by simp; omega
          have hd4 : decide ((n : Int) ≤ z) = false := by simp; omega
          have hbit := Lib.hid (bit_is hm hz0 (show z < 6 by omega))
          cases hb : m.testBit z.toNat
          · rw [if_pos ⟨hz0, hzn, hb⟩] at hd
            have HD := Lib.hid hd
            have HS := Lib.hid (set_is hm hz0 (show z < 6 by omega))
            have HLT := Lib.hid (mask_lt' hm (show z.toNat < 6 by omega))
            have HBT := Lib.hid hb
            have e1 := hC.at_ (k := k) (by omega)
            have e2 := hC.frozen (1 + k)
            have hC' := (hC.set_ k z).congr (fun j _ => hset.out j)
            have hA' := hA.other (a := ⟨w1.heap.size, 1 + k, none⟩) (by simp; omega) (.int .i64 z)
            have hB' := hB.setCell (p := ⟨w1.heap.size, 1 + k, none⟩) (by simp; omega) (.int .i64 z)
            clear hd hb hA hB hC a0 a1 a2 a3 a4 a5 a6 b0 b1 b2 b3 b4 b5 b6
            go_wp2_with (go_at_call 45; refine (hasPoint_any _ _ (by assumption) (by assumption) (by omega) _).mono ?_; rintro e w' ⟨rfl, rfl⟩; rw [HBT.out])
            go_roundw
            case rel => exact ⟨k + 1, _, by omega, HLT.out, by go_num, by rw [HS.out], Lib.hid HD.out.symm, hA', hC', hB'⟩
            case measure => simp [intOf]; omega
          · rw [if_neg (by rw [hb]; simp)] at hd
            have HF := Lib.hid (HM.out.trans hd)
            have HBT := Lib.hid hb
            clear hd hC hb
            go_wp2_with (go_at_call 45; refine (hasPoint_any _ _ (by assumption) (by assumption) (by omega) _).mono ?_; rintro e w' ⟨rfl, rfl⟩; rw [HBT.out])
            refine bodyPost_ret (v := .tuple #[.agg #[.int .i64 (((0 : Nat) : Int)), .int .i64 ((fun _ => (0 : Int)) 0), .int .i64 ((fun _ => (0 : Int)) 1), .int .i64 ((fun _ => (0 : Int)) 2), .int .i64 ((fun _ => (0 : Int)) 3), .int .i64 ((fun _ => (0 : Int)) 4), .int .i64 ((fun _ => (0 : Int)) 5)], .bool false]) (by simp [results, Try.results34, go_sem, a0, a1, a2, a3, a4, a5, a6]) rfl ⟨0, fun _ => 0, by rw [HF.out], ?_, fun _ => ⟨rfl, fun _ _ => rfl⟩, below_set7 hB (Nat.le_refl _) _ _ _ _ _ _ _⟩
            intro hh; rw [HF.out] at hh; cases hh
        · have hd3 : (decide (z < 0) || decide ((n : Int) ≤ z)) = true := by simp; omega
          rw [if_neg (by omega)] at hd
          have HF := Lib.hid (HM.out.trans hd)
          clear hd hC
          by_cases hneg : z < 0
          · go_wp2
            refine bodyPost_ret (v := .tuple #[.agg #[.int .i64 (((0 : Nat) : Int)), .int .i64 ((fun _ => (0 : Int)) 0), .int .i64 ((fun _ => (0 : Int)) 1), .int .i64 ((fun _ => (0 : Int)) 2), .int .i64 ((fun _ => (0 : Int)) 3), .int .i64 ((fun _ => (0 : Int)) 4), .int .i64 ((fun _ => (0 : Int)) 5)], .bool false]) (by simp [results, Try.results34, go_sem, a0, a1, a2, a3, a4, a5, a6]) rfl ⟨0, fun _ => 0, by rw [HF.out], ?_, fun _ => ⟨rfl, fun _ _ => rfl⟩, below_set7 hB (Nat.le_refl _) _ _ _ _ _ _ _⟩
            intro hh; rw [HF.out] at hh; cases hh
          · go_wp2
            refine bodyPost_ret (v := .tuple #[.agg #[.int .i64 (((0 : Nat) : Int)), .int .i64 ((fun _ => (0 : Int)) 0), .int .i64 ((fun _ => (0 : Int)) 1), .int .i64 ((fun _ => (0 : Int)) 2), .int .i64 ((fun _ => (0 : Int)) 3), .int .i64 ((fun _ => (0 : Int)) 4), .int .i64 ((fun _ => (0 : Int)) 5)], .bool false]) (by simp [results, Try.results34, go_sem, a0, a1, a2, a3, a4, a5, a6]) rfl ⟨0, fun _ => 0, by rw [HF.out], ?_, fun _ => ⟨rfl, fun _ _ => rfl⟩, below_set7 hB (Nat.le_refl _) _ _ _ _ _ _ _⟩
            intro hh; rw [HF.out] at hh; cases hh
    · obtain rfl : k = n := by omega
      have he : okFrom k 0 zs = true := by rw [← HO.out, List.drop_eq_nil_of_le (by have := HL.out; omega)]; rfl
      have HT := Lib.hid (HM.out.trans he)
      have HP := Lib.hid (partL_all HL.out)
      generalize partL k zs k = T at hC HP
      obtain ⟨a0, a1, a2, a3, a4, a5, a6⟩ := hA.all
      obtain ⟨b0, b1, b2, b3, b4, b5, b6⟩ := hA.frees
      obtain ⟨c0, c1, c2, c3, c4, c5, c6⟩ := hC.all
      clear he h hA hC
      go_wp2
      refine bodyPost_ret (v := .tuple #[.agg #[.int .i64 ((k : Int)), .int .i64 (T 0), .int .i64 (T 1), .int .i64 (T 2), .int .i64 (T 3), .int .i64 (T 4), .int .i64 (T 5)], .bool true]) (by simp [results, Try.results34, go_sem, a0, a1, a2, a3, a4, a5, a6]) rfl ⟨k, T, by rw [HT.out], fun _ => ⟨HL.out.symm, fun j _ => HP.out j⟩, ?_, below_set7 hB (Nat.le_refl _) _ _ _ _ _ _ _⟩
      intro hh; rw [HT.out] at hh; cases hh

/-- impl.chartOf -/
theorem chartOf_any (A : Option Addr) (n c : Nat) (zs : List Int) (w : World) (h : RI w A n zs) : Calls Try.prog 34 #[.slice A n c] w (OfPost zs w) := by
  by_cases h1 : 1 ≤ n
  · by_cases h6 : n ≤ 6
    · exact chartOf_mid A n c zs w h h1 h6
    · exact chartOf_out A n c zs w h (.inr (by omega))
  · exact chartOf_out A n c zs w h (.inl (by omega))

/-- what is had of a chart that impl.chartOf hands back -/
theorem of_facts {zs : List Int} {k : Nat} {T : Nat → Int} (hy : isC zs = true → k = zs.length ∧ ∀ j, j < 6 → T j = ofL zs j) (hn : isC zs = false → k = 0 ∧ ∀ j, j < 6 → T j = 0) : k = fk zs ∧ ∀ j, j < 6 → T j = fT zs j := by
  cases h : isC zs
  · exact ⟨by rw [fk_no h]; exact (hn h).1, fun j hj => by rw [fT_no h]; exact (hn h).2 j hj⟩
  · exact ⟨by rw [fk_yes h]; exact (hy h).1, fun j hj => by rw [fT_yes h]; exact (hy h).2 j hj⟩

end Go.Proofs.Ytoomeimloaloaaa
