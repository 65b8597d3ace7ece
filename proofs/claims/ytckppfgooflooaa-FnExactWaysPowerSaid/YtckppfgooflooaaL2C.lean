/-
  spec: powers, index, period.
-/
import Derived.Test.YtckppfgooflooaaL2B
import Derived.Test.YtckppfgooflooaaSet
namespace Go.Proofs.Ytckppfgooflooaa
set_option maxRecDepth 100000
open Go.RowKit

theorem one_fin : ∀ n : Fin 7, wrap64 (wrap64 (2 ^ n.val) - 1) = ((2 ^ n.val - 1 : Nat) : Int) ∧ 2 ^ n.val - 1 < 64 := by decide +kernel
theorem se_one {n : Nat} (F : Nat → Int) : LT n (seF (2 ^ n - 1)) = LT n (pwF n F 0) := LT_congr (fun j hj => by
  unfold seF pwF; rw [Nat.testBit_two_pow_sub_one, decide_eq_true hj, if_pos rfl, if_pos hj])
theorem pw_times {n k : Nat} {zs : List Int} (hF : CH n (ofL zs)) : LT n (timesL n (ofL zs) (mv (ofL (LT n (pwF n (ofL zs) k))) n)) = LT n (pwF n (ofL zs) (k + 1)) := LT_congr (fun j hj => by
  rw [mv_congr (fun i hi => ofL_pt (pwF n (ofL zs) k) hi), times_cmp hF.six (CH_pw hF k).en hj]; rfl)
theorem pw_ent {n k : Nat} {F : Nat → Int} (hF : CH n F) : Ent n (LT n (pwF n F k)) := en_LT (CH_pw hF k).en

set_option maxHeartbeats 400000 in
/-- l2Same: whether two slices read as the same list -/
theorem l2Same_any (A B : Option Addr) (n m c d : Nat) (zs ys : List Int) (w : World) (h : RI w A n zs) (h' : RI w B m ys) (hn : n ≤ 1048576) :
    Calls Try.prog 64 #[.slice A n c, .slice B m d] w (EqPost zs ys w) := by
  by_cases hnm : n = m
  · subst hnm
    have HL := Lib.hid h.len
    have HL' := Lib.hid h'.len
    go_enter Try.func64, Try.ntmps64
    go_wp2
    go_loopw [5] (fun i wr => ∃ k : Nat, k ≤ n ∧ i = .int .i64 k ∧ Hid (zs.take k = ys.take k) ∧ Below w.heap.size w wr) (fun i _ => n - (intOf i).toNat)
    case atStart => exact ⟨0, Nat.zero_le _, rfl, Lib.hid rfl, Below.refl _ _⟩
    case round =>
      obtain ⟨k, hk, rfl, HT, hbel⟩ := hrel
      by_cases hlt : k < n
      · obtain ⟨ad, rfl, hab, hc⟩ := h.at_ hlt
        obtain ⟨ad', rfl, hab', hc'⟩ := h'.at_ hlt
        have g := (hbel.cell (p := ad.add k) (by rw [block_of_add]; exact hab)).trans hc
        have g' := (hbel.cell (p := ad'.add k) (by rw [block_of_add]; exact hab')).trans hc'
        clear hc hc' h h'
        by_cases he : zs[k]?.getD 0 = ys[k]?.getD 0
        · have ht : ((zs[k]?.getD 0 : Int) != ys[k]?.getD 0) = false := by simp [he]
          have HE := Lib.hid he
          clear he
          go_wp2
          go_quiet (fail)
          all_goals go_wp2
          go_roundw
          case rel =>
            refine ⟨k + 1, by omega, by go_num, ?_, below_drewN hbel _⟩
            show zs.take (k + 1) = ys.take (k + 1)
            rw [take_snoc_get zs (by have := HL.out; omega), take_snoc_get ys (by have := HL'.out; omega), HT.out, HE.out]
          case measure => simp [intOf]; omega
        · have ht : ((zs[k]?.getD 0 : Int) != ys[k]?.getD 0) = true := by simp [he]
          go_wp2
          go_quiet (fail)
          all_goals go_wp2
          go_ret
          refine ⟨?_, below_drewN hbel _⟩
          rw [decide_eq_false (fun e => he (by rw [e]))]
          rfl
      · obtain rfl : k = n := by omega
        go_wp2
        go_ret
        refine ⟨?_, hbel⟩
        rw [decide_eq_true (eq_of_take HL.out HL'.out HT.out)]
        rfl
  · have hb : ((n : Int) != (m : Int)) = true := by rw [bne_iff_ne]; omega
    have HL := Lib.hid h.len
    have HL' := Lib.hid h'.len
    go_enter Try.func64, Try.ntmps64
    go_wp2
    go_ret
    refine ⟨?_, Below.refl _ _⟩
    rw [decide_eq_false (fun e => hnm (by rw [← HL.out, ← HL'.out, e]))]
    rfl

set_option maxHeartbeats 1000000 in
theorem l2Power_any (A : Option Addr) (n c k : Nat) (K : Int) (zs : List Int) (w : World) (h : RI w A n zs) (hF : CH n (ofL zs)) (hK : K = (k : Int)) (hk : k ≤ 4611686018427387904) :
    Calls Try.prog 68 #[.slice A n c, .int .i64 K] w fun e w' => ∃ v, e = .returned v ∧ NewL w (LT n (pwF n (ofL zs) k)) v w' := by
  subst hK
  have h6 := hF.six
  have h1 := hF.one
  have hp := one_fin ⟨n, by omega⟩
  simp only at hp
  have HP := Lib.hid hp.1
  have hp2 := hp.2
  have HSE := Lib.hid (se_one (n := n) (ofL zs))
  have HST := Lib.hid (fun k => pw_times (k := k) hF)
  have HEN := Lib.hid (fun k => pw_ent (k := k) hF)
  clear hp hF
  go_enter Try.func68, Try.ntmps68
  go_wp2_with fail
  rw [HP.out]
  refine (l1Set_any n (2 ^ n - 1) h6 hp2 w).mono ?_
  rintro e w1 ⟨v, rfl, hown, hB⟩
  rw [LT_length, HSE.out] at hown
  clear hp2 HP
  go_wp2
  go_loopw [5, 6] (fun v i wr => ∃ j : Nat, j ≤ k ∧ i = .int .i64 j ∧ wr.ownsRow w.heap.size 3 1 v n (ivs (LT n (pwF n (ofL zs) j))) ∧ Below w.heap.size w wr) (fun _ i _ => k - (intOf i).toNat)
  case atStart => exact ⟨0, Nat.zero_le _, rfl, hown, hB⟩
  case round =>
    clear hown hB
    obtain ⟨j, hj, rfl, hown, hB⟩ := hrel
    by_cases hlt : j < k
    · obtain ⟨g, cp, rfl, hgb, hgl⟩ := hown.form (by omega)
      have hr := RI.of_own hown
      go_wp2_with fail
      refine (l1Times_any _ _ _ _ _ _ _ _ hr (h.below hB) h6 (HEN.out j)).mono ?_
      rintro e w2 ⟨v, rfl, hown2, hb2⟩
      rw [LT_length, HST.out] at hown2
      have hown3 := own_base hown2 hB.size
      have hB2 := hB.trans (hb2.mono hB.size)
      clear hown hown2 hb2 hr
      go_wp2
      go_roundw
      case rel => exact ⟨j + 1, by omega, by go_num, hown3, hB2⟩
      case measure => simp [intOf]; omega
    · obtain rfl : j = k := by omega
      go_wp2
      go_ret
      exact ⟨_, rfl, by rw [LT_length]; exact hown, hB⟩

def idxL (zs : List Int) : Nat := if isC zs = true then idxF zs.length (ofL zs) else 0
def perL (zs : List Int) : Nat := if isC zs = true then perF zs.length (ofL zs) else 0
theorem rk_ofL {n k : Nat} {F : Nat → Int} (hF : CH n F) : popK (domL (mv (ofL (LT n (pwF n F k))) n)) 6 = rkF n F k := by
  rw [mv_congr (fun i hi => ofL_pt (pwF n F k) hi), rk_pw hF]
theorem rk_le6 {n k : Nat} {F : Nat → Int} (hF : CH n F) : rkF n F k ≤ 6 := by have := hF.six; rw [rk_cnt]; have := cnt_le (fun j => decide (0 ≤ itF F j k)) n; omega

set_option maxHeartbeats 1000000 in
theorem specIndex_any (A : Option Addr) (n c : Nat) (zs : List Int) (w : World) (h : RI w A n zs) (hn : n ≤ 1048576) :
    Calls Try.prog 35 #[.slice A n c] w fun e w' => e = .returned (.tuple #[.int .i64 (idxL zs : Nat), .bool (isC zs)]) ∧ Below w.heap.size w w' := by
  cases hC : isC zs
  · have HT : Hid (idxL zs = 0) := by show _ = _; unfold idxL; rw [hC]; rfl
    have HC := Lib.hid hC
    clear hC
    go_enter Try.func35, Try.ntmps35
    go_wp2_with fail
    refine (specIn_any _ _ _ _ _ h hn).mono ?_
    rintro e w1 ⟨rfl, rfl⟩
    rw [HC.out]
    go_wp2
    go_ret2
    exact ⟨by rw [HT.out]; rfl, Below.refl _ _⟩
  · obtain rfl := h.len
    have HT : Hid (idxL zs = idxF zs.length (ofL zs)) := by show _ = _; unfold idxL; rw [hC]; rfl
    have hF := isC_CH hC
    have h6 := hF.six
    have hp1 := hF.one
    have HF := Lib.hid hF
    have hs := idx_spec hF
    have hi6 := hs.2.1
    have HS := Lib.hid hs
    have HC := Lib.hid hC
    clear hC hs
    go_enter Try.func35, Try.ntmps35
    go_wp2_with fail
    refine (specIn_any _ _ _ _ _ h hn).mono ?_
    rintro e w1 ⟨rfl, rfl⟩
    rw [HC.out]
    go_wp2
    go_loopw [4] (fun i wr => ∃ t : Nat, t ≤ idxF zs.length (ofL zs) ∧ i = .int .i64 t ∧ Below w.heap.size w wr) (fun i _ => idxF zs.length (ofL zs) - (intOf i).toNat)
    case atStart => exact ⟨0, Nat.zero_le _, rfl, Below.refl _ _⟩
    case round =>
      obtain ⟨t, ht, rfl, hB⟩ := hrel
      go_wp2_with fail
      refine (l2Power_any A _ c t _ zs wr (h.below hB) HF.out rfl (by omega)).mono ?_
      rintro e w2 ⟨v, rfl, hown, hb2⟩
      rw [LT_length] at hown
      obtain ⟨g, cp, rfl, hgb, hgl⟩ := hown.form (by omega)
      have hr := RI.of_own hown
      have hB2 := hB.trans (hb2.mono hB.size)
      clear hown hb2
      go_wp2_with fail
      refine (l1Domain_any _ _ _ _ _ hr h6 (pw_ent HF.out)).mono ?_
      rintro e w3 ⟨rfl, rfl⟩
      go_wp2_with fail
      refine (l1Size_any _ (domL_lt _) _).mono ?_
      rintro e w3 ⟨rfl, rfl⟩
      rw [rk_ofL HF.out]
      clear hr
      go_wp2_with fail
      refine (l2Power_any A _ c (t + 1) _ zs _ (h.below hB2) HF.out (by go_num) (by omega)).mono ?_
      rintro e w4 ⟨v, rfl, hown, hb4⟩
      rw [LT_length] at hown
      obtain ⟨g, cp, rfl, hgb, hgl⟩ := hown.form (by omega)
      have hr := RI.of_own hown
      have hB4 := hB2.trans (hb4.mono hB2.size)
      clear hown hb4
      go_wp2_with fail
      refine (l1Domain_any _ _ _ _ _ hr h6 (pw_ent HF.out)).mono ?_
      rintro e w5 ⟨rfl, rfl⟩
      go_wp2_with fail
      refine (l1Size_any _ (domL_lt _) _).mono ?_
      rintro e w5 ⟨rfl, rfl⟩
      rw [rk_ofL HF.out]
      clear hr
      by_cases hlt : t < idxF zs.length (ofL zs)
      · have hne : ((rkF zs.length (ofL zs) t : Int) != (rkF zs.length (ofL zs) (t + 1) : Int)) = true := by rw [bne_iff_ne]; have := HS.out.2.2 t hlt; omega
        go_wp2
        go_roundw
        case rel => exact ⟨t + 1, by omega, by go_num, hB4⟩
        case measure => simp [intOf]; omega
      · obtain rfl : t = idxF zs.length (ofL zs) := by omega
        have hne : ((rkF zs.length (ofL zs) (idxF zs.length (ofL zs)) : Int) != (rkF zs.length (ofL zs) (idxF zs.length (ofL zs) + 1) : Int)) = false := by rw [← HS.out.1]; simp
        go_wp2
        go_ret2
        exact ⟨by rw [HT.out]; rfl, hB4⟩
end Go.Proofs.Ytckppfgooflooaa
