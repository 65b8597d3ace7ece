/-
  Frm.
-/
import Derived.Test.YtmknjifmmmnjjaaGreatDoorMV
import Derived.Test.YtmknjifmmmnjjaaGreatDoorNC
namespace Go.Proofs.YtmknjifmmmnjjaaGreatDoor
set_option maxRecDepth 100000
set_option linter.unusedVariables false
set_option linter.unusedSimpArgs false
set_option linter.unusedSectionVars false

/-! impl.chartsFrom: lists read as charts of as many points. -/
section
open Go.RowKit

theorem chartOf_c (A : Option Addr) (n c : Nat) (L : List Int) (w : World) (h : RI w A n L) :
    Calls Tryz.prog 47 #[.slice A n c] w fun e w' => (isC L = true → e = .returned (.tuple #[.agg #[.int .i64 ((L.length : Int)), .int .i64 (ofL L 0), .int .i64 (ofL L 1), .int .i64 (ofL L 2), .int .i64 (ofL L 3), .int .i64 (ofL L 4), .int .i64 (ofL L 5)], .bool true])) ∧ (isC L = false → e = .returned (.tuple #[.agg #[.int .i64 (((0 : Nat) : Int)), .int .i64 ((fun _ => (0 : Int)) 0), .int .i64 ((fun _ => (0 : Int)) 1), .int .i64 ((fun _ => (0 : Int)) 2), .int .i64 ((fun _ => (0 : Int)) 3), .int .i64 ((fun _ => (0 : Int)) 4), .int .i64 ((fun _ => (0 : Int)) 5)], .bool false])) ∧ Below w.heap.size w w' :=
  (chartOf_any A n c L w h).mono fun e w' ⟨k, T, he, hy, hn, hb⟩ => by
    refine ⟨fun hc => ?_, fun hc => ?_, hb⟩
    · obtain ⟨rfl, hT⟩ := hy hc
      rw [he, hc, hT 0 (by omega), hT 1 (by omega), hT 2 (by omega), hT 3 (by omega), hT 4 (by omega), hT 5 (by omega)]
    · obtain ⟨rfl, hT⟩ := hn hc
      rw [he, hc, hT 0 (by omega), hT 1 (by omega), hT 2 (by omega), hT 3 (by omega), hT 4 (by omega), hT 5 (by omega)]

theorem cwc_take {n k : Nat} {zs : List (List Int)} (hk : k < zs.length) : cwc n (zs.take (k + 1)) = cwc n (zs.take k) ++ c7 n (ofL (ent zs k)) := by
  rw [List.take_succ_eq_append_getElem hk, cwc_append]
  have : ent zs k = zs[k] := by unfold ent; rw [List.getElem?_eq_getElem hk]; rfl
  rw [this]; simp [cwc]

/-- lists that are charts of as many points, at most so many -/
def cfB (zs : List (List Int)) (m : Nat) : Bool := chB zs && decide (zs.length ≤ m)

set_option maxHeartbeats 2000000 in
theorem chartsFrom_any (A : Option Addr) (n c m : Nat) (hm : m ≤ 1048576) (zs : List (List Int)) (w : World) (h : RSS w A n zs) :
    Calls Tryz.prog 157 #[.slice A n c, .int .i64 (m : Int)] w fun e w' => ∃ v, e = .returned (.tuple #[v, .bool (cfB zs m)]) ∧ (cfB zs m = true → w'.ownsRow w.heap.size 61 7 v n (cwc (ent zs 0).length zs)) ∧ (cfB zs m = false → v = .slice none 0 0) ∧ Below w.heap.size w w' := by
  obtain ⟨i1, hj, hj0, hj1, hj2⟩ := info_parts info_chart7
  have HL := Lib.hid h.len
  by_cases hn1 : n < 1
  · have HF : Hid (cfB zs m = false) := by show _ = _; unfold cfB chB; rw [HL.out, decide_eq_false (by omega)]; simp
    obtain rfl : n = 0 := by omega
    clear h
    go_enter Tryz.func157, Tryz.ntmps157
    go_wp2
    go_ret2
    exact ⟨_, by rw [HF.out]; rfl, fun e => (by rw [HF.out] at e; cases e), fun _ => rfl, Below.refl _ _⟩
  by_cases hnm : m < n
  · have HF : Hid (cfB zs m = false) := by show _ = _; unfold cfB; rw [HL.out, decide_eq_false (by omega)]; simp
    have hd : decide ((n : Int) < 1) = false := by simp; omega
    have hd2 : decide ((m : Int) < (n : Int)) = true := by simp; omega
    clear h
    go_enter Tryz.func157, Tryz.ntmps157
    go_wp2
    go_ret2
    exact ⟨_, by rw [HF.out]; rfl, fun e => (by rw [HF.out] at e; cases e), fun _ => rfl, Below.refl _ _⟩
  have HC : Hid (cfB zs m = chB zs) := by show _ = _; unfold cfB; rw [HL.out, decide_eq_true (by omega)]; simp
  have hd : decide ((n : Int) < 1) = false := by simp; omega
  have hd2 : decide ((m : Int) < (n : Int)) = false := by simp; omega
  have hn6 : n ≤ 1048576 := by omega
  go_enter Tryz.func157, Tryz.ntmps157
  go_wp2
  clear hd hd2
  go_loopw [6, 8, 9, 10, 22] (fun v _ _ _ i wr => ∃ k : Nat, k ≤ n ∧ i = .int .i64 (k : Int) ∧ Hid ((zs.take k).all (fun L => isC L && decide (L.length = (ent zs 0).length)) = true) ∧ wr.ownsRow w.heap.size 61 7 v k (cwc (ent zs 0).length (zs.take k)) ∧ Below w.heap.size w wr) (fun _ _ _ _ i _ => n - (intOf i).toNat)
  case atStart => exact ⟨0, Nat.zero_le _, rfl, Lib.hid rfl, World.ownsRow_nil _ _ _ _, Below.refl _ _⟩
  case round =>
    obtain ⟨k, hk, rfl, HT, hrow, hB⟩ := hrel
    by_cases hlt : k < n
    · have hR : RSS wr A n zs := h.below hB
      obtain ⟨ad, Ai, ci, rfl, hab, hc, hr⟩ := hR.at_ hlt
      obtain ⟨ad', A0, c0, he, hab', hc', hr'⟩ := hR.at_ (show 0 < n by omega)
      obtain rfl := Option.some.inj he
      have hkl : k < zs.length := by have := HL.out; omega
      have hent : zs[k]?.getD [] = ent zs k := rfl
      have hent0 : zs[0]?.getD [] = ent zs 0 := rfl
      rw [hent] at hc hr
      rw [hent0, add_zero_] at hc'
      have HNO := Lib.hid (chB_no hkl)
      have HST := Lib.hid (chB_step hkl _ HT.out)
      have HTK := Lib.hid (cwc_take (n := (ent zs 0).length) hkl)
      have hbk : ad.block < wr.heap.size := by have := hB.size; omega
      clear hent hent0 hab hab' hr' hR he hkl h
      go_wp2_with fail
      refine (chartOf_c _ _ _ _ _ hr).mono ?_
      rintro e w1 ⟨hy, hno, hb1⟩
      have hc2 := (hb1.cell (p := ad) hbk).trans hc'
      have hbk1 : ad.block < w1.heap.size := by have := hb1.size; omega
      have hB1 := hB.trans (hb1.mono hB.size)
      have hrow1 := own_below hrow hb1
      clear hr hb1 hrow hB hc hc'
      cases hC : isC (ent zs k)
      · obtain rfl := hno hC
        have HF := Lib.hid (HNO.out (by rw [hC]; rfl))
        clear hy hno hC
        generalize (ent zs k).length = l1 at *
        generalize (ent zs 0).length = l0 at *
        go_wp2
        go_quiet (fail)
        all_goals go_wp2
        all_goals go_ret2
        all_goals exact ⟨_, by rw [HC.out, HF.out]; rfl, fun e => (by rw [HC.out, HF.out] at e; cases e), fun _ => rfl, below_drewN (hB1.alloc hB1.size _) _⟩
      · obtain rfl := hy hC
        clear hy hno
        by_cases hd : (ent zs k).length = (ent zs 0).length
        · have HS1 := Lib.hid (HST.out (by rw [hC, decide_eq_true hd]; rfl))
          have hbe : (((ent zs k).length : Int) != ((ent zs 0).length : Int)) = false := by simp [hd]
          have hc2' := (World.cell?_alloc_lt w1 (.cells #[.int .i64 (((ent zs k).length : Int)), .int .i64 (ofL (ent zs k) 0), .int .i64 (ofL (ent zs k) 1), .int .i64 (ofL (ent zs k) 2), .int .i64 (ofL (ent zs k) 3), .int .i64 (ofL (ent zs k) 4), .int .i64 (ofL (ent zs k) 5)] 61) ad hbk1).trans hc2
          have p1 : k + 1 ≤ maxLen := by unfold maxLen; omega
          have p2 : (k + 1) * 56 ≤ 140737488355328 := by omega
          have HD := Lib.hid hd
          obtain ⟨b0, b1, b2, b3, b4, b5, b6⟩ := (Cb.new w1 ((ent zs k).length : Int) (ofL (ent zs k))).all
          clear hC hc2 hd
          generalize (ent zs k).length = l1 at *
          generalize hl0 : (ent zs 0).length = l0 at *
          have HL0 := Lib.hid hl0
          clear hl0
          have HRW : Hid (∀ q, (((w1.alloc (.cells #[.int .i64 ((l1 : Int)), .int .i64 (ofL (ent zs k) 0), .int .i64 (ofL (ent zs k) 1), .int .i64 (ofL (ent zs k) 2), .int .i64 (ofL (ent zs k) 3), .int .i64 (ofL (ent zs k) 4), .int .i64 (ofL (ent zs k) 5)] 61)).drewN q).alloc (.cells #[.int .i64 ((l1 : Int)), .int .i64 (ofL (ent zs k) 0), .int .i64 (ofL (ent zs k) 1), .int .i64 (ofL (ent zs k) 2), .int .i64 (ofL (ent zs k) 3), .int .i64 (ofL (ent zs k) 4), .int .i64 (ofL (ent zs k) 5)] 61)).ownsRow w.heap.size 61 7 u6 k (cwc l0 (zs.take k))) := fun q => (own_below (hrow1.alloc (.cells #[.int .i64 ((l1 : Int)), .int .i64 (ofL (ent zs k) 0), .int .i64 (ofL (ent zs k) 1), .int .i64 (ofL (ent zs k) 2), .int .i64 (ofL (ent zs k) 3), .int .i64 (ofL (ent zs k) 4), .int .i64 (ofL (ent zs k) 5)] 61)) (below_drewN (Below.refl _ _) q)).alloc (.cells #[.int .i64 ((l1 : Int)), .int .i64 (ofL (ent zs k) 0), .int .i64 (ofL (ent zs k) 1), .int .i64 (ofL (ent zs k) 2), .int .i64 (ofL (ent zs k) 3), .int .i64 (ofL (ent zs k) 4), .int .i64 (ofL (ent zs k) 5)] 61)
          have HCL : Hid (∀ q, ∀ (j : Nat) (x : Value), (c7 l1 (ofL (ent zs k)))[j]? = some x → (((w1.alloc (.cells #[.int .i64 ((l1 : Int)), .int .i64 (ofL (ent zs k) 0), .int .i64 (ofL (ent zs k) 1), .int .i64 (ofL (ent zs k) 2), .int .i64 (ofL (ent zs k) 3), .int .i64 (ofL (ent zs k) 4), .int .i64 (ofL (ent zs k) 5)] 61)).drewN q).alloc (.cells #[.int .i64 ((l1 : Int)), .int .i64 (ofL (ent zs k) 0), .int .i64 (ofL (ent zs k) 1), .int .i64 (ofL (ent zs k) 2), .int .i64 (ofL (ent zs k) 3), .int .i64 (ofL (ent zs k) 4), .int .i64 (ofL (ent zs k) 5)] 61)).cell? ((⟨w1.heap.size + 1, 0, none⟩ : Addr).add j) = some x) := fun q => by
            have := cell_7_new ((w1.alloc (.cells #[.int .i64 ((l1 : Int)), .int .i64 (ofL (ent zs k) 0), .int .i64 (ofL (ent zs k) 1), .int .i64 (ofL (ent zs k) 2), .int .i64 (ofL (ent zs k) 3), .int .i64 (ofL (ent zs k) 4), .int .i64 (ofL (ent zs k) 5)] 61)).drewN q) l1 (ofL (ent zs k))
            have hz : ((w1.alloc (.cells #[.int .i64 ((l1 : Int)), .int .i64 (ofL (ent zs k) 0), .int .i64 (ofL (ent zs k) 1), .int .i64 (ofL (ent zs k) 2), .int .i64 (ofL (ent zs k) 3), .int .i64 (ofL (ent zs k) 4), .int .i64 (ofL (ent zs k) 5)] 61)).drewN q).heap.size = w1.heap.size + 1 := by show (w1.alloc (.cells #[.int .i64 ((l1 : Int)), .int .i64 (ofL (ent zs k) 0), .int .i64 (ofL (ent zs k) 1), .int .i64 (ofL (ent zs k) 2), .int .i64 (ofL (ent zs k) 3), .int .i64 (ofL (ent zs k) 4), .int .i64 (ofL (ent zs k) 5)] 61)).heap.size = _; simp
            rwa [hz] at this
          have hs1 := hB1.size
          have HP3 : Hid (∀ q, w.heap.size ≤ (((w1.alloc (.cells #[.int .i64 ((l1 : Int)), .int .i64 (ofL (ent zs k) 0), .int .i64 (ofL (ent zs k) 1), .int .i64 (ofL (ent zs k) 2), .int .i64 (ofL (ent zs k) 3), .int .i64 (ofL (ent zs k) 4), .int .i64 (ofL (ent zs k) 5)] 61)).drewN q).alloc (.cells #[.int .i64 ((l1 : Int)), .int .i64 (ofL (ent zs k) 0), .int .i64 (ofL (ent zs k) 1), .int .i64 (ofL (ent zs k) 2), .int .i64 (ofL (ent zs k) 3), .int .i64 (ofL (ent zs k) 4), .int .i64 (ofL (ent zs k) 5)] 61)).heap.size) := fun q => by
            have hz : (((w1.alloc (.cells #[.int .i64 ((l1 : Int)), .int .i64 (ofL (ent zs k) 0), .int .i64 (ofL (ent zs k) 1), .int .i64 (ofL (ent zs k) 2), .int .i64 (ofL (ent zs k) 3), .int .i64 (ofL (ent zs k) 4), .int .i64 (ofL (ent zs k) 5)] 61)).drewN q).alloc (.cells #[.int .i64 ((l1 : Int)), .int .i64 (ofL (ent zs k) 0), .int .i64 (ofL (ent zs k) 1), .int .i64 (ofL (ent zs k) 2), .int .i64 (ofL (ent zs k) 3), .int .i64 (ofL (ent zs k) 4), .int .i64 (ofL (ent zs k) 5)] 61)).heap.size = w1.heap.size + 1 + 1 := by rw [World.size_alloc]; show (w1.alloc (.cells #[.int .i64 ((l1 : Int)), .int .i64 (ofL (ent zs k) 0), .int .i64 (ofL (ent zs k) 1), .int .i64 (ofL (ent zs k) 2), .int .i64 (ofL (ent zs k) 3), .int .i64 (ofL (ent zs k) 4), .int .i64 (ofL (ent zs k) 5)] 61)).heap.size + 1 = _; simp
            rw [hz]; omega
          have HB2 : Hid (∀ q, Below w.heap.size w (((w1.alloc (.cells #[.int .i64 ((l1 : Int)), .int .i64 (ofL (ent zs k) 0), .int .i64 (ofL (ent zs k) 1), .int .i64 (ofL (ent zs k) 2), .int .i64 (ofL (ent zs k) 3), .int .i64 (ofL (ent zs k) 4), .int .i64 (ofL (ent zs k) 5)] 61)).drewN q).alloc (.cells #[.int .i64 ((l1 : Int)), .int .i64 (ofL (ent zs k) 0), .int .i64 (ofL (ent zs k) 1), .int .i64 (ofL (ent zs k) 2), .int .i64 (ofL (ent zs k) 3), .int .i64 (ofL (ent zs k) 4), .int .i64 (ofL (ent zs k) 5)] 61))) := fun q => (below_drewN (hB1.alloc hs1 (.cells #[.int .i64 ((l1 : Int)), .int .i64 (ofL (ent zs k) 0), .int .i64 (ofL (ent zs k) 1), .int .i64 (ofL (ent zs k) 2), .int .i64 (ofL (ent zs k) 3), .int .i64 (ofL (ent zs k) 4), .int .i64 (ofL (ent zs k) 5)] 61)) q).alloc (by show _ ≤ (w1.alloc (.cells #[.int .i64 ((l1 : Int)), .int .i64 (ofL (ent zs k) 0), .int .i64 (ofL (ent zs k) 1), .int .i64 (ofL (ent zs k) 2), .int .i64 (ofL (ent zs k) 3), .int .i64 (ofL (ent zs k) 4), .int .i64 (ofL (ent zs k) 5)] 61)).heap.size; simp; omega) (.cells #[.int .i64 ((l1 : Int)), .int .i64 (ofL (ent zs k) 0), .int .i64 (ofL (ent zs k) 1), .int .i64 (ofL (ent zs k) 2), .int .i64 (ofL (ent zs k) 3), .int .i64 (ofL (ent zs k) 4), .int .i64 (ofL (ent zs k) 5)] 61)
          go_wp2
          go_quiet (fail)
          all_goals go_wp2_with (at_builtin; refine wpList_append_own _ rfl _ _ 78 rfl w.heap.size 61 i1 (.agg #[.int .i64 ((0 : Int)), .int .i64 ((fun _ => (0 : Int)) 0), .int .i64 ((fun _ => (0 : Int)) 1), .int .i64 ((fun _ => (0 : Int)) 2), .int .i64 ((fun _ => (0 : Int)) 3), .int .i64 ((fun _ => (0 : Int)) 4), .int .i64 ((fun _ => (0 : Int)) 5)]) 7 56 Tryz.underlying78 hj hj0 hj1 hj2 rfl (by decide) _ _ _ rfl (HRW.out _) ⟨w1.heap.size + 1, 0, none⟩ 1 1 (c7 l1 (ofL (ent zs k))) rfl rfl (HCL.out _) (c7_one _ _) p1 p2 (HP3.out _) ?_; intro v' w4 hown' hgrow _)
          all_goals go_roundw
          case rel => exact ⟨k + 1, by omega, by go_num, by rw [HL0.out]; exact HS1, (by have h2 := hown'; rw [HD.out] at h2; rw [HL0.out, HTK.out]; exact h2), (HB2.out nq).grown hgrow (HP3.out nq) (fun g e => ((HRW.out nq).lt g e).1)⟩
          case measure => simp [intOf]; omega
        · have HF := Lib.hid (HNO.out (by rw [decide_eq_false hd, Bool.and_false]))
          have hbe : (((ent zs k).length : Int) != ((ent zs 0).length : Int)) = true := by simp; omega
          have hc2' := (World.cell?_alloc_lt w1 (.cells #[.int .i64 (((ent zs k).length : Int)), .int .i64 (ofL (ent zs k) 0), .int .i64 (ofL (ent zs k) 1), .int .i64 (ofL (ent zs k) 2), .int .i64 (ofL (ent zs k) 3), .int .i64 (ofL (ent zs k) 4), .int .i64 (ofL (ent zs k) 5)] 61) ad hbk1).trans hc2
          obtain ⟨b0, b1, b2, b3, b4, b5, b6⟩ := (Cb.new w1 ((ent zs k).length : Int) (ofL (ent zs k))).all
          clear hC hd hc2
          generalize (ent zs k).length = l1 at *
          generalize (ent zs 0).length = l0 at *
          go_wp2
          go_quiet (fail)
          all_goals go_wp2
          all_goals go_ret2
          all_goals exact ⟨_, by rw [HC.out, HF.out]; rfl, fun e => (by rw [HC.out, HF.out] at e; cases e), fun _ => rfl, below_drewN (hB1.alloc hB1.size _) _⟩
    · obtain rfl : k = n := by omega
      have HF : Hid (chB zs = true) := by
        show _ = _
        have := HT.out
        rw [List.take_of_length_le (by rw [HL.out]; exact Nat.le_refl _)] at this
        unfold chB; rw [this, HL.out, Bool.true_and]; exact decide_eq_true (by omega)
      have HTK : Hid (zs.take k = zs) := List.take_of_length_le (by rw [HL.out]; exact Nat.le_refl _)
      go_wp2
      go_ret2
      exact ⟨_, by rw [HC.out, HF.out]; rfl, fun _ => by rw [HTK.out] at hrow; exact hrow, fun e => (by rw [HC.out, HF.out] at e; cases e), hB⟩
end

end Go.Proofs.YtmknjifmmmnjjaaGreatDoor
