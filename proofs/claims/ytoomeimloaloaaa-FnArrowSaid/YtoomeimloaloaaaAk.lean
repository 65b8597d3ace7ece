/-
  ArrowJoins and ArrowTimes on both sides.
-/
import Derived.Test.YtoomeimloaloaaaAj
import Derived.Test.YtoomeimloaloaaaAlgB
namespace Go.Proofs.Ytoomeimloaloaaa
set_option maxRecDepth 100000
open Go.RowKit

theorem joB_iff0 {f g : List Int} (h : joB f g = true) : isP f g = true := by unfold joB at h; rw [Bool.and_eq_true] at h; exact h.1
theorem gt_base {w : World} {base base' size n : Nat} {e : TypeId} {v : Value} {xs : List Value} (h : w.ownsRow base e size v n xs) (hb : base' ≤ base) : w.ownsRow base' e size v n xs :=
  ⟨h.1, h.2.imp id fun ⟨g, cap, cur, a, b, c⟩ => ⟨g, cap, cur, a, Nat.le_trans hb b, c⟩⟩
set_option maxHeartbeats 400000 in
theorem implAJ_any (A B : Option Addr) (n m c d : Nat) (zs ys : List Int) (w : World) (h : RI w A n zs) (h' : RI w B m ys) :
    Calls Try.prog 9 #[.slice A n c, .slice B m d] w fun e w' => e = .returned (.bool (joB zs ys)) ∧ Below w.heap.size w w' := by
  have hCP := arrowPair_any A B n m c d zs ys w h h'
  clear h h'
  go_enter Try.func9, Try.ntmps9
  go_wp2_with fail
  refine hCP.mono ?_
  rintro e w1 ⟨k, T, G, rfl, -, -, -, hb⟩
  clear hCP
  go_wp2
  go_ret
  exact ⟨rfl, (hb.alloc hb.size _).alloc (by have := hb.size; simp; omega) _⟩
theorem atL_no {f g : List Int} (h : joB f g = false) : atL f g = [] := by unfold atL; rw [h]; rfl
theorem newL_nil0 {w w' : World} (hb : Below w.heap.size w w') : NewL w [] (.slice none 0 0) w' := ⟨World.ownsRow_nil _ _ _ _, hb⟩
set_option maxHeartbeats 1000000 in
theorem implAT_any (A B : Option Addr) (n m c d : Nat) (zs ys : List Int) (w : World) (h : RI w A n zs) (h' : RI w B m ys) :
    Calls Try.prog 12 #[.slice A n c, .slice B m d] w fun e w' => ∃ v, e = .returned (.tuple #[v, .bool (joB zs ys)]) ∧ NewL w (atL zs ys) v w' := by
  have hCP := arrowPair_any A B n m c d zs ys w h h'
  clear h h'
  go_enter Try.func12, Try.ntmps12
  go_wp2_with fail
  refine hCP.mono ?_
  rintro e w1 ⟨k, T, G, rfl, hkk, hT', hG', hb⟩
  clear hCP
  cases hJ : joB zs ys
  · have HA := Lib.hid (atL_no hJ)
    have HB1 := Lib.hid hb
    have hs := hb.size
    have HJ := Lib.hid hJ
    clear hkk hT' hG' hb hJ
    go_wp2
    go_ret2
    refine ⟨_, (by rw [HJ.out]; rfl), ?_⟩
    rw [HA.out]
    exact newL_nil0 ((HB1.out.alloc hs _).alloc (by simp; omega) _)
  · have hP := (joB_iff0 hJ)
    have hk : k ≤ 6 := by rw [hkk]; exact pk_le zs ys
    have hOk : Ok k T := by have := (pF_ok zs ys).congr hT' (pk_le zs ys); rwa [← hkk] at this
    have HL : Hid (LT k (timesL k G (mv T k)) = atL zs ys) := by
      show _ = _
      unfold atL; rw [if_pos hJ, hkk]
      exact times_congr (pk_le zs ys) hT' hG'
    have HB1 := Lib.hid hb
    have hs := hb.size
    have hx := Blk.new w1 40 #[.int .i64 ((k : Int)), .int .i64 (T 0), .int .i64 (T 1), .int .i64 (T 2), .int .i64 (T 3), .int .i64 (T 4), .int .i64 (T 5), .int .i64 ((domL (mv T k) : Nat)), .int .i64 ((imN k T : Nat))]
    have hy := Blk.new (w1.alloc (.cells #[.int .i64 ((k : Int)), .int .i64 (T 0), .int .i64 (T 1), .int .i64 (T 2), .int .i64 (T 3), .int .i64 (T 4), .int .i64 (T 5), .int .i64 ((domL (mv T k) : Nat)), .int .i64 ((imN k T : Nat))] 40)) 40 #[.int .i64 ((k : Int)), .int .i64 (G 0), .int .i64 (G 1), .int .i64 (G 2), .int .i64 (G 3), .int .i64 (G 4), .int .i64 (G 5), .int .i64 ((domL (mv G k) : Nat)), .int .i64 ((imN k G : Nat))]
    rw [World.size_alloc] at hy
    have HJ := Lib.hid hJ
    clear hkk hT' hG' hb hP hJ
    go_wp2_with fail
    refine (times_any k hk T hOk k G _).mono ?_
    rintro e w2 ⟨T', rfl, HT, hb2⟩
    go_wp2_with fail
    refine (list_any k hk T' _).mono ?_
    rintro e w3 ⟨B', rfl, hown, hb3⟩
    have hB2 : Below w.heap.size w w2 := ((HB1.out.alloc hs _).alloc (by simp; omega) _).trans (hb2.mono (by simp; omega))
    have hB3 : Below w.heap.size w w3 := hB2.trans (hb3.mono hB2.size)
    have hN := newL_oB hown hB2.size hB3 ((LT_congr (fun j hj => HT.out j (by omega))).trans HL.out)
    clear hown hb3 hb2 hB2 hB3
    go_wp2
    go_ret2
    exact ⟨_, (by rw [HJ.out]; rfl), hN⟩
set_option maxHeartbeats 1000000 in
theorem specAJ_any (A B : Option Addr) (n m c d : Nat) (zs ys : List Int) (w : World) (h : RI w A n zs) (h' : RI w B m ys) (hn : n ≤ 1048576) (hm : m ≤ 1048576) :
    Calls Try.prog 7 #[.slice A n c, .slice B m d] w fun e w' => e = .returned (.bool (joB zs ys)) ∧ Below w.heap.size w w' := by
  cases hP : isP zs ys
  · have HJ := Lib.hid (joB_no hP)
    have HP := Lib.hid hP
    clear hP
    go_enter Try.func7, Try.ntmps7
    go_wp2_with fail
    refine (l1Both_any _ _ _ _ _ _ _ _ _ h h' hn hm).mono ?_
    rintro e w1 ⟨rfl, rfl⟩
    rw [HP.out]
    go_wp2
    go_ret
    exact ⟨by rw [HJ.out]; rfl, Below.refl _ _⟩
  · obtain ⟨hf, hg, hfg⟩ := isP_yes hP
    obtain rfl := h.len
    obtain rfl : ys.length = m := h'.len
    have h6 := (isC_len hf).2
    have h6' := (isC_len hg).2
    have hE := isC_ent hf
    have hE' := isC_ent hg
    have HT : Hid (domL (mv (ofL (LT zs.length (turnL zs.length (mv (ofL zs) zs.length)))) zs.length) = raN zs) := by
      show _ = _; unfold raN; rw [mvT_yes hf, fk_yes hf]; rw [mv_congr (fun j hj => ofL_LT _ j hj)]
    have HD : Hid (domL (mv (ofL ys) ys.length) = doN ys) := (doN_dom hg).symm
    have HJ : Hid ((((raN zs : Nat) : Int) == ((doN ys : Nat) : Int)) = joB zs ys) := by show _ = _; rw [eq_nat, joB_eq hP]
    have H0 := (isC_len hf).1
    have HP := Lib.hid hP
    rw [← hfg] at h' h6' hE' HD ⊢
    clear hP hf hg hfg hm h6'
    go_enter Try.func7, Try.ntmps7
    go_wp2_with fail
    refine (l1Both_any _ _ _ _ _ _ _ _ _ h h' hn hn).mono ?_
    rintro e w1 ⟨rfl, rfl⟩
    rw [HP.out]
    go_wp2_with fail
    refine (l1Turned_any _ _ _ _ _ h h6 hE).mono ?_
    rintro e w1 ⟨v, rfl, hown, hb⟩
    rw [LT_length] at hown
    obtain ⟨g, cp, rfl, _, _⟩ := hown.form (by omega)
    have hr := RI.of_own hown
    have h'2 := h'.below hb
    go_wp2_with fail
    refine (l1Domain_any _ _ _ _ _ hr h6 (tu_ent _)).mono ?_
    rintro e w2 ⟨rfl, rfl⟩
    rw [HT.out]
    go_wp2_with fail
    refine (l1Domain_any _ _ _ _ _ h'2 h6 hE').mono ?_
    rintro e w3 ⟨rfl, rfl⟩
    rw [HD.out]
    go_wp2
    go_ret
    exact ⟨by rw [← HJ.out]; rfl, hb⟩
set_option maxHeartbeats 1000000 in
theorem specAT_any (A B : Option Addr) (n m c d : Nat) (zs ys : List Int) (w : World) (h : RI w A n zs) (h' : RI w B m ys) (hn : n ≤ 1048576) (hm : m ≤ 1048576) :
    Calls Try.prog 11 #[.slice A n c, .slice B m d] w fun e w' => ∃ v, e = .returned (.tuple #[v, .bool (joB zs ys)]) ∧ NewL w (atL zs ys) v w' := by
  have hAJ := specAJ_any A B n m c d zs ys w h h' hn hm
  cases hJ : joB zs ys
  · have HA := Lib.hid (atL_no hJ)
    rw [hJ] at hAJ
    clear hJ
    go_enter Try.func11, Try.ntmps11
    go_wp2_with fail
    refine hAJ.mono ?_
    rintro e w1 ⟨rfl, hb⟩
    go_wp2
    go_ret2
    refine ⟨_, rfl, ?_⟩
    rw [HA.out]
    exact ⟨gt_base (own_lit0 w1) hb.size, hb.alloc hb.size _⟩
  · obtain ⟨hf, hg, hfg⟩ := isP_yes (joB_iff0 hJ)
    have hPP := joB_iff0 hJ
    obtain rfl := h.len
    obtain rfl : ys.length = m := h'.len
    have h6 := (isC_len hf).2
    have hE := isC_ent hf
    have HT : Hid (LT zs.length (timesL zs.length (ofL ys) (mv (ofL zs) zs.length)) = atL zs ys) := by show _ = _; unfold atL tiL; rw [if_pos hJ, pk_yes hPP, pF_yes hPP, pG_yes hPP]
    rw [hJ] at hAJ
    rw [← hfg] at h' hAJ ⊢
    clear hJ hf hg hPP hm hfg
    go_enter Try.func11, Try.ntmps11
    go_wp2_with fail
    refine hAJ.mono ?_
    rintro e w1 ⟨rfl, hb⟩
    go_wp2_with fail
    refine (l1Times_any _ _ _ _ _ _ _ _ (h.below hb) (h'.below hb) h6 hE).mono ?_
    rintro e w2 ⟨v, rfl, hN⟩
    rw [HT.out] at hN
    go_wp2
    go_ret2
    exact ⟨_, rfl, gt_base hN.1 hb.size, hb.trans (hN.2.mono hb.size)⟩
end Go.Proofs.Ytoomeimloaloaaa
