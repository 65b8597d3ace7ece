/-
  spec: Green's relations.
-/
import Derived.Test.YtckppfgooflooaaL2D
namespace Go.Proofs.Ytckppfgooflooaa
set_option maxRecDepth 100000
open Go.RowKit

/-- whether one of Green's relations, told by its letter, holds -/
def grL (l : List UInt8) (a b : Bool) (d : Bool) : Bool := if l = [76] then a else if l = [82] then b else if l = [72] then a && b else if l = [68] then d else false
def grB (s : ByteArray) (f g : List Int) : Bool := isP f g && grL s.toList (decide (raN f = raN g)) (decide (doN f = doN g)) (decide (popK (doN f) 6 = popK (doN g) 6))

set_option maxHeartbeats 2000000 in
theorem specGreen_any (s : ByteArray) (A B : Option Addr) (n m c d : Nat) (zs ys : List Int) (w : World) (h : RI w A n zs) (h' : RI w B m ys) (hn : n ≤ 1048576) (hm : m ≤ 1048576) :
    Calls Try.prog 41 #[.string s, .slice A n c, .slice B m d] w fun e w' => e = .returned (.bool (grB s zs ys)) ∧ Below w.heap.size w w' := by
  cases hP : isP zs ys
  · have HL : Hid (grB s zs ys = false) := by show _ = _; simp [grB, hP]
    have HP := Lib.hid hP
    clear hP
    go_enter Try.func41, Try.ntmps41
    go_wp2_with fail
    refine (l1Both_any _ _ _ _ _ _ _ _ _ h h' hn hm).mono ?_
    rintro e w' ⟨rfl, rfl⟩
    rw [HP.out]
    go_wp2
    go_ret
    exact ⟨by rw [HL.out]; rfl, Below.refl _ _⟩
  have hl := isP_yes hP
  have hC := hl.1
  have hC' := hl.2.1
  obtain rfl := h.len
  obtain rfl := h'.len
  have h6 := (isC_len hC).2
  have h6' := (isC_len hC').2
  have hp1 := (isC_len hC).1
  have hp1' := (isC_len hC').1
  have hE := isC_ent hC
  have hE' := isC_ent hC'
  have HT : Hid (domL (mv (ofL (LT zs.length (turnL zs.length (mv (ofL zs) zs.length)))) zs.length) = raN zs) := by
    show _ = _; unfold raN; rw [mvT_yes hC, fk_yes hC]; rw [mv_congr (fun j hj => ofL_LT _ j hj)]
  have HT' : Hid (domL (mv (ofL (LT ys.length (turnL ys.length (mv (ofL ys) ys.length)))) ys.length) = raN ys) := by
    show _ = _; unfold raN; rw [mvT_yes hC', fk_yes hC']; rw [mv_congr (fun j hj => ofL_LT _ j hj)]
  have HD : Hid (domL (mv (ofL zs) zs.length) = doN zs) := (doN_dom hC).symm
  have HD' : Hid (domL (mv (ofL ys) ys.length) = doN ys) := (doN_dom hC').symm
  have HP := Lib.hid hP
  have HL : Hid (grB s zs ys = grL s.toList (decide (raN zs = raN ys)) (decide (doN zs = doN ys)) (decide (popK (doN zs) 6 = popK (doN ys) 6))) := by show _ = _; unfold grB; rw [hP, Bool.true_and]
  have hdl : doN zs < 64 := domL_lt _
  have hdl' : doN ys < 64 := domL_lt _
  clear hP hl hC hC'
  go_enter Try.func41, Try.ntmps41
  go_wp2_with fail
  refine (l1Both_any _ _ _ _ _ _ _ _ _ h h' hn hm).mono ?_
  rintro e w' ⟨rfl, rfl⟩
  rw [HP.out]
  go_wp2_with fail
  refine (l1Turned_any _ _ _ _ _ h h6 hE).mono ?_
  rintro e w1 ⟨v, rfl, hown, hb1⟩
  rw [LT_length] at hown
  obtain ⟨g, cp, rfl, _, _⟩ := hown.form (by omega)
  have hr := RI.of_own hown
  clear hown
  go_wp2_with fail
  refine (l1Domain_any _ _ _ _ _ hr h6 (tu_ent _)).mono ?_
  rintro e w2 ⟨rfl, rfl⟩
  rw [HT.out]
  go_wp2_with fail
  refine (l1Turned_any _ _ _ _ _ (h'.below hb1) h6' hE').mono ?_
  rintro e w2 ⟨v, rfl, hown, hb2⟩
  rw [LT_length] at hown
  obtain ⟨g2, cp2, rfl, _, _⟩ := hown.form (by omega)
  have hr2 := RI.of_own hown
  have hB := hb1.trans (hb2.mono hb1.size)
  have hz := h.below hB
  have hy := h'.below hB
  clear hown hr hb1 hb2
  go_wp2_with fail
  refine (l1Domain_any _ _ _ _ _ hr2 h6' (tu_ent _)).mono ?_
  rintro e w3 ⟨rfl, rfl⟩
  rw [HT'.out]
  clear hr2
  go_wp2_with fail
  refine (l1Domain_any _ _ _ _ _ hz h6 hE).mono ?_
  rintro e w3 ⟨rfl, rfl⟩
  rw [HD.out]
  go_wp2_with fail
  refine (l1Domain_any _ _ _ _ _ hy h6' hE').mono ?_
  rintro e w3 ⟨rfl, rfl⟩
  rw [HD'.out]
  generalize hA : decide (raN zs = raN ys) = a at HL
  generalize hBb : decide (doN zs = doN ys) = b at HL
  have ha : ((raN zs : Int) == (raN ys : Int)) = a := by rw [← hA]; cases e : decide (raN zs = raN ys) <;> simp at e ⊢ <;> omega
  have hb : ((doN zs : Int) == (doN ys : Int)) = b := by rw [← hBb]; cases e : decide (doN zs = doN ys) <;> simp at e ⊢ <;> omega
  clear hA hBb HT HT'
  by_cases hL : s.toList = [76]
  · have HR : Hid (grB s zs ys = a) := by show _ = _; rw [HL.out]; unfold grL; rw [if_pos hL]
    have b1 : (s.toList == [76]) = true := by rw [hL]; rfl
    clear hL
    go_wp2
    go_ret
    exact ⟨by rw [HR.out]; rfl, hB⟩
  have b1 : (s.toList == [76]) = false := by simpa using hL
  by_cases hR : s.toList = [82]
  · have HR : Hid (grB s zs ys = b) := by show _ = _; rw [HL.out]; unfold grL; rw [if_neg hL, if_pos hR]
    have b2 : (s.toList == [82]) = true := by rw [hR]; rfl
    clear hL hR
    go_wp2
    go_ret
    exact ⟨by rw [HR.out]; rfl, hB⟩
  have b2 : (s.toList == [82]) = false := by simpa using hR
  by_cases hH : s.toList = [72]
  · have HR : Hid (grB s zs ys = (a && b)) := by show _ = _; rw [HL.out]; unfold grL; rw [if_neg hL, if_neg hR, if_pos hH]
    have b3 : (s.toList == [72]) = true := by rw [hH]; rfl
    clear hL hR hH
    cases a <;> (go_wp2; go_ret; exact ⟨by rw [HR.out]; rfl, hB⟩)
  have b3 : (s.toList == [72]) = false := by simpa using hH
  by_cases hD : s.toList = [68]
  · have HR : Hid (grB s zs ys = decide (popK (doN zs) 6 = popK (doN ys) 6)) := by show _ = _; rw [HL.out]; unfold grL; rw [if_neg hL, if_neg hR, if_neg hH, if_pos hD]
    have b4 : (s.toList == [68]) = true := by rw [hD]; rfl
    clear hL hR hH hD
    go_wp2_with fail
    refine (l1Domain_any _ _ _ _ _ hz h6 hE).mono ?_
    rintro e w3 ⟨rfl, rfl⟩
    rw [HD.out]
    go_wp2_with fail
    refine (l1Size_any _ hdl _).mono ?_
    rintro e w3 ⟨rfl, rfl⟩
    go_wp2_with fail
    refine (l1Domain_any _ _ _ _ _ hy h6' hE').mono ?_
    rintro e w3 ⟨rfl, rfl⟩
    rw [HD'.out]
    go_wp2_with fail
    refine (l1Size_any _ hdl' _).mono ?_
    rintro e w3 ⟨rfl, rfl⟩
    generalize popK (doN zs) 6 = x at HR ⊢
    generalize popK (doN ys) 6 = y at HR ⊢
    have hc : ((x : Int) == (y : Int)) = decide (x = y) := by cases e : decide (x = y) <;> simp at e ⊢ <;> omega
    go_wp2
    go_ret
    exact ⟨by rw [HR.out]; rfl, hB⟩
  · have HR : Hid (grB s zs ys = false) := by show _ = _; rw [HL.out]; unfold grL; rw [if_neg hL, if_neg hR, if_neg hH, if_neg hD]
    have b4 : (s.toList == [68]) = false := by simpa using hD
    clear hL hR hH hD
    go_wp2
    go_ret
    exact ⟨by rw [HR.out]; rfl, hB⟩
end Go.Proofs.Ytckppfgooflooaa
