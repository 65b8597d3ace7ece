/-
  impl of chapter 2: GreenHolds.
-/
import Derived.Test.YtckppfgooflooaaL2E
import Derived.Test.YtckppfgooflooaaCompat
namespace Go.Proofs.Ytckppfgooflooaa
set_option maxRecDepth 100000
open Go.RowKit

theorem pairB {W : World} {B : Nat} {a : World} (h : Below B a W) (hs : B ≤ W.heap.size) (o o' : Obj) : Below B a ((W.alloc o).alloc o') := (h.alloc hs o).alloc (by simp; omega) o'

theorem nat_beq (x y : Nat) : ((x : Int) == (y : Int)) = decide (x = y) := by cases e : decide (x = y) <;> simp at e ⊢ <;> omega

set_option maxHeartbeats 8000000 in
theorem implGreen_any (s : ByteArray) (A B : Option Addr) (n m c d : Nat) (zs ys : List Int) (w : World) (h : RI w A n zs) (h' : RI w B m ys) (hn : n ≤ 1048576) (hm : m ≤ 1048576) :
    Calls Try.prog 42 #[.string s, .slice A n c, .slice B m d] w fun e w' => e = .returned (.bool (grB s zs ys)) ∧ Below w.heap.size w w' := by
  cases hP : isP zs ys
  · have HL : Hid (grB s zs ys = false) := by show _ = _; simp [grB, hP]
    have HP := Lib.hid hP
    clear hP
    go_enter Try.func42, Try.ntmps42
    go_wp2_with fail
    refine (chartPair_any _ _ _ _ _ _ _ _ _ h h').mono ?_
    rintro e w1 ⟨k, T, G, rfl, hk, hT, hG, hb⟩
    rw [HP.out]
    have hB := pairB hb hb.size (.cells #[.int .i64 ((k : Int)), .int .i64 (T 0), .int .i64 (T 1), .int .i64 (T 2), .int .i64 (T 3), .int .i64 (T 4), .int .i64 (T 5)] 59) (.cells #[.int .i64 ((k : Int)), .int .i64 (G 0), .int .i64 (G 1), .int .i64 (G 2), .int .i64 (G 3), .int .i64 (G 4), .int .i64 (G 5)] 59)
    clear hk hT hG hb
    go_wp2
    go_ret
    exact ⟨by rw [HL.out]; rfl, hB⟩
  have hl := isP_yes hP
  have hC := hl.1
  have hC' := hl.2.1
  have h6 := (isC_len hC).2
  have HP := Lib.hid hP
  have HL : Hid (grB s zs ys = grL s.toList (decide (raN zs = raN ys)) (decide (doN zs = doN ys)) (decide (popK (doN zs) 6 = popK (doN ys) 6))) := by show _ = _; unfold grB; rw [hP, Bool.true_and]
  have hE1 : En zs.length (ofL zs) := isC_ent hC
  have hE2 : En zs.length (ofL ys) := by rw [hl.2.2]; exact isC_ent hC'
  have HR1 : Hid (raN zs = domL (mv (turnL zs.length (mv (ofL zs) zs.length)) zs.length)) := by show _ = _; unfold raN; rw [mvT_yes hC, fk_yes hC]
  have HR2 : Hid (raN ys = domL (mv (turnL zs.length (mv (ofL ys) zs.length)) zs.length)) := by show _ = _; unfold raN; rw [mvT_yes hC', fk_yes hC', hl.2.2]
  have HD1 : Hid (doN zs = domL (mv (ofL zs) zs.length)) := by show _ = _; unfold doN; rw [mvT_yes hC]
  have HD2 : Hid (doN ys = domL (mv (ofL ys) zs.length)) := by show _ = _; unfold doN; rw [mvT_yes hC', hl.2.2]
  have hpk : pk zs ys = zs.length := by simp [pk, hP]
  have hpF : ∀ j, pF zs ys j = ofL zs j := fun j => by simp [pF, hP]
  have hpG : ∀ j, pG zs ys j = ofL ys j := fun j => by simp [pG, hP]
  clear hP hl hC hC'
  go_enter Try.func42, Try.ntmps42
  go_wp2_with fail
  refine (chartPair_any _ _ _ _ _ _ _ _ _ h h').mono ?_
  rintro e w1 ⟨k, T, G, rfl, hk, hT, hG, hb⟩
  rw [HP.out]
  obtain rfl := hk.trans hpk
  generalize zs.length = n0 at *
  have hEnT : En n0 T := en_congr hE1 (fun j hj => (hT j (by omega)).trans (hpF j))
  have hEnG : En n0 G := en_congr hE2 (fun j hj => (hG j (by omega)).trans (hpG j))
  have HmT : Hid (mv T n0 = mv (ofL zs) n0) := mv_congr (fun j hj => (hT j (by omega)).trans (hpF j))
  have HmG : Hid (mv G n0 = mv (ofL ys) n0) := mv_congr (fun j hj => (hG j (by omega)).trans (hpG j))
  have hc := (Cb.new w1 n0 T).alloc (.cells #[.int .i64 ((n0 : Int)), .int .i64 (G 0), .int .i64 (G 1), .int .i64 (G 2), .int .i64 (G 3), .int .i64 (G 4), .int .i64 (G 5)] 59)
  have hd := Cb.new (w1.alloc (.cells #[.int .i64 ((n0 : Int)), .int .i64 (T 0), .int .i64 (T 1), .int .i64 (T 2), .int .i64 (T 3), .int .i64 (T 4), .int .i64 (T 5)] 59)) n0 G
  rw [World.size_alloc] at hd
  have hB := pairB hb hb.size (.cells #[.int .i64 ((n0 : Int)), .int .i64 (T 0), .int .i64 (T 1), .int .i64 (T 2), .int .i64 (T 3), .int .i64 (T 4), .int .i64 (T 5)] 59) (.cells #[.int .i64 ((n0 : Int)), .int .i64 (G 0), .int .i64 (G 1), .int .i64 (G 2), .int .i64 (G 3), .int .i64 (G 4), .int .i64 (G 5)] 59)
  have hz : w1.heap.size + 2 ≤ ((w1.alloc (.cells #[.int .i64 ((n0 : Int)), .int .i64 (T 0), .int .i64 (T 1), .int .i64 (T 2), .int .i64 (T 3), .int .i64 (T 4), .int .i64 (T 5)] 59)).alloc (.cells #[.int .i64 ((n0 : Int)), .int .i64 (G 0), .int .i64 (G 1), .int .i64 (G 2), .int .i64 (G 3), .int .i64 (G 4), .int .i64 (G 5)] 59)).heap.size := by simp
  have hzw := hb.size
  clear hk hT hG hpk hpF hpG hb h h' hE1 hE2
  go_wp2_with fail
  generalize (w1.alloc (.cells #[.int .i64 ((n0 : Int)), .int .i64 (T 0), .int .i64 (T 1), .int .i64 (T 2), .int .i64 (T 3), .int .i64 (T 4), .int .i64 (T 5)] 59)).alloc (.cells #[.int .i64 ((n0 : Int)), .int .i64 (G 0), .int .i64 (G 1), .int .i64 (G 2), .int .i64 (G 3), .int .i64 (G 4), .int .i64 (G 5)] 59) = W0 at hc hd hB hz ⊢
  have tok1 : True := trivial
  have tok2 : True := trivial
  go_region_held3 (fun w' => w'.cell? ⟨w1.heap.size, 0, none⟩ = some (.int .i64 n0) ∧ w'.cell? ⟨w1.heap.size, 1, none⟩ = some (.int .i64 (T 0)) ∧ w'.cell? ⟨w1.heap.size, 2, none⟩ = some (.int .i64 (T 1)) ∧ w'.cell? ⟨w1.heap.size, 3, none⟩ = some (.int .i64 (T 2)) ∧ w'.cell? ⟨w1.heap.size, 4, none⟩ = some (.int .i64 (T 3)) ∧ w'.cell? ⟨w1.heap.size, 5, none⟩ = some (.int .i64 (T 4)) ∧ w'.cell? ⟨w1.heap.size, 6, none⟩ = some (.int .i64 (T 5)) ∧ w'.cell? ⟨w1.heap.size + 1, 0, none⟩ = some (.int .i64 n0) ∧ w'.cell? ⟨w1.heap.size + 1, 1, none⟩ = some (.int .i64 (G 0)) ∧ w'.cell? ⟨w1.heap.size + 1, 2, none⟩ = some (.int .i64 (G 1)) ∧ w'.cell? ⟨w1.heap.size + 1, 3, none⟩ = some (.int .i64 (G 2)) ∧ w'.cell? ⟨w1.heap.size + 1, 4, none⟩ = some (.int .i64 (G 3)) ∧ w'.cell? ⟨w1.heap.size + 1, 5, none⟩ = some (.int .i64 (G 4)) ∧ w'.cell? ⟨w1.heap.size + 1, 6, none⟩ = some (.int .i64 (G 5)))
    (first | exact s14 (by assumption) (by assumption) | go_keep)
    (first
      | (go_at_call 75
         have _t := tok1
         refine (image_any n0 h6 T (en_ok h6 hEnT) _).mono ?_
         rintro e w2 ⟨rfl, hbx⟩
         have hc := cb_keep hbx hc rfl
         have hd := cb_keep hbx hd rfl
         have hB := bel_keep hbx hB rfl rfl rfl rfl hB.size
         clear tok1 _t hbx)
      | (go_at_call 75
         have _t := tok2
         refine (image_any n0 h6 G (en_ok h6 hEnG) _).mono ?_
         rintro e w3 ⟨rfl, hbx⟩
         have hc := cb_keep hbx hc rfl
         have hd := cb_keep hbx hd rfl
         have hB := bel_keep hbx hB rfl rfl rfl rfl hB.size
         clear tok2 _t hbx))
  have e1 : (((domL (mv (turnL n0 (mv T n0)) n0) : Nat) : Int) == ((domL (mv (turnL n0 (mv G n0)) n0) : Nat) : Int)) = decide (raN zs = raN ys) := by rw [HmT.out, HmG.out, ← HR1.out, ← HR2.out]; exact nat_beq _ _
  rw [e1]
  go_wp2_with fail
  have tok1 : True := trivial
  have tok2 : True := trivial
  go_region_held3 (fun w' => w'.cell? ⟨w1.heap.size, 0, none⟩ = some (.int .i64 n0) ∧ w'.cell? ⟨w1.heap.size, 1, none⟩ = some (.int .i64 (T 0)) ∧ w'.cell? ⟨w1.heap.size, 2, none⟩ = some (.int .i64 (T 1)) ∧ w'.cell? ⟨w1.heap.size, 3, none⟩ = some (.int .i64 (T 2)) ∧ w'.cell? ⟨w1.heap.size, 4, none⟩ = some (.int .i64 (T 3)) ∧ w'.cell? ⟨w1.heap.size, 5, none⟩ = some (.int .i64 (T 4)) ∧ w'.cell? ⟨w1.heap.size, 6, none⟩ = some (.int .i64 (T 5)) ∧ w'.cell? ⟨w1.heap.size + 1, 0, none⟩ = some (.int .i64 n0) ∧ w'.cell? ⟨w1.heap.size + 1, 1, none⟩ = some (.int .i64 (G 0)) ∧ w'.cell? ⟨w1.heap.size + 1, 2, none⟩ = some (.int .i64 (G 1)) ∧ w'.cell? ⟨w1.heap.size + 1, 3, none⟩ = some (.int .i64 (G 2)) ∧ w'.cell? ⟨w1.heap.size + 1, 4, none⟩ = some (.int .i64 (G 3)) ∧ w'.cell? ⟨w1.heap.size + 1, 5, none⟩ = some (.int .i64 (G 4)) ∧ w'.cell? ⟨w1.heap.size + 1, 6, none⟩ = some (.int .i64 (G 5)))
    (first | exact s14 (by assumption) (by assumption) | go_keep)
    (first
      | (go_at_call 76
         have _t := tok1
         refine (domain_any n0 h6 T (en_ok h6 hEnT) _).mono ?_
         rintro e w4 ⟨rfl, hbx⟩
         have hc := cb_keep hbx hc rfl
         have hd := cb_keep hbx hd rfl
         have hB := bel_keep hbx hB rfl rfl rfl rfl hB.size
         clear tok1 _t hbx)
      | (go_at_call 76
         have _t := tok2
         refine (domain_any n0 h6 G (en_ok h6 hEnG) _).mono ?_
         rintro e w5 ⟨rfl, hbx⟩
         have hc := cb_keep hbx hc rfl
         have hd := cb_keep hbx hd rfl
         have hB := bel_keep hbx hB rfl rfl rfl rfl hB.size
         clear tok2 _t hbx))
  have e2 : (((domL (mv T n0) : Nat) : Int) == ((domL (mv G n0) : Nat) : Int)) = decide (doN zs = doN ys) := by rw [HmT.out, HmG.out, ← HD1.out, ← HD2.out]; exact nat_beq _ _
  rw [e2]
  have e3 : (((popK (domL (mv T n0)) 6 : Nat) : Int) == ((popK (domL (mv G n0)) 6 : Nat) : Int)) = decide (popK (doN zs) 6 = popK (doN ys) 6) := by rw [HmT.out, HmG.out, ← HD1.out, ← HD2.out]; exact nat_beq _ _
  have HE3 := Lib.hid e3
  generalize decide (raN zs = raN ys) = a at HL ⊢
  generalize decide (doN zs = doN ys) = b at HL ⊢
  clear e1 e2 e3 HR1 HR2 HD1 HD2 HmT HmG
  by_cases hL : s.toList = [76]
  · have HR : Hid (grB s zs ys = a) := by show _ = _; rw [HL.out]; unfold grL; rw [if_pos hL]
    have b1 : (s.toList == [76]) = true := by rw [hL]; rfl
    clear hL hc hd
    go_wp2
    go_ret
    exact ⟨by rw [HR.out]; rfl, hB⟩
  have b1 : (s.toList == [76]) = false := by simpa using hL
  by_cases hR : s.toList = [82]
  · have HR : Hid (grB s zs ys = b) := by show _ = _; rw [HL.out]; unfold grL; rw [if_neg hL, if_pos hR]
    have b2 : (s.toList == [82]) = true := by rw [hR]; rfl
    clear hL hR hc hd
    go_wp2
    go_ret
    exact ⟨by rw [HR.out]; rfl, hB⟩
  have b2 : (s.toList == [82]) = false := by simpa using hR
  by_cases hH : s.toList = [72]
  · have HR : Hid (grB s zs ys = (a && b)) := by show _ = _; rw [HL.out]; unfold grL; rw [if_neg hL, if_neg hR, if_pos hH]
    have b3 : (s.toList == [72]) = true := by rw [hH]; rfl
    clear hL hR hH hc hd
    cases a <;> (go_wp2; go_ret; exact ⟨by rw [HR.out]; rfl, hB⟩)
  have b3 : (s.toList == [72]) = false := by simpa using hH
  by_cases hD : s.toList = [68]
  · have HR : Hid (grB s zs ys = decide (popK (doN zs) 6 = popK (doN ys) 6)) := by show _ = _; rw [HL.out]; unfold grL; rw [if_neg hL, if_neg hR, if_neg hH, if_pos hD]
    have b4 : (s.toList == [68]) = true := by rw [hD]; rfl
    clear hL hR hH hD HL
    go_wp2_with fail
    have tok1 : True := trivial
    have tok2 : True := trivial
    go_region_held3 (fun w' => w'.cell? ⟨w1.heap.size, 0, none⟩ = some (.int .i64 n0) ∧ w'.cell? ⟨w1.heap.size, 1, none⟩ = some (.int .i64 (T 0)) ∧ w'.cell? ⟨w1.heap.size, 2, none⟩ = some (.int .i64 (T 1)) ∧ w'.cell? ⟨w1.heap.size, 3, none⟩ = some (.int .i64 (T 2)) ∧ w'.cell? ⟨w1.heap.size, 4, none⟩ = some (.int .i64 (T 3)) ∧ w'.cell? ⟨w1.heap.size, 5, none⟩ = some (.int .i64 (T 4)) ∧ w'.cell? ⟨w1.heap.size, 6, none⟩ = some (.int .i64 (T 5)) ∧ w'.cell? ⟨w1.heap.size + 1, 0, none⟩ = some (.int .i64 n0) ∧ w'.cell? ⟨w1.heap.size + 1, 1, none⟩ = some (.int .i64 (G 0)) ∧ w'.cell? ⟨w1.heap.size + 1, 2, none⟩ = some (.int .i64 (G 1)) ∧ w'.cell? ⟨w1.heap.size + 1, 3, none⟩ = some (.int .i64 (G 2)) ∧ w'.cell? ⟨w1.heap.size + 1, 4, none⟩ = some (.int .i64 (G 3)) ∧ w'.cell? ⟨w1.heap.size + 1, 5, none⟩ = some (.int .i64 (G 4)) ∧ w'.cell? ⟨w1.heap.size + 1, 6, none⟩ = some (.int .i64 (G 5)))
      (first | exact s14 (by assumption) (by assumption) | go_keep)
      (first
        | (go_at_call 77
           have _t := tok1
           refine (rank_any n0 h6 T (en_ok h6 hEnT) _).mono ?_
           rintro e w6 ⟨rfl, hbx⟩
           have hc := cb_keep hbx hc rfl
           have hd := cb_keep hbx hd rfl
           have hB := bel_keep hbx hB rfl rfl rfl rfl hB.size
           clear tok1 _t hbx)
        | (go_at_call 77
           have _t := tok2
           refine (rank_any n0 h6 G (en_ok h6 hEnG) _).mono ?_
           rintro e w7 ⟨rfl, hbx⟩
           have hc := cb_keep hbx hc rfl
           have hd := cb_keep hbx hd rfl
           have hB := bel_keep hbx hB rfl rfl rfl rfl hB.size
           clear tok2 _t hbx))
    rw [HE3.out]
    go_wp2
    go_ret
    exact ⟨by rw [HR.out]; rfl, hB⟩
  · have HR : Hid (grB s zs ys = false) := by show _ = _; rw [HL.out]; unfold grL; rw [if_neg hL, if_neg hR, if_neg hH, if_neg hD]
    have b4 : (s.toList == [68]) = false := by simpa using hD
    clear hL hR hH hD hc hd
    go_wp2
    go_ret
    exact ⟨by rw [HR.out]; rfl, hB⟩
end Go.Proofs.Ytckppfgooflooaa
