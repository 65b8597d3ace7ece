/-
  Being below, being compatible, joins: spec's.
-/
import Derived.Test.YtdmobfjcbjengaaExpB
namespace Go.Proofs.Ytdmobfjcbjengaa
open Go.RowKit

/-- the first n places are moved nowhere, or to one of n points -/
def En (n : Nat) (F : Nat → Int) : Prop := ∀ j, j < n → F j = -1 ∨ (0 ≤ F j ∧ F j < n)
theorem en_ok {n : Nat} {F : Nat → Int} (hn : n ≤ 6) (h : En n F) : Ok n F := fun j hj => (h j hj).imp id fun x => ⟨x.1, by have := x.2; omega⟩
theorem en_LT {n : Nat} {F : Nat → Int} (h : En n F) : Ent n (LT n F) := fun j hj => by rw [LT_get _ _ _ hj]; exact h j hj
theorem en_of {n : Nat} {zs : List Int} (h : Ent n zs) : En n (ofL zs) := h
theorem en_congr {n : Nat} {F G : Nat → Int} (h : En n G) (e : ∀ j, j < n → F j = G j) : En n F := fun j hj => by rw [e j hj]; exact h j hj
theorem en_turn {n : Nat} (T : Nat → Int) : ∀ k, k ≤ n → En n (turnL n (mv T k))
  | 0, _ => fun j hj => by left; simp [mv, turnL, stillF, hj]
  | k + 1, hk => fun j hj => by
    have ih := en_turn (n := n) T k (by omega) j hj
    by_cases hc : k < 6 ∧ 0 ≤ T k ∧ T k < 6
    · rw [mv_step hc, turnL_snoc]
      unfold turnS
      by_cases e : j = (T k).toNat
      · rw [if_pos e]; right; simp; omega
      · rw [if_neg e]; exact ih
    · have e0 : mv T (k + 1) = mv T k := by simp [mv, hc]
      rw [e0]; exact ih
theorem en_times {n : Nat} {T G : Nat → Int} (hn : n ≤ 6) (h : En n T) (hG : En n G) : En n (timesL n G (mv T n)) := fun j hj => by
  rw [times_closed n _ _ j n hn]
  split
  · rename_i hc
    rcases h j hj with h1 | h1
    · omega
    · exact hG _ (by omega)
  · left; simp [stillF, hj]
theorem times_congr' {n : Nat} {T T' G G' : Nat → Int} (hn : n ≤ 6) (hE : En n T) (h : ∀ j, j < n → T j = T' j) (h' : ∀ j, j < n → G j = G' j) : ∀ j, j < n → timesL n G (mv T n) j = timesL n G' (mv T' n) j := fun j hj => by
  rw [times_closed n _ _ j n hn, times_closed n _ _ j n hn, ← h j hj]
  split
  · rename_i hc
    rcases hE j hj with h1 | h1
    · omega
    · exact h' _ (by omega)
  · rfl

/-- two charts of n points are compatible -/
def coF (n : Nat) (T G : Nat → Int) : Bool := idemL (mv (timesL n G (mv (turnL n (mv T n)) n)) n) && idemL (mv (timesL n (turnL n (mv G n)) (mv T n)) n)
def coB (f g : List Int) : Bool := isP f g && coF (pk f g) (pF f g) (pG f g)
/-- .. as spec reckons it -/
def coZ (n : Nat) (zs ys : List Int) : Bool :=
  idemL (mv (ofL (LT n (timesL n (ofL ys) (mv (ofL (LT n (turnL n (mv (ofL zs) n)))) n)))) n) && idemL (mv (ofL (LT n (timesL n (ofL (LT n (turnL n (mv (ofL ys) n)))) (mv (ofL zs) n)))) n)
theorem coZ_is {n : Nat} {zs ys : List Int} (hn : n ≤ 6) (h : Ent n zs) : coZ n zs ys = coF n (ofL zs) (ofL ys) := by
  unfold coZ coF
  have e1 : mv (ofL (LT n (timesL n (ofL ys) (mv (ofL (LT n (turnL n (mv (ofL zs) n)))) n)))) n = mv (timesL n (ofL ys) (mv (turnL n (mv (ofL zs) n)) n)) n := mv_congr (fun j hj => by
    show ofL (LT n _) j = _
    rw [show ofL (LT n (timesL n (ofL ys) (mv (ofL (LT n (turnL n (mv (ofL zs) n)))) n))) j = _ from LT_get _ _ _ hj]
    exact times_congr' hn (en_congr (en_turn _ n (Nat.le_refl _)) (fun j hj => LT_get _ _ _ hj)) (fun j hj => LT_get _ _ _ hj) (fun j hj => rfl) j hj)
  have e2 : mv (ofL (LT n (timesL n (ofL (LT n (turnL n (mv (ofL ys) n)))) (mv (ofL zs) n)))) n = mv (timesL n (turnL n (mv (ofL ys) n)) (mv (ofL zs) n)) n := mv_congr (fun j hj => by
    rw [show ofL (LT n (timesL n (ofL (LT n (turnL n (mv (ofL ys) n)))) (mv (ofL zs) n))) j = _ from LT_get _ _ _ hj]
    exact times_congr' hn h (fun j hj => rfl) (fun j hj => LT_get _ _ _ hj) j hj)
  rw [e1, e2]

set_option maxHeartbeats 1000000 in
theorem l1Comp_any (A B : Option Addr) (n c d : Nat) (zs ys : List Int) (w : World) (h : RI w A n zs) (h' : RI w B n ys) (h1 : 1 ≤ n) (hn : n ≤ 6) (hE : Ent n zs) (hE' : Ent n ys) :
    Calls Try.prog 78 #[.slice A n c, .slice B n d] w fun e w' => e = .returned (.bool (coZ n zs ys)) ∧ Below w.heap.size w w' := by
  have hb1 : ∀ b : Bool, idemL (mv (ofL (LT n (timesL n (ofL ys) (mv (ofL (LT n (turnL n (mv (ofL zs) n)))) n)))) n) = b → Hid (idemL (mv (ofL (LT n (timesL n (ofL ys) (mv (ofL (LT n (turnL n (mv (ofL zs) n)))) n)))) n) = b) := fun b hb => hb
  cases hI : idemL (mv (ofL (LT n (timesL n (ofL ys) (mv (ofL (LT n (turnL n (mv (ofL zs) n)))) n)))) n)
  · have HC : Hid (coZ n zs ys = false) := by show _ = _; simp [coZ, hI]
    have HI := Lib.hid hI
    clear hI hb1
    go_enter Try.func78, Try.ntmps78
    go_wp2_with fail
    refine (l1Turned_any _ _ _ _ _ h hn hE).mono ?_
    rintro e w1 ⟨v, rfl, o1, b1⟩
    rw [LT_length] at o1
    obtain ⟨g1, cp1, rfl, _, _⟩ := o1.form (by omega)
    go_wp2_with fail
    refine (l1Times_any _ _ _ _ _ _ _ _ (RI.of_own o1) (h'.below b1) hn (en_LT (en_turn _ n (Nat.le_refl _)))).mono ?_
    rintro e w2 ⟨v, rfl, o2, b2⟩
    rw [LT_length] at o2
    obtain ⟨g2, cp2, rfl, _, _⟩ := o2.form (by omega)
    go_wp2_with fail
    refine (l1Idem_any _ _ _ _ _ (RI.of_own o2) hn (en_LT (en_times hn (en_LT (en_turn _ n (Nat.le_refl _))) hE'))).mono ?_
    rintro e w3 ⟨rfl, rfl⟩
    rw [HI.out]
    have hB := b1.trans (b2.mono b1.size)
    clear o1 o2 b1 b2
    go_wp2
    go_ret
    exact ⟨by rw [HC.out]; rfl, hB⟩
  · have HC : Hid (coZ n zs ys = idemL (mv (ofL (LT n (timesL n (ofL (LT n (turnL n (mv (ofL ys) n)))) (mv (ofL zs) n)))) n)) := by show _ = _; simp [coZ, hI]
    have HI := Lib.hid hI
    clear hI hb1
    go_enter Try.func78, Try.ntmps78
    go_wp2_with fail
    refine (l1Turned_any _ _ _ _ _ h hn hE).mono ?_
    rintro e w1 ⟨v, rfl, o1, b1⟩
    rw [LT_length] at o1
    obtain ⟨g1, cp1, rfl, _, _⟩ := o1.form (by omega)
    go_wp2_with fail
    refine (l1Times_any _ _ _ _ _ _ _ _ (RI.of_own o1) (h'.below b1) hn (en_LT (en_turn _ n (Nat.le_refl _)))).mono ?_
    rintro e w2 ⟨v, rfl, o2, b2⟩
    rw [LT_length] at o2
    obtain ⟨g2, cp2, rfl, _, _⟩ := o2.form (by omega)
    go_wp2_with fail
    refine (l1Idem_any _ _ _ _ _ (RI.of_own o2) hn (en_LT (en_times hn (en_LT (en_turn _ n (Nat.le_refl _))) hE'))).mono ?_
    rintro e w3 ⟨rfl, rfl⟩
    rw [HI.out]
    have hB := b1.trans (b2.mono b1.size)
    clear o1 o2 b1 b2
    go_wp2_with fail
    refine (l1Turned_any _ _ _ _ _ (h'.below hB) hn hE').mono ?_
    rintro e w4 ⟨v, rfl, o1, b1⟩
    rw [LT_length] at o1
    obtain ⟨g1, cp1, rfl, _, _⟩ := o1.form (by omega)
    have hB4 := hB.trans (b1.mono hB.size)
    go_wp2_with fail
    refine (l1Times_any _ _ _ _ _ _ _ _ (h.below hB4) (RI.of_own o1) hn hE).mono ?_
    rintro e w5 ⟨v, rfl, o2, b2⟩
    rw [LT_length] at o2
    obtain ⟨g2, cp2, rfl, _, _⟩ := o2.form (by omega)
    have hB5 := hB4.trans (b2.mono hB4.size)
    go_wp2_with fail
    refine (l1Idem_any _ _ _ _ _ (RI.of_own o2) hn (en_LT (en_times hn hE (en_LT (en_turn _ n (Nat.le_refl _)))))).mono ?_
    rintro e w6 ⟨rfl, rfl⟩
    clear o1 o2 b1 b2
    go_wp2
    go_ret
    exact ⟨by rw [HC.out]; rfl, hB5⟩

theorem coB_no {f g : List Int} (h : isP f g = false) : coB f g = false := by simp [coB, h]
theorem coB_yes {f g : List Int} (h : isP f g = true) : coB f g = coF f.length (ofL f) (ofL g) := by simp [coB, h, pk_yes h, pF_yes h, pG_yes h]

set_option maxHeartbeats 400000 in
theorem specComp_any (A B : Option Addr) (n m c d : Nat) (zs ys : List Int) (w : World) (h : RI w A n zs) (h' : RI w B m ys) (hn : n ≤ 1048576) (hm : m ≤ 1048576) :
    Calls Try.prog 48 #[.slice A n c, .slice B m d] w fun e w' => e = .returned (.bool (coB zs ys)) ∧ Below w.heap.size w w' := by
  cases hP : isP zs ys
  · have HT := Lib.hid (coB_no hP)
    have HP := Lib.hid hP
    clear hP
    go_enter Try.func48, Try.ntmps48
    go_wp2_with fail
    refine (l1Both_any _ _ _ _ _ _ _ _ _ h h' hn hm).mono ?_
    rintro e w1 ⟨rfl, rfl⟩
    rw [HP.out]
    go_wp2
    go_ret
    exact ⟨by rw [HT.out]; rfl, Below.refl _ _⟩
  · obtain ⟨hf, hg, hfg⟩ := isP_yes hP
    have hL := h.len
    have hL' := h'.len
    obtain rfl : n = m := by omega
    have h6 := (isC_len hf).2
    have h1 := (isC_len hf).1
    have hE := isC_ent hf
    have hE' := isC_ent hg
    rw [hL] at hE h6 h1
    rw [hL'] at hE'
    have HT : Hid (coZ n zs ys = coB zs ys) := by show _ = _; rw [coZ_is h6 hE, coB_yes hP, hL]
    have HP := Lib.hid hP
    clear hP hf hg hfg hm hL hL'
    go_enter Try.func48, Try.ntmps48
    go_wp2_with fail
    refine (l1Both_any _ _ _ _ _ _ _ _ _ h h' hn hn).mono ?_
    rintro e w1 ⟨rfl, rfl⟩
    rw [HP.out]
    go_wp2_with fail
    refine (l1Comp_any _ _ _ _ _ _ _ _ h h' h1 h6 hE hE').mono ?_
    rintro e w1 ⟨rfl, hb⟩
    go_wp2
    go_ret
    exact ⟨by rw [← HT.out]; rfl, hb⟩
end Go.Proofs.Ytdmobfjcbjengaa
