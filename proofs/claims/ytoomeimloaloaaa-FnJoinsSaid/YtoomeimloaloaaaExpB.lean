/-
  The exported functions of two charts, of a set: impl, and spec's of products, meets, sets, cuts.
-/
import Derived.Test.YtoomeimloaloaaaPair
import Derived.Test.YtoomeimloaloaaaTimes
import Derived.Test.YtoomeimloaloaaaMeet
import Derived.Test.YtoomeimloaloaaaCut
import Derived.Test.YtoomeimloaloaaaList
import Derived.Test.YtoomeimloaloaaaSpecB
import Derived.Test.YtoomeimloaloaaaMark
namespace Go.Proofs.Ytoomeimloaloaaa
set_option maxRecDepth 100000
open Go.RowKit

theorem newL_oB {w w3 : World} {base k : Nat} {B : Addr} {F : Nat → Int} {L : List Int} (hown : w3.ownsRow base 3 1 (.slice (some B) k k) k (ivs (LT k F))) (hbase : w.heap.size ≤ base) (hB : Below w.heap.size w w3) (hL : LT k F = L) : NewL w L (.slice (some B) k k) w3 := by
  subst hL
  refine ⟨?_, hB⟩
  rw [LT_length]
  exact ⟨hown.1, hown.2.imp id fun ⟨g, cap, cur, a, b, c⟩ => ⟨g, cap, cur, a, Nat.le_trans hbase b, c⟩⟩

theorem pk_le (f g : List Int) : pk f g ≤ 6 := by
  unfold pk; split
  · rename_i h; unfold isP at h; rw [Bool.and_eq_true] at h; exact (isC_len h.1).2
  · omega
theorem isP_yes {f g : List Int} (h : isP f g = true) : isC f = true ∧ isC g = true ∧ f.length = g.length := by
  unfold isP at h; rw [Bool.and_eq_true, Bool.and_eq_true] at h; exact ⟨h.1, h.2.1, of_decide_eq_true h.2.2⟩
theorem pk_yes {f g : List Int} (h : isP f g = true) : pk f g = f.length := by simp [pk, h]
theorem pk_no {f g : List Int} (h : isP f g = false) : pk f g = 0 := by simp [pk, h]
theorem pF_yes {f g : List Int} (h : isP f g = true) : pF f g = ofL f := by funext j; simp [pF, h]
theorem pG_yes {f g : List Int} (h : isP f g = true) : pG f g = ofL g := by funext j; simp [pG, h]
theorem pF_ok (f g : List Int) : Ok (pk f g) (pF f g) := by
  cases h : isP f g
  · rw [pk_no h]; intro j hj; omega
  · rw [pk_yes h, pF_yes h]; have := isP_yes h; exact ent_ok (isC_len this.1).2 (isC_ent this.1)
theorem pG_ok (f g : List Int) : Ok (pk f g) (pG f g) := by
  cases h : isP f g
  · rw [pk_no h]; intro j hj; omega
  · rw [pk_yes h, pG_yes h]; have := isP_yes h; rw [this.2.2]; exact ent_ok (isC_len this.2.1).2 (isC_ent this.2.1)

def tiL (f g : List Int) : List Int := LT (pk f g) (timesL (pk f g) (pG f g) (mv (pF f g) (pk f g)))
def meL (f g : List Int) : List Int := LT (pk f g) (meetL (pk f g) (pG f g) (mv (pF f g) (pk f g)))
theorem tiL_le (f g : List Int) : (tiL f g).length ≤ 6 := by unfold tiL; rw [LT_length]; exact pk_le f g
theorem meL_le (f g : List Int) : (meL f g).length ≤ 6 := by unfold meL; rw [LT_length]; exact pk_le f g
theorem tiL_no {f g : List Int} (h : isP f g = false) : tiL f g = [] := by unfold tiL; rw [pk_no h]; rfl
theorem meL_no {f g : List Int} (h : isP f g = false) : meL f g = [] := by unfold meL; rw [pk_no h]; rfl
theorem times_congr {n : Nat} {T T' G G' : Nat → Int} (hn : n ≤ 6) (h : ∀ j, j < 6 → T j = T' j) (h' : ∀ j, j < 6 → G j = G' j) : LT n (timesL n G (mv T n)) = LT n (timesL n G' (mv T' n)) := by
  refine LT_congr (fun j hj => ?_)
  rw [times_closed n _ _ j n hn, times_closed n _ _ j n hn, h j (by omega)]
  split
  · rename_i hc; exact h' _ (by omega)
  · rfl
theorem meet_congr {n : Nat} {T T' G G' : Nat → Int} (hn : n ≤ 6) (h : ∀ j, j < 6 → T j = T' j) (h' : ∀ j, j < 6 → G j = G' j) : LT n (meetL n G (mv T n)) = LT n (meetL n G' (mv T' n)) := by
  refine LT_congr (fun j hj => ?_)
  rw [meet_closed n _ _ j n hn, meet_closed n _ _ j n hn, h j (by omega), h' j (by omega)]

set_option maxHeartbeats 400000 in
theorem implTimes_any (A B : Option Addr) (n m c d : Nat) (zs ys : List Int) (w : World) (h : RI w A n zs) (h' : RI w B m ys) :
    Calls Try.prog 17 #[.slice A n c, .slice B m d] w fun e w' => ∃ v, e = .returned (.tuple #[v, .bool (isP zs ys)]) ∧ NewL w (tiL zs ys) v w' := by
  go_enter Try.func17, Try.ntmps17
  go_wp2_with fail
  refine (chartPair_any _ _ _ _ _ _ _ _ _ h h').mono ?_
  rintro e w1 ⟨k, T, G, rfl, rfl, hT, hG, hb⟩
  have hk := pk_le zs ys
  have hOk := (pF_ok zs ys).congr hT hk
  have HL : Hid (LT (pk zs ys) (timesL (pk zs ys) G (mv T (pk zs ys))) = tiL zs ys) := times_congr hk hT hG
  generalize pk zs ys = k at *
  clear hT hG h h'
  go_wp2_with fail
  refine (times_any k hk T hOk k G _).mono ?_
  rintro e w2 ⟨T', rfl, HT, hb2⟩
  go_wp2_with fail
  refine (list_any k hk T' _).mono ?_
  rintro e w3 ⟨B', rfl, hown, hb3⟩
  have hB2 : Below w.heap.size w w2 := ((hb.alloc hb.size _).alloc (by have := hb.size; simp; omega) _).trans (hb2.mono (by have := hb.size; simp; omega))
  have hB3 : Below w.heap.size w w3 := hB2.trans (hb3.mono hB2.size)
  have hN := newL_oB hown hB2.size hB3 ((LT_congr (fun j hj => HT.out j (by omega))).trans HL.out)
  clear hown hb3 hb2 hb
  go_wp2
  go_ret2
  exact ⟨_, rfl, hN⟩


set_option maxHeartbeats 400000 in
theorem l1Both_any (A B : Option Addr) (n m c d : Nat) (zs ys : List Int) (w : World) (h : RI w A n zs) (h' : RI w B m ys) (hn : n ≤ 1048576) (hm : m ≤ 1048576) :
    Calls Try.prog 23 #[.slice A n c, .slice B m d] w fun e w' => e = .returned (.bool (isP zs ys)) ∧ w = w' := by
  obtain rfl := h.len
  obtain rfl := h'.len
  cases h1 : isC zs
  · have HP : Hid (isP zs ys = false) := by show _ = _; simp [isP, h1]
    have H1 := Lib.hid h1
    clear h1
    go_enter Try.func23, Try.ntmps23
    go_wp2_with fail
    refine (specIn_any _ _ _ _ _ h hn).mono ?_
    rintro e w' ⟨rfl, rfl⟩
    rw [H1.out]
    go_wp2
    go_ret
    exact ⟨by rw [HP.out]; rfl, rfl⟩
  · cases h2 : isC ys
    · have HP : Hid (isP zs ys = false) := by show _ = _; simp [isP, h2]
      have H1 := Lib.hid h1
      have H2 := Lib.hid h2
      clear h1 h2
      go_enter Try.func23, Try.ntmps23
      go_wp2_with fail
      refine (specIn_any _ _ _ _ _ h hn).mono ?_
      rintro e w' ⟨rfl, rfl⟩
      rw [H1.out]
      go_wp2_with fail
      refine (specIn_any _ _ _ _ _ h' hm).mono ?_
      rintro e w' ⟨rfl, rfl⟩
      rw [H2.out]
      go_wp2
      go_ret
      exact ⟨by rw [HP.out]; rfl, rfl⟩
    · have HP : Hid (isP zs ys = decide (zs.length = ys.length)) := by show _ = _; simp [isP, h1, h2]
      have HE : Hid (((zs.length : Int) == (ys.length : Int)) = decide (zs.length = ys.length)) := by
        show _ = _
        by_cases e : zs.length = ys.length
        · simp [e]
        · rw [decide_eq_false e]; simp; omega
      have H1 := Lib.hid h1
      have H2 := Lib.hid h2
      clear h1 h2
      go_enter Try.func23, Try.ntmps23
      go_wp2_with fail
      refine (specIn_any _ _ _ _ _ h hn).mono ?_
      rintro e w' ⟨rfl, rfl⟩
      rw [H1.out]
      go_wp2_with fail
      refine (specIn_any _ _ _ _ _ h' hm).mono ?_
      rintro e w' ⟨rfl, rfl⟩
      rw [H2.out]
      go_wp2
      go_ret
      exact ⟨by rw [HP.out, ← HE.out]; rfl, rfl⟩


/-- the common part, place by place -/
def meF (zs ys : List Int) (j : Nat) : Int := if ofL zs j = ofL ys j then ofL zs j else -1
theorem meF_closed {n : Nat} {zs ys : List Int} (hn : n ≤ 6) (hE : Ent n zs) : LT n (meF zs ys) = LT n (meetL n (ofL ys) (mv (ofL zs) n)) := by
  refine LT_congr (fun j hj => ?_)
  rw [meet_closed n _ _ j n hn]
  have hz : ofL zs j = -1 ∨ (0 ≤ ofL zs j ∧ ofL zs j < n) := hE j hj
  unfold meF stillF
  refine Eq.symm ?_
  rcases hz with h | ⟨h0, h1⟩
  · have hn : ¬ ((j < n ∧ 0 ≤ ofL zs j ∧ ofL zs j < 6) ∧ ofL ys j = ofL zs j) := fun hh => by omega
    rw [if_neg hn, if_pos hj]
    split
    · exact h.symm
    · rfl
  · by_cases e : ofL zs j = ofL ys j
    · rw [if_pos ⟨⟨hj, h0, by omega⟩, e.symm⟩, if_pos e]
    · have hn : ¬ ((j < n ∧ 0 ≤ ofL zs j ∧ ofL zs j < 6) ∧ ofL ys j = ofL zs j) := fun h => e h.2.symm
      rw [if_neg hn, if_neg e, if_pos hj]

end Go.Proofs.Ytoomeimloaloaaa
