/-
  impl.ChartCompatible.
-/
import Derived.Test.YtoomeimloaloaaaCompat
namespace Go.Proofs.Ytoomeimloaloaaa
set_option maxRecDepth 100000
open Go.RowKit

theorem pF_en (f g : List Int) : En (pk f g) (pF f g) := by
  cases h : isP f g
  · rw [pk_no h]; intro j hj; omega
  · rw [pk_yes h, pF_yes h]; have := isP_yes h; exact isC_ent this.1
theorem pG_en (f g : List Int) : En (pk f g) (pG f g) := by
  cases h : isP f g
  · rw [pk_no h]; intro j hj; omega
  · rw [pk_yes h, pG_yes h]; have := isP_yes h; rw [this.2.2]; exact isC_ent this.2.1
theorem coF_congr {n : Nat} {T T' G G' : Nat → Int} (hn : n ≤ 6) (_hT : En n T) (_hG : En n G) (h : ∀ j, j < n → T j = T' j) (h' : ∀ j, j < n → G j = G' j) : coF n T G = coF n T' G' := by
  have e1 : mv T n = mv T' n := mv_congr h
  have e2 : mv G n = mv G' n := mv_congr h'
  unfold coF
  rw [e2]
  have q1 : mv (timesL n G (mv (turnL n (mv T n)) n)) n = mv (timesL n G' (mv (turnL n (mv T' n)) n)) n := mv_congr (fun j hj => by
    rw [← e1]; exact times_congr' hn (en_turn T n (Nat.le_refl _)) (fun j hj => rfl) h' j hj)
  have q2 : mv (timesL n (turnL n (mv G' n)) (mv T n)) n = mv (timesL n (turnL n (mv G' n)) (mv T' n)) n := by rw [e1]
  rw [q1, q2]


/-! ### joins -/
theorem okFrom_bit {n : Nat} : ∀ {zs : List Int} {m : Nat}, okFrom n m zs = true → ∀ z ∈ zs, z ≠ -1 → m.testBit z.toNat = false
  | [], _, _, z, hz, _ => by cases hz
  | y :: zs, m, h, z, hz, h1 => by
    unfold okFrom at h
    by_cases hy : y = -1
    · rw [if_pos hy] at h
      rcases List.mem_cons.1 hz with rfl | hz
      · exact absurd hy h1
      · exact okFrom_bit h z hz h1
    · rw [if_neg hy] at h
      by_cases hc : 0 ≤ y ∧ y < n ∧ m.testBit y.toNat = false
      · rw [if_pos hc] at h
        rcases List.mem_cons.1 hz with rfl | hz
        · exact hc.2.2
        · have := okFrom_bit h z hz h1
          rw [Nat.testBit_or, Bool.or_eq_false_iff] at this
          exact this.1
      · rw [if_neg hc] at h; cases h
theorem okFrom_inj {n : Nat} : ∀ {zs : List Int} {m : Nat}, okFrom n m zs = true → ∀ i j, i < j → j < zs.length → zs[i]?.getD 0 ≠ -1 → zs[i]?.getD 0 ≠ zs[j]?.getD 0
  | [], _, _, i, j, _, hj, _ => by simp at hj
  | y :: zs, m, h, i, j, hij, hj, h1 => by
    obtain ⟨j', rfl⟩ : ∃ j', j = j' + 1 := ⟨j - 1, by omega⟩
    have hj' : j' < zs.length := by simpa using hj
    cases i with
    | zero =>
      simp at h1
      unfold okFrom at h
      rw [if_neg h1] at h
      by_cases hc : 0 ≤ y ∧ y < n ∧ m.testBit y.toNat = false
      · rw [if_pos hc] at h
        simp [List.getElem?_eq_getElem hj']
        intro e
        have hb := okFrom_bit h (zs[j']) (List.getElem_mem hj') (by rw [← e]; exact h1)
        rw [← e, Nat.testBit_or, Bool.or_eq_false_iff] at hb
        have := hb.2
        simp [Nat.testBit_shiftLeft] at this
      · rw [if_neg hc] at h; cases h
    | succ i =>
      have h1' : zs[i]?.getD 0 ≠ -1 := by simpa using h1
      have hgo : ∀ m', okFrom n m' zs = true → (y :: zs)[i + 1]?.getD 0 ≠ (y :: zs)[j' + 1]?.getD 0 := fun m' hm' => by
        simpa using okFrom_inj hm' i j' (by omega) hj' h1'
      unfold okFrom at h
      by_cases hy : y = -1
      · rw [if_pos hy] at h; exact hgo _ h
      · rw [if_neg hy] at h
        by_cases hc : 0 ≤ y ∧ y < n ∧ m.testBit y.toNat = false
        · rw [if_pos hc] at h; exact hgo _ h
        · rw [if_neg hc] at h; cases h
/-- no two points go to one point -/
def In (n : Nat) (T : Nat → Int) : Prop := ∀ i j, i < n → j < n → T i ≠ -1 → T i = T j → i = j
theorem isC_in {zs : List Int} (h : isC zs = true) : In zs.length (ofL zs) := fun i j hi hj h1 he => by
  rcases Nat.lt_trichotomy i j with hlt | rfl | hlt
  · exact absurd he (okFrom_inj (isC_ok h) i j hlt hj h1)
  · rfl
  · exact absurd he.symm (okFrom_inj (isC_ok h) j i hlt hi (by rw [show zs[j]?.getD 0 = zs[i]?.getD 0 from he.symm]; exact h1))
/-- a turned chart leads back -/
theorem turn_at {n : Nat} {T : Nat → Int} (hn : n ≤ 6) (hE : En n T) (hI : In n T) : ∀ k, k ≤ n → ∀ j, j < k → T j ≠ -1 → turnL n (mv T k) (T j).toNat = j
  | 0, _, j, hj, _ => by omega
  | k + 1, hk, j, hj, h1 => by
    have hTj := hE j (by omega)
    by_cases hc : k < 6 ∧ 0 ≤ T k ∧ T k < 6
    · rw [mv_step hc, turnL_snoc]
      unfold turnS
      by_cases e : (T j).toNat = (T k).toNat
      · rw [if_pos e]
        have : T j = T k := by omega
        have := hI j k (by omega) (by omega) h1 this
        simp [this]
      · rw [if_neg e]
        have hne : j ≠ k := fun h => e (by rw [h])
        exact turn_at hn hE hI k (by omega) j (by omega) h1
    · have hne : j ≠ k := fun h => by subst h; omega
      have e0 : mv T (k + 1) = mv T k := by simp [mv, hc]
      rw [e0]; exact turn_at hn hE hI k (by omega) j (by omega) h1
/-- where two compatible charts both move a point, they move it to one point -/
theorem compat_eq {n : Nat} {T G : Nat → Int} (hn : n ≤ 6) (hT : En n T) (hI : In n T) (hG : En n G) (h : coF n T G = true) {j : Nat} (hj : j < n) (h1 : T j ≠ -1) (h2 : G j ≠ -1) : T j = G j := by
  unfold coF at h
  rw [Bool.and_eq_true] at h
  have hi := (idem_closed _ n hn).1 h.1
  have hTj := hT j hj
  have hGj := hG j hj
  have hback := turn_at hn hT hI n (Nat.le_refl _) j hj h1
  have htm : timesL n G (mv (turnL n (mv T n)) n) (T j).toNat = G j := by
    rw [times_closed n _ _ _ n hn, hback, if_pos ⟨by omega, by omega, by omega⟩]; simp
  have := hi (T j).toNat (by omega) (by rw [htm]; omega) (by rw [htm]; omega)
  rw [htm] at this
  omega

def joL (f g : List Int) : List Int := if coB f g = true then LT f.length (joinL (ofL f) (mv (ofL g) f.length)) else []
theorem joL_le (f g : List Int) : (joL f g).length ≤ 6 := by
  unfold joL; split
  · rename_i h; rw [LT_length]
    have : isP f g = true := by unfold coB at h; rw [Bool.and_eq_true] at h; exact h.1
    exact (isC_len (isP_yes this).1).2
  · simp
def mxF (zs ys : List Int) (j : Nat) : Int := max (ofL zs j) (ofL ys j)
theorem mxF_closed {n : Nat} {zs ys : List Int} (hn : n ≤ 6) (hE : Ent n zs) (hI : In n (ofL zs)) (hE' : Ent n ys) (h : coF n (ofL zs) (ofL ys) = true) : LT n (mxF zs ys) = LT n (joinL (ofL zs) (mv (ofL ys) n)) := by
  refine LT_congr (fun j hj => ?_)
  rw [join_closed _ _ j n hn]
  have h1 : ofL zs j = -1 ∨ (0 ≤ ofL zs j ∧ ofL zs j < n) := hE j hj
  have h2 : ofL ys j = -1 ∨ (0 ≤ ofL ys j ∧ ofL ys j < n) := hE' j hj
  unfold mxF
  by_cases e : ofL ys j = -1
  · rw [if_neg (by omega)]; omega
  · rw [if_pos ⟨hj, by omega, by omega⟩]
    by_cases e1 : ofL zs j = -1
    · omega
    · have := compat_eq (T := ofL zs) (G := ofL ys) hn hE hI hE' h hj e1 e; omega
end Go.Proofs.Ytoomeimloaloaaa
