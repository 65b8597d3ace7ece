/-
  The exported functions of one chart: impl and spec.
-/
import Derived.Test.YtoomeimloaloaaaDom
import Derived.Test.YtoomeimloaloaaaList
import Derived.Test.YtoomeimloaloaaaOnes
namespace Go.Proofs.Ytoomeimloaloaaa
set_option maxRecDepth 100000
open Go.RowKit

theorem own_le {w : World} {base base' size n : Nat} {e : TypeId} {v : Value} {xs : List Value} (h : w.ownsRow base e size v n xs) (hb : base' ≤ base) : w.ownsRow base' e size v n xs :=
  ⟨h.1, h.2.imp id fun ⟨g, cap, cur, a, b, c⟩ => ⟨g, cap, cur, a, Nat.le_trans hb b, c⟩⟩
theorem newL_of {w w3 : World} {base k : Nat} {B : Addr} {F : Nat → Int} {L : List Int} (hown : w3.ownsRow base 3 1 (.slice (some B) k k) k (ivs (LT k F))) (hbase : w.heap.size ≤ base) (hB : Below w.heap.size w w3) (hL : LT k F = L) : NewL w L (.slice (some B) k k) w3 := by
  subst hL
  exact ⟨by rw [LT_length]; exact own_le hown hbase, hB⟩

/-- the turned chart as a list; nothing where it is none -/
def tuL (zs : List Int) : List Int := LT (fk zs) (turnL (fk zs) (mv (fT zs) (fk zs)))
def doN (zs : List Int) : Nat := domL (mv (fT zs) (fk zs))

theorem turnL_congr {n : Nat} {T T' : Nat → Int} (hn : n ≤ 6) (h : ∀ j, j < 6 → T j = T' j) : turnL n (mv T n) = turnL n (mv T' n) := by rw [mv_congr (fun j hj => h j (by omega))]

set_option maxHeartbeats 400000 in
theorem implTurned_any (A : Option Addr) (n c : Nat) (zs : List Int) (w : World) (h : RI w A n zs) :
    Calls Try.prog 16 #[.slice A n c] w fun e w' => ∃ v, e = .returned (.tuple #[v, .bool (isC zs)]) ∧ NewL w (tuL zs) v w' := by
  go_enter Try.func16, Try.ntmps16
  go_wp2_with fail
  refine (chartOf_any _ _ _ _ _ h).mono ?_
  rintro e w1 ⟨k, T, rfl, hy, hno, hb⟩
  obtain ⟨rfl, hT⟩ := of_facts hy hno
  have hOk := (fT_ok zs).congr hT (fk_le zs)
  have hk := fk_le zs
  have HL : Hid (LT (fk zs) (turnL (fk zs) (mv T (fk zs))) = tuL zs) := by show _ = _; rw [turnL_congr hk hT]; rfl
  generalize fk zs = k at *
  clear hy hno hT h
  go_wp2_with fail
  refine (turned_any k hk T hOk _).mono ?_
  rintro e w2 ⟨T', rfl, HT, hb2⟩
  go_wp2_with fail
  refine (list_any k hk T' _).mono ?_
  rintro e w3 ⟨B, rfl, hown, hb3⟩
  have hB2 : Below w.heap.size w w2 := (hb.alloc hb.size _).trans (hb2.mono (by have := hb.size; simp; omega))
  have hB3 : Below w.heap.size w w3 := hB2.trans (hb3.mono hB2.size)
  have hN := newL_of hown hB2.size hB3 ((LT_congr (fun j hj => HT.out j (by omega))).trans HL.out)
  clear hown hb3 hb2 hb
  go_wp2
  go_ret2
  exact ⟨_, rfl, hN⟩

set_option maxHeartbeats 400000 in
theorem implDomain_any (A : Option Addr) (n c : Nat) (zs : List Int) (w : World) (h : RI w A n zs) :
    Calls Try.prog 21 #[.slice A n c] w fun e w' => e = .returned (.tuple #[.int .i64 (doN zs : Nat), .bool (isC zs)]) ∧ Below w.heap.size w w' := by
  go_enter Try.func21, Try.ntmps21
  go_wp2_with fail
  refine (chartOf_any _ _ _ _ _ h).mono ?_
  rintro e w1 ⟨k, T, rfl, hy, hno, hb⟩
  obtain ⟨rfl, hT⟩ := of_facts hy hno
  have hOk := (fT_ok zs).congr hT (fk_le zs)
  have hk := fk_le zs
  have HL : Hid (domL (mv T (fk zs)) = doN zs) := by show _ = _; rw [mv_congr (fun j hj => hT j (by omega))]; rfl
  generalize fk zs = k at *
  clear hy hno hT h
  go_wp2_with fail
  refine (domain_any k hk T hOk _).mono ?_
  rintro e w2 ⟨rfl, hb2⟩
  have hB2 : Below w.heap.size w w2 := (hb.alloc hb.size _).trans (hb2.mono (by have := hb.size; simp; omega))
  clear hb hb2
  go_wp2
  go_ret2
  exact ⟨by rw [← HL.out]; rfl, hB2⟩

/-- turned charts move to points of the chart alone -/
theorem turn_ok {n : Nat} (hn : n ≤ 6) (T : Nat → Int) : ∀ k, k ≤ n → ∀ j, j < n → turnL n (mv T k) j = -1 ∨ (0 ≤ turnL n (mv T k) j ∧ turnL n (mv T k) j < 6)
  | 0, _, j, hj => by simp [mv, turnL, stillF, hj]
  | k + 1, hk, j, hj => by
    have ih := turn_ok hn T k (by omega) j hj
    by_cases hc : k < 6 ∧ 0 ≤ T k ∧ T k < 6
    · rw [mv_step hc, turnL_snoc]
      unfold turnS
      by_cases e : j = (T k).toNat
      · rw [if_pos e]; right; simp; omega
      · rw [if_neg e]; exact ih
    · have e0 : mv T (k + 1) = mv T k := by simp [mv, hc]
      rw [e0]; exact ih

set_option maxHeartbeats 400000 in
theorem image_any (n : Nat) (hn : n ≤ 6) (T : Nat → Int) (hT : Ok n T) (w : World) :
    Calls Try.prog 39 #[.agg #[.int .i64 ((n : Int)), .int .i64 (T 0), .int .i64 (T 1), .int .i64 (T 2), .int .i64 (T 3), .int .i64 (T 4), .int .i64 (T 5)]] w fun e w' => e = .returned (.int .i64 (domL (mv (turnL n (mv T n)) n) : Nat)) ∧ Below w.heap.size w w' := by
  go_enter Try.func39, Try.ntmps39
  go_wp2_with fail
  refine (turned_any n hn T hT _).mono ?_
  rintro e w1 ⟨T', rfl, HT, hb⟩
  have hOk : Ok n T' := Ok.congr (turn_ok hn T n (Nat.le_refl _)) HT.out hn
  have HM : Hid (mv T' n = mv (turnL n (mv T n)) n) := mv_congr (fun j hj => HT.out j (by omega))
  go_wp2_with fail
  refine (domain_any n hn T' hOk _).mono ?_
  rintro e w2 ⟨rfl, hb2⟩
  have hB2 : Below w.heap.size w w2 := (((Below.refl _ _).alloc (Nat.le_refl _) _).trans (hb.mono (by simp))).trans (hb2.mono (by have := hb.size; simp at this; omega))
  clear hb hb2
  go_wp2
  go_ret
  exact ⟨by rw [← HM.out]; rfl, hB2⟩

def raN (zs : List Int) : Nat := domL (mv (turnL (fk zs) (mv (fT zs) (fk zs))) (fk zs))

set_option maxHeartbeats 400000 in
theorem implRange_any (A : Option Addr) (n c : Nat) (zs : List Int) (w : World) (h : RI w A n zs) :
    Calls Try.prog 22 #[.slice A n c] w fun e w' => e = .returned (.tuple #[.int .i64 (raN zs : Nat), .bool (isC zs)]) ∧ Below w.heap.size w w' := by
  go_enter Try.func22, Try.ntmps22
  go_wp2_with fail
  refine (chartOf_any _ _ _ _ _ h).mono ?_
  rintro e w1 ⟨k, T, rfl, hy, hno, hb⟩
  obtain ⟨rfl, hT⟩ := of_facts hy hno
  have hOk := (fT_ok zs).congr hT (fk_le zs)
  have hk := fk_le zs
  have HL : Hid (domL (mv (turnL (fk zs) (mv T (fk zs))) (fk zs)) = raN zs) := by show _ = _; rw [turnL_congr hk hT]; rfl
  generalize fk zs = k at *
  clear hy hno hT h
  go_wp2_with fail
  refine (image_any k hk T hOk _).mono ?_
  rintro e w2 ⟨rfl, hb2⟩
  have hB2 : Below w.heap.size w w2 := (hb.alloc hb.size _).trans (hb2.mono (by have := hb.size; simp; omega))
  clear hb hb2
  go_wp2
  go_ret2
  exact ⟨by rw [← HL.out]; rfl, hB2⟩

set_option maxHeartbeats 400000 in
theorem rank_any (n : Nat) (hn : n ≤ 6) (T : Nat → Int) (hT : Ok n T) (w : World) :
    Calls Try.prog 37 #[.agg #[.int .i64 ((n : Int)), .int .i64 (T 0), .int .i64 (T 1), .int .i64 (T 2), .int .i64 (T 3), .int .i64 (T 4), .int .i64 (T 5)]] w fun e w' => e = .returned (.int .i64 (popK (domL (mv T n)) 6 : Nat)) ∧ Below w.heap.size w w' := by
  have hd := domL_lt (mv T n)
  go_enter Try.func37, Try.ntmps37
  go_wp2_with fail
  refine (domain_any n hn T hT _).mono ?_
  rintro e w1 ⟨rfl, hb⟩
  have hB1 : Below w.heap.size w w1 := ((Below.refl _ _).alloc (Nat.le_refl _) _).trans (hb.mono (by simp))
  generalize hm : domL (mv T n) = m at *
  have HM := Lib.hid hm
  clear hb hm
  go_wp2_with fail
  refine (ones_any m hd _).mono ?_
  rintro e w' ⟨rfl, rfl⟩
  go_wp2
  go_ret
  exact ⟨by rw [HM.out]; rfl, hB1⟩

set_option maxHeartbeats 400000 in
theorem implRank_any (A : Option Addr) (n c : Nat) (zs : List Int) (w : World) (h : RI w A n zs) :
    Calls Try.prog 18 #[.slice A n c] w fun e w' => e = .returned (.tuple #[.int .i64 (popK (doN zs) 6 : Nat), .bool (isC zs)]) ∧ Below w.heap.size w w' := by
  go_enter Try.func18, Try.ntmps18
  go_wp2_with fail
  refine (chartOf_any _ _ _ _ _ h).mono ?_
  rintro e w1 ⟨k, T, rfl, hy, hno, hb⟩
  obtain ⟨rfl, hT⟩ := of_facts hy hno
  have hOk := (fT_ok zs).congr hT (fk_le zs)
  have hk := fk_le zs
  have HL : Hid (domL (mv T (fk zs)) = doN zs) := by show _ = _; rw [mv_congr (fun j hj => hT j (by omega))]; rfl
  generalize fk zs = k at *
  clear hy hno hT h
  go_wp2_with fail
  refine (rank_any k hk T hOk _).mono ?_
  rintro e w2 ⟨rfl, hb2⟩
  have hB2 : Below w.heap.size w w2 := (hb.alloc hb.size _).trans (hb2.mono (by have := hb.size; simp; omega))
  clear hb hb2
  go_wp2
  go_ret2
  exact ⟨by rw [← HL.out]; rfl, hB2⟩

end Go.Proofs.Ytoomeimloaloaaa
