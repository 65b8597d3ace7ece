/-
  impl.still, impl.hasPoint, impl.chartOf, impl.ChartIn.
-/
import Derived.Test.YtoomeimloaloaaaIn
namespace Go.Proofs.Ytoomeimloaloaaa
set_option maxRecDepth 100000
open Go.RowKit

theorem hasPoint_any (m : Nat) (z : Int) (hm : m < 64) (h0 : 0 ≤ z) (h6 : z < 6) (w : World) : Calls Try.prog 45 #[.int .i64 m, .int .i64 z] w fun e w' => e = .returned (.bool (m.testBit z.toNat)) ∧ w = w' := by
  have HB := Lib.hid (bit_is hm h0 h6)
  go_enter Try.func45, Try.ntmps45
  go_wp2
  go_ret
  exact ⟨by rw [← HB.out]; rfl, rfl⟩

/-- the cells of a chart's block as a function of the place: the number of points, then the six places -/
def cf (n : Int) (T : Nat → Int) (j : Nat) : Value := if j = 0 then .int .i64 n else .int .i64 (T (j - 1))

theorem cf_zero (n : Int) (T : Nat → Int) : cf n T 0 = .int .i64 n := rfl
theorem cf_succ (n : Int) (T : Nat → Int) (j : Nat) : cf n T (j + 1) = .int .i64 (T j) := rfl

/-- block b is a chart's: n points, the places T -/
def Cb (w : World) (b : Nat) (n : Int) (T : Nat → Int) : Prop := w.rowIs b 38 7 (cf n T)

section
variable {w w' : World} {b : Nat} {n : Int} {T T' : Nat → Int}
theorem Cb.head (h : Cb w b n T) : w.cell? ⟨b, 0, none⟩ = some (.int .i64 n) := h.cell (i := 0) (by omega)
theorem Cb.at_ (h : Cb w b n T) {k : Nat} (hk : k < 6) : w.cell? ⟨b, 1 + k, none⟩ = some (.int .i64 (T k)) := by
  have := h.cell (i := 1 + k) (by omega)
  rw [this]; unfold cf; rw [if_neg (by omega)]; congr 3; omega
theorem Cb.frozen (h : Cb w b n T) (k : Nat) : w.frozen? ⟨b, k, none⟩ = false := World.rowIs.frozen h k
theorem Cb.lt (h : Cb w b n T) : b < w.heap.size := World.rowIs.lt h
theorem Cb.all (h : Cb w b n T) : w.cell? ⟨b, 0, none⟩ = some (.int .i64 n) ∧ w.cell? ⟨b, 1, none⟩ = some (.int .i64 (T 0)) ∧ w.cell? ⟨b, 2, none⟩ = some (.int .i64 (T 1)) ∧ w.cell? ⟨b, 3, none⟩ = some (.int .i64 (T 2)) ∧
    w.cell? ⟨b, 4, none⟩ = some (.int .i64 (T 3)) ∧ w.cell? ⟨b, 5, none⟩ = some (.int .i64 (T 4)) ∧ w.cell? ⟨b, 6, none⟩ = some (.int .i64 (T 5)) :=
  ⟨h.head, h.at_ (k := 0) (by omega), h.at_ (k := 1) (by omega), h.at_ (k := 2) (by omega), h.at_ (k := 3) (by omega), h.at_ (k := 4) (by omega), h.at_ (k := 5) (by omega)⟩
theorem Cb.frees (h : Cb w b n T) : w.frozen? ⟨b, 0, none⟩ = false ∧ w.frozen? ⟨b, 1, none⟩ = false ∧ w.frozen? ⟨b, 2, none⟩ = false ∧ w.frozen? ⟨b, 3, none⟩ = false ∧ w.frozen? ⟨b, 4, none⟩ = false ∧ w.frozen? ⟨b, 5, none⟩ = false ∧ w.frozen? ⟨b, 6, none⟩ = false :=
  ⟨h.frozen 0, h.frozen 1, h.frozen 2, h.frozen 3, h.frozen 4, h.frozen 5, h.frozen 6⟩
theorem Cb.set_ (h : Cb w b n T) (k : Nat) (v : Int) : Cb (w.setCell ⟨b, 1 + k, none⟩ (.int .i64 v)) b n (fun j => if j = k then v else T j) := by
  refine World.rowIs.congr (World.rowIs.set h (1 + k) (.int .i64 v)) (fun j _ => ?_)
  unfold cf
  by_cases h0 : j = 0
  · subst h0; rw [if_pos rfl, if_pos rfl, if_neg (by omega)]
  · rw [if_neg h0, if_neg h0]
    by_cases h1 : j = 1 + k
    · rw [if_pos h1]; simp [show j - 1 = k by omega]
    · rw [if_neg h1]; simp [show j - 1 ≠ k by omega]
theorem Cb.congr (h : Cb w b n T) (e : ∀ j, j < 6 → T j = T' j) : Cb w b n T' := World.rowIs.congr h (fun j hj => by
  unfold cf
  by_cases h0 : j = 0
  · rw [if_pos h0, if_pos h0]
  · rw [if_neg h0, if_neg h0, e (j - 1) (by omega)])
theorem Cb.other (h : Cb w b n T) {a : Addr} (ha : b ≠ a.block) (v : Value) : Cb (w.setCell a v) b n T := World.rowIs.setOther h ha v
theorem Cb.alloc (h : Cb w b n T) (o : Obj) : Cb (w.alloc o) b n T := World.rowIs.alloc h o
theorem Cb.drewN (h : Cb w b n T) (k : Nat) : Cb (w.drewN k) b n T := h
theorem Cb.below {B : Nat} (h : Cb w b n T) (hb : Below B w w') (hB : b < B) : Cb w' b n T := World.rowIs.of_block h (hb.block b hB)
theorem Cb.new (w : World) (n : Int) (T : Nat → Int) : Cb (w.alloc (.cells #[.int .i64 (n), .int .i64 (T 0), .int .i64 (T 1), .int .i64 (T 2), .int .i64 (T 3), .int .i64 (T 4), .int .i64 (T 5)] 38)) w.heap.size n T :=
  World.rowIs_alloc w _ 38 (cf n T) (fun i hi => by
    match i, hi with
    | 0, _ => rfl
    | 1, _ => rfl
    | 2, _ => rfl
    | 3, _ => rfl
    | 4, _ => rfl
    | 5, _ => rfl
    | 6, _ => rfl)
end

theorem below_set7 {B b : Nat} {a w : World} (h : Below B a w) (hb : B ≤ b) (v0 v1 v2 v3 v4 v5 v6 : Value) :
    Below B a (((((((w.setCell ⟨b, 0, none⟩ v0).setCell ⟨b, 1, none⟩ v1).setCell ⟨b, 2, none⟩ v2).setCell ⟨b, 3, none⟩ v3).setCell ⟨b, 4, none⟩ v4).setCell ⟨b, 5, none⟩ v5).setCell ⟨b, 6, none⟩ v6) :=
  ((((((h.setCell (p := ⟨b, 0, none⟩) hb v0).setCell (p := ⟨b, 1, none⟩) hb v1).setCell (p := ⟨b, 2, none⟩) hb v2).setCell (p := ⟨b, 3, none⟩) hb v3).setCell (p := ⟨b, 4, none⟩) hb v4).setCell (p := ⟨b, 5, none⟩) hb v5).setCell (p := ⟨b, 6, none⟩) hb v6

set_option maxHeartbeats 1000000 in
theorem still_any (n : Nat) (hn : n ≤ 6) (w : World) : Calls Try.prog 42 #[.int .i64 n] w fun e w' => ∃ T : Nat → Int, e = .returned (.agg #[.int .i64 ((n : Int)), .int .i64 (T 0), .int .i64 (T 1), .int .i64 (T 2), .int .i64 (T 3), .int .i64 (T 4), .int .i64 (T 5)]) ∧ Hid (∀ j, T j = if j < n then -1 else 0) ∧ Below w.heap.size w w' := by
  go_enter Try.func42, Try.ntmps42
  go_wp2
  have hA := (Cb.new w 0 (fun _ => 0)).alloc (.cells #[.int .i64 ((n : Int)), .int .i64 ((fun _ => (0 : Int)) 0), .int .i64 ((fun _ => (0 : Int)) 1), .int .i64 ((fun _ => (0 : Int)) 2), .int .i64 ((fun _ => (0 : Int)) 3), .int .i64 ((fun _ => (0 : Int)) 4), .int .i64 ((fun _ => (0 : Int)) 5)] 38)
  have hC := Cb.new (w.alloc (.cells #[.int .i64 ((0 : Int)), .int .i64 ((fun _ => (0 : Int)) 0), .int .i64 ((fun _ => (0 : Int)) 1), .int .i64 ((fun _ => (0 : Int)) 2), .int .i64 ((fun _ => (0 : Int)) 3), .int .i64 ((fun _ => (0 : Int)) 4), .int .i64 ((fun _ => (0 : Int)) 5)] 38)) n (fun _ => 0)
  have hB : Below w.heap.size w ((w.alloc (.cells #[.int .i64 ((0 : Int)), .int .i64 ((fun _ => (0 : Int)) 0), .int .i64 ((fun _ => (0 : Int)) 1), .int .i64 ((fun _ => (0 : Int)) 2), .int .i64 ((fun _ => (0 : Int)) 3), .int .i64 ((fun _ => (0 : Int)) 4), .int .i64 ((fun _ => (0 : Int)) 5)] 38)).alloc (.cells #[.int .i64 ((n : Int)), .int .i64 ((fun _ => (0 : Int)) 0), .int .i64 ((fun _ => (0 : Int)) 1), .int .i64 ((fun _ => (0 : Int)) 2), .int .i64 ((fun _ => (0 : Int)) 3), .int .i64 ((fun _ => (0 : Int)) 4), .int .i64 ((fun _ => (0 : Int)) 5)] 38)) := ((Below.refl _ w).alloc (Nat.le_refl _) _).alloc (by simp) _
  rw [World.size_alloc] at hC
  go_loopw [4, 8] (fun _ i wr => ∃ k : Nat, k ≤ n ∧ i = .int .i64 k ∧ Cb wr w.heap.size 0 (fun _ => 0) ∧ Cb wr (w.heap.size + 1) n (fun j => if j < k then -1 else 0) ∧ Below w.heap.size w wr) (fun _ i _ => n - (intOf i).toNat)
  case atStart => exact ⟨0, Nat.zero_le _, rfl, hA, hC.congr (fun j _ => by simp), hB⟩
  case round =>
    clear hA hC hB
    obtain ⟨k, hk, rfl, hA, hC, hB⟩ := hrel
    by_cases hlt : k < n
    · have c1 := hC.at_ (k := k) (by omega)
      have f1 := hC.frozen (1 + k)
      have hC' := (hC.set_ k (-1)).congr (T' := fun j => if j < k + 1 then -1 else 0) (fun j _ => by
        by_cases h : j = k
        · simp [h]
        · by_cases h2 : j < k
          · simp [h, h2]; omega
          · simp [h, h2]; omega)
      have hA' := hA.other (a := ⟨w.heap.size + 1, 1 + k, none⟩) (by simp) (.int .i64 (-1))
      have hB' := hB.setCell (p := ⟨w.heap.size + 1, 1 + k, none⟩) (by simp) (.int .i64 (-1))
      go_wp2
      go_roundw
      case rel => exact ⟨k + 1, by omega, by go_num, hA', hC', hB'⟩
      case measure => simp [intOf]; omega
    · obtain rfl : k = n := by omega
      generalize hT : (fun j : Nat => if j < k then (-1 : Int) else 0) = T at hC
      have HT := Lib.hid hT
      clear hT
      obtain ⟨a0, a1, a2, a3, a4, a5, a6⟩ := hA.all
      obtain ⟨b0, b1, b2, b3, b4, b5, b6⟩ := hA.frees
      obtain ⟨c0, c1, c2, c3, c4, c5, c6⟩ := hC.all
      go_wp2
      refine bodyPost_ret (v := .agg #[.int .i64 ((k : Int)), .int .i64 (T 0), .int .i64 (T 1), .int .i64 (T 2), .int .i64 (T 3), .int .i64 (T 4), .int .i64 (T 5)]) (by simp [results, Try.results42, go_sem, a0, a1, a2, a3, a4, a5, a6]) rfl ⟨T, rfl, ?_, ?_⟩
      · intro j; rw [← HT.out]
      · exact below_set7 hB (Nat.le_refl _) _ _ _ _ _ _ _

end Go.Proofs.Ytoomeimloaloaaa
