/-
  spec's reader of drawn bytes: l6Open, pick. What is drawn is not said: only that it is in its bounds, and what it leaves.
-/
import Derived.Test.YtoomeimloaloaaaSpecA
import Derived.Deep.QuietTactic
import Derived.BigQuiet
namespace Go.Proofs.Ytoomeimloaloaaa
set_option maxRecDepth 100000
open Go.RowKit

/-- the bytes of a slice, below block B -/
def Bys (w : World) (B : Nat) (A : Option Addr) (n : Nat) (bs : Nat → Nat) : Prop := n ≤ 2000 ∧ (∀ j, bs j < 256) ∧ ∀ j, j < n → ∃ ad : Addr, A = some ad ∧ ad.block < B ∧ w.cell? (ad.add j) = some (.int .u8 (bs j : Nat))
theorem Bys.keep {w w' : World} {B : Nat} {A : Option Addr} {n : Nat} {bs : Nat → Nat} (h : Bys w B A n bs) (hk : ∀ p : Addr, p.block < B → w'.cell? p = w.cell? p) : Bys w' B A n bs :=
  ⟨h.1, h.2.1, fun j hj => by
    obtain ⟨ad, e, hb, hc⟩ := h.2.2 j hj
    exact ⟨ad, e, hb, (hk _ (by rw [block_of_add]; exact hb)).trans hc⟩⟩

/-- the reader: block R, its bytes below block R, its place -/
def Rd (w : World) (R : Nat) (p : Nat) : Prop := ∃ (A : Option Addr) (n c : Nat) (bs : Nat → Nat), w.heap[R]? = some (.cells #[.slice A n c, .int .i64 (p : Int)] 64 (0, 0)) ∧ Bys w R A n bs

def PickPost (w : World) (R p : Nat) (m : Nat) (e : Ending) (w' : World) : Prop := ∃ v : Nat, e = .returned (.int .i64 v) ∧ v < m ∧ Rd w' R (p + 1) ∧ w.grownBy w' (some R)

theorem rd_next {w : World} {R p : Nat} {A : Option Addr} {n c : Nat} {bs : Nat → Nat} (hR : w.heap[R]? = some (.cells #[.slice A n c, .int .i64 (p : Int)] 64 (0, 0))) (hB : Bys w R A n bs) :
    Rd (w.setCell ⟨R, 1, none⟩ (.int .i64 ((p : Int) + 1))) R (p + 1) ∧ w.grownBy (w.setCell ⟨R, 1, none⟩ (.int .i64 ((p : Int) + 1))) (some R) := by
  refine ⟨⟨A, n, c, bs, ?_, hB.keep (fun q hq => World.cell?_setCell_other w _ q _ (fun e => by subst e; simp at hq))⟩, ⟨rfl, rfl, rfl, by simp [World.setCell], fun k _ hne => Below.heap_setCell w _ _ k (fun e => hne (by rw [e]))⟩⟩
  have := heap_setCell_same w R 1 _ 64 (.int .i64 ((p : Int) + 1)) hR
  simpa using this

set_option maxHeartbeats 1000000 in
theorem pick_any (R p : Nat) (m : Nat) (w : World) (h : Rd w R p) (hp : p ≤ 100000) (hm : 1 ≤ m) (hm2 : m ≤ 1000) :
    Calls Try.prog 31 #[.pointer (some ⟨R, 0, none⟩), .int .i64 m] w (PickPost w R p m) := by
  obtain ⟨A, n, c, bs, hR, hB⟩ := h
  have HN := Lib.hid (rd_next hR hB)
  have c0 : w.cell? ⟨R, 0, none⟩ = some (.slice A n c) := by simp [World.cell?, hR]
  have c1 : w.cell? ⟨R, 1, none⟩ = some (.int .i64 (p : Int)) := by simp [World.cell?, hR]
  have f1 : w.frozen? ⟨R, 1, none⟩ = false := by simp [World.frozen?, hR]
  have hn := hB.1
  have hd : decide ((m : Int) < 1) = false := by simp; omega
  by_cases hn0 : n = 0
  · subst hn0
    clear hB hR
    go_enter Try.func31, Try.ntmps31
    go_wp2
    go_ret
    exact ⟨0, rfl, by omega, HN.out.1, HN.out.2⟩
  · have hne : ((n : Int) == 0) = false := by simp; omega
    by_cases hlt : p < n
    · obtain ⟨ad, rfl, hb, hc⟩ := hB.2.2 p hlt
      have hby := hB.2.1 p
      have hcs : (w.setCell ⟨R, 1, none⟩ (.int .i64 ((p : Int) + 1))).cell? (ad.add p) = some (.int .u8 (bs p : Nat)) := (World.cell?_setCell_other w _ _ _ (fun e => by have := congrArg Addr.block e; rw [block_of_add] at this; simp at this; omega)).trans hc
      clear hB hR hc
      generalize bs p = x at hcs hby
      go_enter Try.func31, Try.ntmps31
      go_wp2
      go_ret
      refine ⟨x % m, ?_, ?_, HN.out.1, HN.out.2⟩
      · rw [Int.natCast_emod]; rfl
      · have := Nat.mod_lt x (show 0 < m by omega); omega
    · have hdl : decide ((p : Int) < (n : Int)) = false := by simp; omega
      go_enter Try.func31, Try.ntmps31
      go_wp2
      have hn1 : 0 < n := by omega
      have hk1 := Nat.mod_lt p hn1
      have hk2 := Nat.mod_lt (p * 7 + 3) hn1
      obtain ⟨ad, rfl, hb, hc⟩ := hB.2.2 (p % n) hk1
      obtain ⟨ad', ea, hb', hc'⟩ := hB.2.2 ((p * 7 + 3) % n) hk2
      injection ea with ea
      subst ea
      have hby := hB.2.1 (p % n)
      have hby' := hB.2.1 ((p * 7 + 3) % n)
      have hcs : ∀ j, (w.setCell ⟨R, 1, none⟩ (.int .i64 ((p : Int) + 1))).cell? (ad.add j) = w.cell? (ad.add j) := fun j => World.cell?_setCell_other w _ _ _ (fun e => by have := congrArg Addr.block e; rw [block_of_add] at this; simp at this; omega)
      have g1 := (hcs (p % n)).trans hc
      have g2 := (hcs ((p * 7 + 3) % n)).trans hc'
      have cR : (w.setCell ⟨R, 1, none⟩ (.int .i64 ((p : Int) + 1))).cell? ⟨R, 0, none⟩ = some (.slice (some ad) n c) := (World.cell?_setCell_other w _ _ _ (fun e => by cases e)).trans c0
      have q1 : (p : Int).tmod (n : Int) = ((p % n : Nat) : Int) := by rw [Int.tmod_eq_emod_of_nonneg (by omega), Int.natCast_emod]
      have q4 : ((p : Int) * 7 + 3).tmod (n : Int) = (((p * 7 + 3) % n : Nat) : Int) := by rw [Int.tmod_eq_emod_of_nonneg (by omega)]; push_cast; rfl
      have q5 : (p : Int).tdiv (n : Int) = ((p / n : Nat) : Int) := by rw [Int.tdiv_eq_ediv_of_nonneg (by omega)]; push_cast; rfl
      have hq : p / n ≤ 100000 := Nat.le_trans (Nat.div_le_self _ _) hp
      clear hcs hB hR hc hc'
      generalize bs (p % n) = x at g1 hby
      generalize bs ((p * 7 + 3) % n) = y at g2 hby'
      generalize p % n = k1 at *
      generalize (p * 7 + 3) % n = k2 at *
      generalize p / n = dq at *
      generalize w.setCell ⟨R, 1, none⟩ (.int .i64 ((p : Int) + 1)) = W at *
      go_quiet (fail)
      clear hb hb' q1 q4 q5 g1 g2 cR c0 hk1 hk2
      rw [show ((x : Int) * 131 + (y : Int) * 1117 + (p : Int) * 29 + (dq : Int) * 53) = ((x * 131 + y * 1117 + p * 29 + dq * 53 : Nat) : Int) by simp only [Int.natCast_add, Int.natCast_mul]; rfl]
      have hX : x * 131 + y * 1117 + p * 29 + dq * 53 < 20000000 := by omega
      generalize x * 131 + y * 1117 + p * 29 + dq * 53 = X at *
      have r1 : (X : Int).tdiv 64 = ((X / 64 : Nat) : Int) := by rw [Int.tdiv_eq_ediv_of_nonneg (by omega)]; push_cast; rfl
      have r2 : bits .xor .i64 (X : Int) ((X / 64 : Nat) : Int) = ((X ^^^ X / 64 : Nat) : Int) := i64_xor_nat X (X / 64) (by omega) (by omega)
      have hY : X ^^^ X / 64 < 2 ^ 25 := Nat.xor_lt_two_pow (by omega) (by omega)
      have hZ : X / 64 ≤ X := Nat.div_le_self _ _
      generalize X / 64 = Z at *
      generalize X ^^^ Z = Y at *
      have hY : Y < 33554432 := hY
      have r3 : (Y : Int).tmod (m : Int) = ((Y % m : Nat) : Int) := by rw [Int.tmod_eq_emod_of_nonneg (by omega), Int.natCast_emod]
      have hV := Nat.mod_lt Y (show 0 < m by omega)
      generalize Y % m = V at *
      have HM : Rd (W.drewN nq) R (p + 1) ∧ w.grownBy (W.drewN nq) (some R) := by
        obtain ⟨⟨A, n, c, bs, e1, e2⟩, g⟩ := HN.out
        exact ⟨⟨A, n, c, bs, e1, e2.keep (fun _ _ => rfl)⟩, ⟨g.1, g.2, g.3, g.4, g.5⟩⟩
      have HM := Lib.hid HM
      clear HN
      generalize W.drewN nq = W' at *
      go_wp2
      go_ret
      exact ⟨V, rfl, hV, HM.out.1, HM.out.2⟩
end Go.Proofs.Ytoomeimloaloaaa
