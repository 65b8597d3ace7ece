/-
  The reader of the drawn bytes, as chapter 1 has it (XPick, XOpen), over Base alone: pick, l6Open, of, l6Many, l91Word.
-/
import Derived.Test.YtdljndpobklkjaaDoorBase
import Derived.Deep.QuietTactic
import Derived.BigQuiet
import Derived.Outline
namespace Go.Proofs.YtdljndpobklkjaaDoor
set_option maxRecDepth 100000
open Go.RowKit

/-- the bytes of a slice, below block B -/
def Bys (w : World) (B : Nat) (A : Option Addr) (n : Nat) (bs : Nat → Nat) : Prop := n ≤ 2000 ∧ (∀ j, bs j < 256) ∧ ∀ j, j < n → ∃ ad : Addr, A = some ad ∧ ad.block < B ∧ w.cell? (ad.add j) = some (.int .u8 (bs j : Nat))
theorem Bys.keep {w w' : World} {B : Nat} {A : Option Addr} {n : Nat} {bs : Nat → Nat} (h : Bys w B A n bs) (hk : ∀ p : Addr, p.block < B → w'.cell? p = w.cell? p) : Bys w' B A n bs :=
  ⟨h.1, h.2.1, fun j hj => by
    obtain ⟨ad, e, hb, hc⟩ := h.2.2 j hj
    exact ⟨ad, e, hb, (hk _ (by rw [block_of_add]; exact hb)).trans hc⟩⟩

/-- the reader: block R, its bytes below block R, its place -/
def Rd (w : World) (R : Nat) (p : Nat) : Prop := ∃ (A : Option Addr) (n c : Nat) (bs : Nat → Nat), w.heap[R]? = some (.cells #[.slice A n c, .int .i64 (p : Int)] 71 (0, 0)) ∧ Bys w R A n bs

def PickPost (w : World) (R p : Nat) (m : Nat) (e : Ending) (w' : World) : Prop := ∃ v : Nat, e = .returned (.int .i64 v) ∧ v < m ∧ Rd w' R (p + 1) ∧ w.grownBy w' (some R)

theorem rd_next {w : World} {R p : Nat} {A : Option Addr} {n c : Nat} {bs : Nat → Nat} (hR : w.heap[R]? = some (.cells #[.slice A n c, .int .i64 (p : Int)] 71 (0, 0))) (hB : Bys w R A n bs) :
    Rd (w.setCell ⟨R, 1, none⟩ (.int .i64 ((p : Int) + 1))) R (p + 1) ∧ w.grownBy (w.setCell ⟨R, 1, none⟩ (.int .i64 ((p : Int) + 1))) (some R) := by
  refine ⟨⟨A, n, c, bs, ?_, hB.keep (fun q hq => World.cell?_setCell_other w _ q _ (fun e => by subst e; simp at hq))⟩, ⟨rfl, rfl, rfl, by simp [World.setCell], fun k _ hne => Below.heap_setCell w _ _ k (fun e => hne (by rw [e]))⟩⟩
  have := heap_setCell_same w R 1 _ 71 (.int .i64 ((p : Int) + 1)) hR
  simpa using this

set_option maxHeartbeats 1000000 in
theorem pick_any (R p : Nat) (m : Nat) (w : World) (h : Rd w R p) (hp : p ≤ 100000) (hm : 1 ≤ m) (hm2 : m ≤ 1000) :
    Calls Tryd.prog 48 #[.pointer (some ⟨R, 0, none⟩), .int .i64 m] w (PickPost w R p m) := by
  obtain ⟨A, n, c, bs, hR, hB⟩ := h
  have HN := Lib.hid (rd_next hR hB)
  have c0 : w.cell? ⟨R, 0, none⟩ = some (.slice A n c) := by simp [World.cell?, hR]
  have c1 : w.cell? ⟨R, 1, none⟩ = some (.int .i64 (p : Int)) := by simp [World.cell?, hR]
  have f1 : w.frozen? ⟨R, 1, none⟩ = false := by simp [World.frozen?, hR]
  have hn := hB.1
  have hd : decide ((m : Int) < 1) = false := by simp; omega
  by_cases hn0 : n = 0
  · subst hn0
    clear hB hR
    go_enter Tryd.func48, Tryd.ntmps48
    go_wp2
    go_ret
    exact ⟨0, rfl, by omega, HN.out.1, HN.out.2⟩
  · have hne : ((n : Int) == 0) = false := by simp; omega
    by_cases hlt : p < n
    · obtain ⟨ad, rfl, hb, hc⟩ := hB.2.2 p hlt
      have hby := hB.2.1 p
      have hcs : (w.setCell ⟨R, 1, none⟩ (.int .i64 ((p : Int) + 1))).cell? (ad.add p) = some (.int .u8 (bs p : Nat)) := (World.cell?_setCell_other w _ _ _ (fun e => by have := congrArg Addr.block e; rw [block_of_add] at this; simp at this; omega)).trans hc
      clear hB hR hc
      generalize bs p = x at hcs hby
      go_enter Tryd.func48, Tryd.ntmps48
      go_wp2
      go_ret
      refine ⟨x % m, ?_, ?_, HN.out.1, HN.out.2⟩
      · rw [Int.natCast_emod]; rfl
      · have := Nat.mod_lt x (show 0 < m by omega); omega
    · have hdl : decide ((p : Int) < (n : Int)) = false := by simp; omega
      go_enter Tryd.func48, Tryd.ntmps48
      go_wp2
      have hn1 : 0 < n := by omega
      have hk1 := Nat.mod_lt p hn1
      have hk2 := Nat.mod_lt (p * 7 + 3) hn1
      obtain ⟨ad, rfl, hb, hc⟩ := hB.2.2 (p % n) hk1
      obtain ⟨ad', ea, hb', hc'⟩ := hB.2.2 ((p * 7 + 3) % n) hk2
      injection ea with ea
      subst ea
      have hby := hB.2.1 (p % n)
      have hby' := hB.2.1 ((p * 7 + 3) % n)
      have hcs : ∀ j, (w.setCell ⟨R, 1, none⟩ (.int .i64 ((p : Int) + 1))).cell? (ad.add j) = w.cell? (ad.add j) := fun j => World.cell?_setCell_other w _ _ _ (fun e => by have := congrArg Addr.block e; rw [block_of_add] at this; simp at this; omega)
      have g1 := (hcs (p % n)).trans hc
      have g2 := (hcs ((p * 7 + 3) % n)).trans hc'
      have cR : (w.setCell ⟨R, 1, none⟩ (.int .i64 ((p : Int) + 1))).cell? ⟨R, 0, none⟩ = some (.slice (some ad) n c) := (World.cell?_setCell_other w _ _ _ (fun e => by cases e)).trans c0
      have q1 : (p : Int).tmod (n : Int) = ((p % n : Nat) : Int) := by rw [Int.tmod_eq_emod_of_nonneg (by omega), Int.natCast_emod]
      have q4 : ((p : Int) * 7 + 3).tmod (n : Int) = (((p * 7 + 3) % n : Nat) : Int) := by rw [Int.tmod_eq_emod_of_nonneg (by omega)]; push_cast; rfl
      have q5 : (p : Int).tdiv (n : Int) = ((p / n : Nat) : Int) := by rw [Int.tdiv_eq_ediv_of_nonneg (by omega)]; push_cast; rfl
      have hq : p / n ≤ 100000 := Nat.le_trans (Nat.div_le_self _ _) hp
      clear hcs hB hR hc hc'
      generalize bs (p % n) = x at g1 hby
      generalize bs ((p * 7 + 3) % n) = y at g2 hby'
      generalize p % n = k1 at *
      generalize (p * 7 + 3) % n = k2 at *
      generalize p / n = dq at *
      generalize w.setCell ⟨R, 1, none⟩ (.int .i64 ((p : Int) + 1)) = W at *
      go_quiet (fail)
      clear hb hb' q1 q4 q5 g1 g2 cR c0 hk1 hk2
      rw [show ((x : Int) * 131 + (y : Int) * 1117 + (p : Int) * 29 + (dq : Int) * 53) = ((x * 131 + y * 1117 + p * 29 + dq * 53 : Nat) : Int) by simp only [Int.natCast_add, Int.natCast_mul]; rfl]
      have hX : x * 131 + y * 1117 + p * 29 + dq * 53 < 20000000 := by omega
      generalize x * 131 + y * 1117 + p * 29 + dq * 53 = X at *
      have r1 : (X : Int).tdiv 64 = ((X / 64 : Nat) : Int) := by rw [Int.tdiv_eq_ediv_of_nonneg (by omega)]; push_cast; rfl
      have r2 : bits .xor .i64 (X : Int) ((X / 64 : Nat) : Int) = ((X ^^^ X / 64 : Nat) : Int) := i64_xor_nat X (X / 64) (by omega) (by omega)
      have hY : X ^^^ X / 64 < 2 ^ 25 := Nat.xor_lt_two_pow (by omega) (by omega)
      have hZ : X / 64 ≤ X := Nat.div_le_self _ _
      generalize X / 64 = Z at *
      generalize X ^^^ Z = Y at *
      have hY : Y < 33554432 := hY
      have r3 : (Y : Int).tmod (m : Int) = ((Y % m : Nat) : Int) := by rw [Int.tmod_eq_emod_of_nonneg (by omega), Int.natCast_emod]
      have hV := Nat.mod_lt Y (show 0 < m by omega)
      generalize Y % m = V at *
      have HM : Rd (W.drewN nq) R (p + 1) ∧ w.grownBy (W.drewN nq) (some R) := by
        obtain ⟨⟨A, n, c, bs, e1, e2⟩, g⟩ := HN.out
        exact ⟨⟨A, n, c, bs, e1, e2.keep (fun _ _ => rfl)⟩, ⟨g.1, g.2, g.3, g.4, g.5⟩⟩
      have HM := Lib.hid HM
      clear HN
      generalize W.drewN nq = W' at *
      go_wp2
      go_ret
      exact ⟨V, rfl, hV, HM.out.1, HM.out.2⟩

/-- the bytes of a slice that came in, below block B -/
def Src (w : World) (B : Nat) (A : Option Addr) (n : Nat) (bs : Nat → Nat) : Prop := (∀ j, bs j < 256) ∧ ∀ j, j < n → ∃ ad : Addr, A = some ad ∧ ad.block < B ∧ w.cell? (ad.add j) = some (.int .u8 (bs j : Nat))
theorem Src.keep {w w' : World} {B : Nat} {A : Option Addr} {n : Nat} {bs : Nat → Nat} (h : Src w B A n bs) (hk : ∀ p : Addr, p.block < B → w'.cell? p = w.cell? p) : Src w' B A n bs :=
  ⟨h.1, fun j hj => by
    obtain ⟨ad, e, hb, hc⟩ := h.2 j hj
    exact ⟨ad, e, hb, (hk _ (by rw [block_of_add]; exact hb)).trans hc⟩⟩
theorem Src.bys {w : World} {B : Nat} {A : Option Addr} {n m : Nat} {bs : Nat → Nat} (h : Src w B A n bs) (hm : m ≤ n) (h2 : m ≤ 2000) : Bys w B A m bs := ⟨h2, h.1, fun j hj => h.2 j (by omega)⟩

def OpenPost (w : World) (e : Ending) (w' : World) : Prop := ∃ R : Nat, e = .returned (.pointer (some ⟨R, 0, none⟩)) ∧ w.heap.size ≤ R ∧ R < w'.heap.size ∧ Rd w' R 0 ∧ Below w.heap.size w w'

theorem rd_new {w : World} {A : Option Addr} {n c : Nat} {bs : Nat → Nat} (h : Bys w w.heap.size A n bs) : Rd (w.alloc (.cells #[.slice A n c, .int .i64 0] 71)) w.heap.size 0 :=
  ⟨A, n, c, bs, heap_alloc_new w _, h.keep fun p hp => World.cell?_alloc_lt w _ p hp⟩

set_option maxHeartbeats 1000000 in
theorem open_any (A : Option Addr) (n c : Nat) (bs : Nat → Nat) (w : World) (h : Src w w.heap.size A n bs) (hnc : n ≤ c) (hn : n ≤ 1048576) :
    Calls Tryd.prog 47 #[.slice A n c] w (OpenPost w) := by
  by_cases hbig : 2000 < n
  · have hB := h.bys (m := 2000) (by omega) (by omega)
    have HR := Lib.hid (rd_new (c := c) hB)
    clear h hB
    go_enter Tryd.func47, Tryd.ntmps47
    go_wp2
    go_ret
    exact ⟨_, rfl, Nat.le_refl _, by simp, HR.out, (Below.refl _ _).alloc (Nat.le_refl _) _⟩
  · have hB := h.bys (m := n) (by omega) (by omega)
    have HR := Lib.hid (rd_new (c := c) hB)
    clear h hB
    go_enter Tryd.func47, Tryd.ntmps47
    go_wp2
    go_ret
    exact ⟨_, rfl, Nat.le_refl _, by simp, HR.out, (Below.refl _ _).alloc (Nat.le_refl _) _⟩
theorem gb_trans {w w1 w2 : World} {row : Option Nat} (h : w.grownBy w1 row) (h2 : w1.grownBy w2 row) : w.grownBy w2 row :=
  ⟨h2.os.trans h.os, h2.tape.trans h.tape, h2.output.trans h.output, Nat.le_trans h.size h2.size, fun k hk hne => (h2.block k (Nat.lt_of_lt_of_le hk h.size) hne).trans (h.block k hk hne)⟩
theorem gb_refl (w : World) (row : Option Nat) : w.grownBy w row := ⟨rfl, rfl, rfl, Nat.le_refl _, fun _ _ _ => rfl⟩
theorem gb_drewN {w w1 : World} {row : Option Nat} (h : w.grownBy w1 row) (n : Nat) : w.grownBy (w1.drewN n) row := ⟨h.os, h.tape, h.output, h.size, h.block⟩
/-- what grows blocks behind 'w' alone -/
theorem gb_far {w wr w1 : World} {row row' : Option Nat} (h : w.grownBy wr row) (h2 : wr.grownBy w1 row') (hf : ∀ g, row' = some g → w.heap.size ≤ g) : w.grownBy w1 row :=
  ⟨h2.os.trans h.os, h2.tape.trans h.tape, h2.output.trans h.output, Nat.le_trans h.size h2.size, fun k hk hne =>
    (h2.block k (Nat.lt_of_lt_of_le hk h.size) (fun e => by have := hf k e.symm; omega)).trans (h.block k hk hne)⟩
theorem gb_below {w wr w1 : World} {row : Option Nat} (h : w.grownBy wr row) (h2 : Below wr.heap.size wr w1) : w.grownBy w1 row :=
  gb_far (row' := none) h ⟨h2.os, h2.tape, h2.output, h2.size, fun k hk _ => h2.block k hk⟩ (fun _ e => by cases e)
theorem gb_alloc {w wr : World} {row : Option Nat} (h : w.grownBy wr row) (o : Obj) : w.grownBy (wr.alloc o) row :=
  gb_far (row' := none) h (World.grownBy_alloc _ _ _) (fun _ e => by cases e)
theorem Rd.lt {w : World} {R p : Nat} (h : Rd w R p) : R < w.heap.size := by
  obtain ⟨A, n, c, bs, e, _⟩ := h
  rcases Nat.lt_or_ge R w.heap.size with hlt | hge
  · exact hlt
  · rw [Array.getElem?_eq_none hge] at e; cases e
theorem Rd.grown {w w1 : World} {R p : Nat} {row : Option Nat} (h : Rd w R p) (hg : w.grownBy w1 row) (hf : ∀ g, row = some g → R < g) : Rd w1 R p := by
  have hl := h.lt
  obtain ⟨A, n, c, bs, e, hb⟩ := h
  have hk : ∀ k, k ≤ R → w1.heap[k]? = w.heap[k]? := fun k hk => hg.block k (by omega) (fun e => by have := hf k e.symm; omega)
  exact ⟨A, n, c, bs, (hk R (Nat.le_refl _)).trans e, hb.keep (fun q hq => World.cell?_of_block (hk _ (by omega)))⟩
theorem Rd.below {w w1 : World} {R p B : Nat} (h : Rd w R p) (hb : Below B w w1) (hR : R < B) : Rd w1 R p := by
  obtain ⟨A, n, c, bs, e, hy⟩ := h
  exact ⟨A, n, c, bs, (hb.block R hR).trans e, hy.keep (fun q hq => World.cell?_of_block (hb.block _ (by omega)))⟩

set_option maxHeartbeats 1000000 in
theorem of4_any (R p g n c b : Nat) (w : World) (h : Rd w R p) (hp : p ≤ 100000) (hn : 1 ≤ n) (hn2 : n ≤ 1000) (hne : g ≠ R) (hx : ∀ j, j < n → ∃ s : ByteArray, w.cell? ⟨g, j, none⟩ = some (.string s) ∧ s.size ≤ b) :
    Calls Tryd.prog 49 #[.pointer (some ⟨R, 0, none⟩), .slice (some ⟨g, 0, none⟩) n c] w fun e w' => ∃ s : ByteArray, e = .returned (.string s) ∧ s.size ≤ b ∧ Rd w' R (p + 1) ∧ w.grownBy w' (some R) := by
  go_enter Tryd.func49, Tryd.ntmps49
  go_wp2_with fail
  refine (pick_any R p n w h hp hn hn2).mono ?_
  rintro e w1 ⟨v, rfl, hv, hRd, hg⟩
  obtain ⟨s, hs, hb⟩ := hx v hv
  have hc : w1.cell? ⟨g, v, none⟩ = some (.string s) := hg.cell hs (fun e => hne (Option.some.inj e))
  have hvn : (v : Int) < (n : Int) := by omega
  clear h hx hs
  go_wp2
  go_ret
  exact ⟨s, rfl, hb, hRd, hg⟩
set_option maxHeartbeats 1000000 in
theorem many_any (w : World) : Calls Tryd.prog 50 #[.string ⟨#[97]⟩, .int .i64 25] w fun e w' => (∃ s : ByteArray, e = .returned (.string s) ∧ s.size ≤ 64) ∧ w' = w := by
  go_enter Tryd.func50, Tryd.ntmps50
  go_wp2
  go_loopw [0, 1, 5] (fun a i o wr => ∃ (sb ob : ByteArray) (k : Nat), a = .string sb ∧ i = .int .i64 (k : Int) ∧ o = .string ob ∧ wr = w ∧ k ≤ 25 ∧ sb.size ≤ 50 ∧ Hid (ob.size + k * sb.size ≤ 25)) (fun _ i _ _ => (intOf i).toNat)
  case atStart => exact ⟨_, _, 25, rfl, rfl, rfl, rfl, Nat.le_refl _, by decide, by show _ ≤ _; decide⟩
  case round =>
    obtain ⟨sb, ob, k, rfl, rfl, rfl, rfl, hk, hs, HX⟩ := hrel
    by_cases h0 : 0 < k
    · have hki : (0 : Int) < (k : Int) := by omega
      have hsz : ob.size + sb.size ≤ 25 := by
        have h1 := HX.out
        have h2 : 1 * sb.size ≤ k * sb.size := Nat.mul_le_mul_right _ h0
        omega
      have hs1 : sb.size + sb.size ≤ 9223372036854775807 := by omega
      have hs2 : ob.size + sb.size ≤ 9223372036854775807 := by omega
      have hss : (sb ++ sb).size = sb.size + sb.size := ByteArray.size_append ..
      have hos : (ob ++ sb).size = ob.size + sb.size := ByteArray.size_append ..
      obtain ⟨q, hq0⟩ : ∃ q, k = 2 * q ∨ k = 2 * q + 1 := ⟨k / 2, by omega⟩
      rcases hq0 with hq | hq
      · have hm : (k : Int) % 2 = 0 := by omega
        have hd : (k : Int) / 2 = (q : Int) := by omega
        have HN : Hid (ob.size + q * (sb ++ sb).size ≤ 25) := by
          have h1 := HX.out
          rw [hq, Nat.mul_assoc, Nat.two_mul, ← Nat.mul_add, ← hss] at h1
          exact h1
        have HSS := Lib.hid hss
        have HKQ : Hid (q < k) := by show _ < _; omega
        clear hss hos hq HX
        go_wp2
        go_roundw
        case rel => exact ⟨sb ++ sb, ob, q, rfl, rfl, rfl, trivial, by have := HKQ.out; omega, by have := HSS.out; omega, HN⟩
        case measure => have := HKQ.out; simp [intOf]; omega
      · have hm : (k : Int) % 2 = 1 := by omega
        have hd : (k : Int) / 2 = (q : Int) := by omega
        have HN : Hid ((ob ++ sb).size + q * (sb ++ sb).size ≤ 25) := by
          have h1 := HX.out
          show _ ≤ _
          rw [hq, Nat.add_mul, Nat.one_mul, Nat.mul_assoc, Nat.two_mul, ← Nat.mul_add, ← hss] at h1
          rw [hos]; omega
        have HSS := Lib.hid hss
        have HKQ : Hid (q < k) := by show _ < _; omega
        clear hss hos hq HX
        go_wp2
        go_roundw
        case rel => exact ⟨sb ++ sb, ob ++ sb, q, rfl, rfl, rfl, trivial, by have := HKQ.out; omega, by have := HSS.out; omega, HN⟩
        case measure => have := HKQ.out; simp [intOf]; omega
    · have hki : ¬ (0 : Int) < (k : Int) := by omega
      have HO : Hid (ob.size ≤ 64) := by have := HX.out; show _ ≤ _; omega
      clear HX
      go_wp2
      go_ret
      exact ⟨⟨ob, rfl, HO.out⟩, rfl⟩
end Go.Proofs.YtdljndpobklkjaaDoor
