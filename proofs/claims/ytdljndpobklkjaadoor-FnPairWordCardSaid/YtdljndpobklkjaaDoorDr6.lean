/-
  What is drawn of pairs and of swaps.
-/
import Derived.Test.YtdljndpobklkjaaDoorRr
import Derived.Test.YtdljndpobklkjaaDoorSx
import Derived.RegionTactic
import Derived.BigRegion
import Derived.Deep.RegionWith
namespace Go.Proofs.YtdljndpobklkjaaDoor
set_option maxRecDepth 100000
set_option linter.unusedVariables false
open Go.RowKit

theorem gb_set {w wr : World} {row : Option Nat} (h : w.grownBy wr row) (p : Addr) (v : Value) (hp : w.heap.size ≤ p.block) : w.grownBy (wr.setCell p v) row :=
  ⟨h.os, h.tape, h.output, by simp [World.setCell]; exact h.size, fun k hk hne => (Below.heap_setCell wr _ _ k (fun e => by have := e; omega)).trans (h.block k hk hne)⟩
theorem Rd.set6 {w : World} {R p : Nat} (h : Rd w R p) (a : Addr) (v : Value) (ha : R < a.block) : Rd (w.setCell a v) R p :=
  h.below ((Below.refl (R + 1) w).setCell (p := a) (by omega) v) (by omega)
theorem Rd.drew6 {w : World} {R p : Nat} (h : Rd w R p) : Rd w.drew R p := by
  obtain ⟨A, n, c, b, e1, e2⟩ := h
  exact ⟨A, n, c, b, e1, e2.keep (fun _ _ => rfl)⟩
theorem gb_drew6 {w wr : World} {row : Option Nat} (h : w.grownBy wr row) : w.grownBy wr.drew row := ⟨h.os, h.tape, h.output, h.size, h.block⟩
theorem Rd.al6 {w : World} {R p : Nat} (h : Rd w R p) (o : Obj) : Rd (w.alloc o) R p := h.grown (row := none) (World.grownBy_alloc _ _ _) (fun _ e => by cases e)
/-- what grows from the reader's block on lies behind -/
theorem gb_bel6 {w w1 w2 : World} {R : Nat} (hb : Below w.heap.size w w1) (hg : w1.grownBy w2 (some R)) (hR : w.heap.size ≤ R) : Below w.heap.size w w2 :=
  hb.grown hg hb.size (fun k e => by cases e; exact hR)
/-- a drawn text -/
def BitsP (w : World) (R p m : Nat) (e : Ending) (w' : World) : Prop := ∃ (s : ByteArray) (q : Nat), e = .returned (.string s) ∧ s.size ≤ 1000 ∧ q ≤ p + m + 1 ∧ Rd w' R q ∧ w.grownBy w' (some R)
/-- a drawn swap -/
def SwapP (w : World) (R p : Nat) (e : Ending) (w' : World) : Prop := ∃ (x y : ByteArray) (z : Bool) (q : Nat), e = .returned (.agg #[.string x, .string y, .bool z]) ∧ x.size ≤ 1200 ∧ y.size ≤ 1200 ∧ q ≤ p + 20 ∧ Rd w' R q ∧ w.grownBy w' (some R)
theorem two_cells6 (W : World) (a b : ByteArray) (h : a.size ≤ 64 ∧ b.size ≤ 64) : ∀ j, j < 2 → ∃ s : ByteArray, (W.alloc (.cells #[.string a, .string b] 9)).cell? ⟨W.heap.size, j, none⟩ = some (.string s) ∧ s.size ≤ 64 := fun j hj => by
  have hc : ∀ k, (W.alloc (.cells #[.string a, .string b] 9)).cell? ⟨W.heap.size, k, none⟩ = (#[Value.string a, .string b])[k]? := fun k => cell_of_row _ _ k _ 9 (0, 0) (heap_alloc_new W _)
  match j, hj with
  | 0, _ => exact ⟨a, hc 0, h.1⟩
  | 1, _ => exact ⟨b, hc 1, h.2⟩
set_option maxHeartbeats 1000000 in
theorem many6_any (s0 : ByteArray) (m : Nat) (hs0 : s0.size ≤ 1) (hm1 : 1 ≤ m) (hm : m ≤ 60) (w : World) : Calls Tryd.prog 50 #[.string s0, .int .i64 m] w fun e w' => (∃ s : ByteArray, e = .returned (.string s) ∧ s.size ≤ 64) ∧ w' = w := by
  have HM : Hid (m ≤ 60) := hm
  have HM1 : Hid (m * s0.size ≤ m) := by show _ ≤ _; calc m * s0.size ≤ m * 1 := Nat.mul_le_mul_left _ hs0
    _ = m := Nat.mul_one _
  have hsz : s0.size ≤ 120 := by omega
  go_enter Tryd.func50, Tryd.ntmps50
  go_wp2
  go_loopw [0, 1, 5] (fun a i o wr => ∃ (sb ob : ByteArray) (k : Nat), a = .string sb ∧ i = .int .i64 (k : Int) ∧ o = .string ob ∧ wr = w ∧ k ≤ m ∧ sb.size ≤ 120 ∧ Hid (ob.size + k * sb.size ≤ m)) (fun _ i _ _ => (RowKit.intOf i).toNat)
  case atStart => exact ⟨_, _, m, rfl, rfl, rfl, rfl, Nat.le_refl _, hsz, by show 0 + m * s0.size ≤ m; rw [Nat.zero_add]; exact HM1.out⟩
  case round =>
    obtain ⟨sb, ob, k, rfl, rfl, rfl, rfl, hk, hs, HX⟩ := hrel
    by_cases h0 : 0 < k
    · have hki : (0 : Int) < (k : Int) := by omega
      have hsz : ob.size + sb.size ≤ m := by
        have h1 := HX.out
        have h2 : 1 * sb.size ≤ k * sb.size := Nat.mul_le_mul_right _ h0
        omega
      have hs1 : sb.size + sb.size ≤ 9223372036854775807 := by omega
      have hs2 : ob.size + sb.size ≤ 9223372036854775807 := by omega
      have hss : (sb ++ sb).size = sb.size + sb.size := ByteArray.size_append ..
      have hos : (ob ++ sb).size = ob.size + sb.size := ByteArray.size_append ..
      obtain ⟨q, hq0⟩ : ∃ q, k = 2 * q ∨ k = 2 * q + 1 := ⟨k / 2, by omega⟩
      rcases hq0 with hq | hq
      · have hm : (k : Int) % 2 = 0 := by omega
        have hd : (k : Int) / 2 = (q : Int) := by omega
        have HN : Hid (ob.size + q * (sb ++ sb).size ≤ m) := by
          have h1 := HX.out
          rw [hq, Nat.mul_assoc, Nat.two_mul, ← Nat.mul_add, ← hss] at h1
          exact h1
        have HSS : Hid ((sb ++ sb).size ≤ 120) := by show _ ≤ _; have := HM.out; omega
        have HKQ : Hid (q < k ∧ q ≤ m) := by constructor <;> omega
        clear hss hos hq HX
        go_wp2
        go_roundw
        case rel => exact ⟨sb ++ sb, ob, q, rfl, rfl, rfl, trivial, HKQ.out.2, HSS.out, HN⟩
        case measure => have := HKQ.out.1; simp [RowKit.intOf]; omega
      · have hm : (k : Int) % 2 = 1 := by omega
        have hd : (k : Int) / 2 = (q : Int) := by omega
        have HN : Hid ((ob ++ sb).size + q * (sb ++ sb).size ≤ m) := by
          have h1 := HX.out
          show _ ≤ _
          rw [hq, Nat.add_mul, Nat.one_mul, Nat.mul_assoc, Nat.two_mul, ← Nat.mul_add, ← hss] at h1
          rw [hos]; omega
        have HSS : Hid ((sb ++ sb).size ≤ 120) := by show _ ≤ _; have := HM.out; omega
        have HKQ : Hid (q < k ∧ q ≤ m) := by constructor <;> omega
        clear hss hos hq HX
        go_wp2
        go_roundw
        case rel => exact ⟨sb ++ sb, ob ++ sb, q, rfl, rfl, rfl, trivial, HKQ.out.2, HSS.out, HN⟩
        case measure => have := HKQ.out.1; simp [RowKit.intOf]; omega
    · have hki : ¬ (0 : Int) < (k : Int) := by omega
      have HO : Hid (ob.size ≤ 64) := by have := HX.out; have := HM.out; show _ ≤ _; omega
      clear HX
      go_wp2
      go_ret
      exact ⟨⟨ob, rfl, HO.out⟩, rfl⟩
set_option maxHeartbeats 1000000 in
theorem l92Bits_any (R p most : Nat) (w : World) (h : Rd w R p) (hp : p ≤ 50000) (hm : most ≤ 10) :
    Calls Tryd.prog 62 #[.pointer (some ⟨R, 0, none⟩), .int .i64 (most : Int)] w (BitsP w R p most) := by
  have hRl := h.lt
  have HP := Lib.hid (pick_any R p (most + 1) w h (by omega) (by omega) (by omega))
  have HF2 : Hid (∀ (q : Nat) (W : World), Rd W R q → q ≤ 60000 → Calls Tryd.prog 49 #[.pointer (some ⟨R, 0, none⟩), .slice (some ⟨W.heap.size, 0, none⟩) 2 2] (W.alloc (.cells #[.string ⟨#[48]⟩, .string ⟨#[49]⟩] 9)) fun e w' => ∃ t : ByteArray, e = .returned (.string t) ∧ t.size ≤ 64 ∧ Rd w' R (q + 1) ∧ (W.alloc (.cells #[.string ⟨#[48]⟩, .string ⟨#[49]⟩] 9)).grownBy w' (some R)) := fun q W hW hq =>
    of4_any R q W.heap.size 2 2 64 _ (hW.al6 _) (by omega) (by omega) (by omega) (by have := hW.lt; omega) (two_cells6 W ⟨#[48]⟩ ⟨#[49]⟩ ⟨by decide, by decide⟩)
  clear h
  go_enter Tryd.func62, Tryd.ntmps62
  go_wp2_with fail
  refine HP.out.mono ?_
  rintro e w1 ⟨v, rfl, hv, hRd1, hg1⟩
  clear HP
  go_wp2
  go_loopw [5, 7] (fun o i wr => ∃ (k : Nat) (s : ByteArray), k ≤ v ∧ i = .int .i64 (k : Int) ∧ o = .string s ∧ s.size ≤ 64 * k ∧ Rd wr R (p + 1 + k) ∧ w.grownBy wr (some R)) (fun _ i _ => v - (RowKit.intOf i).toNat)
  case atStart => exact ⟨0, ⟨#[]⟩, Nat.zero_le _, rfl, rfl, by decide, hRd1, hg1⟩
  case round =>
    clear hRd1 hg1
    obtain ⟨k, s, hk, rfl, rfl, hs, hRd, hg⟩ := hrel
    by_cases hlt : k < v
    · have hki : (k : Int) < (v : Int) := by omega
      have HC := Lib.hid (HF2.out _ wr hRd (by omega))
      go_wp2_with fail
      refine HC.out.mono ?_
      rintro e w2 ⟨t, rfl, ht, hRd2, hg2⟩
      have hgw := gb_trans (gb_alloc hg _) hg2
      have hsum : s.size + t.size ≤ 9223372036854775807 := by omega
      have HSZ : Hid ((s ++ t).size ≤ 64 * (k + 1)) := by show _ ≤ _; rw [ByteArray.size_append]; omega
      clear hg2 hRd hg HC
      go_wp2
      go_roundw
      case rel => exact ⟨k + 1, s ++ t, by omega, by go_num, rfl, HSZ.out, hRd2, hgw⟩
      case measure => simp [RowKit.intOf]; omega
    · obtain rfl : k = v := by omega
      go_wp2
      go_ret
      exact ⟨s, _, rfl, by omega, by omega, hRd, hg⟩
set_option maxHeartbeats 2000000 in
theorem l92Swap_any (R p : Nat) (w : World) (h : Rd w R p) (hp : p ≤ 40000) : Calls Tryd.prog 53 #[.pointer (some ⟨R, 0, none⟩)] w (SwapP w R p) := by
  have hRl := h.lt
  have hRd0 := h.al6 (.cells #[.string ⟨#[]⟩, .string ⟨#[]⟩, .bool false] 32)
  have HG0 := Lib.hid (World.grownBy_alloc w (.cells #[.string ⟨#[]⟩, .string ⟨#[]⟩, .bool false] 32) (some R))
  have HZ0 := Lib.hid (Blk.new w 32 #[.string ⟨#[]⟩, .string ⟨#[]⟩, .bool false])
  have HW := Lib.hid (l92Bits_any R p 3 _ hRd0 (by omega) (by omega))
  have hz : (w.alloc (.cells #[.string ⟨#[]⟩, .string ⟨#[]⟩, .bool false] 32)).heap.size = w.heap.size + 1 := by simp
  clear h hRd0
  go_enter Tryd.func53, Tryd.ntmps53
  go_wp2_with fail
  refine HW.out.mono ?_
  rintro e w1 ⟨s1, q1, rfl, hs1, hq1, hRd1, hg1⟩
  have HZ1 := Lib.hid (HZ0.out.grown hg1 (fun e => by injection e with e; omega))
  have HG1 := Lib.hid (gb_trans HG0.out hg1)
  have hsz1 := hg1.size
  rw [hz] at hsz1
  have HW := Lib.hid (l92Bits_any R q1 3 w1 hRd1 (by omega) (by omega))
  clear HZ0 HG0 hg1 hz hRd1
  go_wp2_with fail
  refine HW.out.mono ?_
  rintro e w2 ⟨s2, q2, rfl, hs2, hq2, hRd2, hg2⟩
  have HZ2 := Lib.hid ((HZ1.out.grown hg2 (fun e => by injection e with e; omega)).alloc (.cells #[.string s1, .string s2, .bool false] 32))
  have HS2 := Lib.hid (Blk.new w2 32 #[.string s1, .string s2, .bool false])
  have HG2 := Lib.hid (gb_alloc (gb_trans HG1.out hg2) (.cells #[.string s1, .string s2, .bool false] 32))
  have hsz2 := hg2.size
  have HW := Lib.hid (pick_any R q2 12 _ (hRd2.al6 (.cells #[.string s1, .string s2, .bool false] 32)) (by omega) (by omega) (by omega))
  clear HZ1 HG1 hg2 hRd2
  go_wp2_with fail
  refine HW.out.mono ?_
  rintro e w3 ⟨x, rfl, hx, hRd3, hg3⟩
  have HZ := Lib.hid (HZ2.out.grown hg3 (fun e => by injection e with e; omega))
  have HS := Lib.hid (HS2.out.grown hg3 (fun e => by injection e with e; omega))
  have HG := Lib.hid (gb_trans HG2.out hg3)
  have HRd := Lib.hid hRd3
  have hne : w2.heap.size ≠ w.heap.size := by omega
  have hne' : w.heap.size ≠ w2.heap.size := by omega
  have HB1 : Hid (R < w.heap.size) := hRl
  have HB2 : Hid (w.heap.size ≤ w2.heap.size ∧ R < w2.heap.size) := ⟨by omega, by omega⟩
  have HQ : Hid (q2 ≤ p + 8) := by show _ ≤ _; omega
  clear HZ2 HS2 HG2 hg3 hRd3 HW hsz1 hsz2 hq1 hq2 hRl
  have a0 : w3.cell? ⟨w.heap.size, 0, none⟩ = some (.string ⟨#[]⟩) := HZ.out.cell 0
  have a1 : w3.cell? ⟨w.heap.size, 1, none⟩ = some (.string ⟨#[]⟩) := HZ.out.cell 1
  have a2 : w3.cell? ⟨w.heap.size, 2, none⟩ = some (.bool false) := HZ.out.cell 2
  have c0 : w3.cell? ⟨w2.heap.size, 0, none⟩ = some (.string s1) := HS.out.cell 0
  have c1 : w3.cell? ⟨w2.heap.size, 1, none⟩ = some (.string s2) := HS.out.cell 1
  have c2 : w3.cell? ⟨w2.heap.size, 2, none⟩ = some (.bool false) := HS.out.cell 2
  have f0 : w3.frozen? ⟨w.heap.size, 0, none⟩ = false := HZ.out.frozen 0
  have f1 : w3.frozen? ⟨w.heap.size, 1, none⟩ = false := HZ.out.frozen 1
  have f2 : w3.frozen? ⟨w.heap.size, 2, none⟩ = false := HZ.out.frozen 2
  have g0 : w3.frozen? ⟨w2.heap.size, 0, none⟩ = false := HS.out.frozen 0
  have g1 : w3.frozen? ⟨w2.heap.size, 1, none⟩ = false := HS.out.frozen 1
  have g2 : w3.frozen? ⟨w2.heap.size, 2, none⟩ = false := HS.out.frozen 2
  have la := HZ.out.lt
  have lc := HS.out.lt
  by_cases h0 : x = 0
  · have e0 : ((x : Int) == 0) = true := by rw [beq_iff_eq]; omega
    clear h0
    go_wp2
    exact bodyPost_ret (v := .agg #[.string ⟨#[]⟩, .string ⟨#[]⟩, .bool true]) (by simp [results, Tryd.results53, go_sem, a0, a1, a2]) rfl ⟨⟨#[]⟩, ⟨#[]⟩, true, q2 + 1, rfl, by decide, by decide, by have := HQ.out; omega, (((HRd.out.set6 _ _ (by show R < w.heap.size; exact HB1.out)).set6 _ _ (by show R < w.heap.size; exact HB1.out)).set6 _ _ (by show R < w.heap.size; exact HB1.out)), (gb_set (gb_set (gb_set HG.out _ _ (Nat.le_refl _)) _ _ (Nat.le_refl _)) _ _ (Nat.le_refl _))⟩
  by_cases h1 : x = 1
  · have e0 : ((x : Int) == 0) = false := by rw [beq_eq_false_iff_ne]; omega
    have e1 : ((x : Int) == 1) = true := by rw [beq_iff_eq]; omega
    clear h0 h1
    have HMY := Lib.hid (fun W : World => many6_any ⟨#[48]⟩ 18 (by decide) (by decide) (by decide) W)
    have HSZ : Hid (∀ t : ByteArray, t.size ≤ 64 → s1.size + t.size ≤ 9223372036854775807 ∧ (s1 ++ t).size ≤ 1200) := fun t ht => ⟨by omega, by rw [ByteArray.size_append]; omega⟩
    go_wp2_with fail
    go_region_with (go_at_call 50; refine (HMY.out _).mono ?_; rintro e v ⟨⟨t, rfl, ht⟩, rfl⟩; obtain ⟨hsum, happ⟩ := HSZ.out t ht)
    all_goals go_wp2
    all_goals exact bodyPost_ret (v := .agg #[.string (s1 ++ t), .string s2, .bool false]) (by simp [results, Tryd.results53, go_sem, a0, a1, a2]) rfl ⟨s1 ++ t, s2, false, q2 + 1, rfl, happ, by omega, by have := HQ.out; omega, (((((HRd.out.set6 _ _ (by show R < w2.heap.size; exact HB2.out.2)).set6 _ _ (by show R < w.heap.size; exact HB1.out)).set6 _ _ (by show R < w.heap.size; exact HB1.out)).set6 _ _ (by show R < w.heap.size; exact HB1.out))).drew6, gb_drew6 (gb_set (gb_set (gb_set (gb_set HG.out _ _ (by show w.heap.size ≤ w2.heap.size; exact HB2.out.1)) _ _ (Nat.le_refl _)) _ _ (Nat.le_refl _)) _ _ (Nat.le_refl _))⟩
  by_cases h2 : x = 2
  · have e0 : ((x : Int) == 0) = false := by rw [beq_eq_false_iff_ne]; omega
    have e1 : ((x : Int) == 1) = false := by rw [beq_eq_false_iff_ne]; omega
    have e2 : ((x : Int) == 2) = true := by rw [beq_iff_eq]; omega
    clear h0 h1 h2
    go_wp2
    exact bodyPost_ret (v := .agg #[.string s1, .string s1, .bool false]) (by simp [results, Tryd.results53, go_sem, a0, a1, a2]) rfl ⟨s1, s1, false, q2 + 1, rfl, by omega, by omega, by have := HQ.out; omega, ((((HRd.out.set6 _ _ (by show R < w2.heap.size; exact HB2.out.2)).set6 _ _ (by show R < w.heap.size; exact HB1.out)).set6 _ _ (by show R < w.heap.size; exact HB1.out)).set6 _ _ (by show R < w.heap.size; exact HB1.out)), (gb_set (gb_set (gb_set (gb_set HG.out _ _ (by show w.heap.size ≤ w2.heap.size; exact HB2.out.1)) _ _ (Nat.le_refl _)) _ _ (Nat.le_refl _)) _ _ (Nat.le_refl _))⟩
  by_cases h3 : x = 3
  · have e0 : ((x : Int) == 0) = false := by rw [beq_eq_false_iff_ne]; omega
    have e1 : ((x : Int) == 1) = false := by rw [beq_eq_false_iff_ne]; omega
    have e2 : ((x : Int) == 2) = false := by rw [beq_eq_false_iff_ne]; omega
    have e3 : ((x : Int) == 3) = true := by rw [beq_iff_eq]; omega
    clear h0 h1 h2 h3
    have HW := Lib.hid (pick_any R (q2 + 1) 2 w3 HRd.out (by have := HQ.out; omega) (by omega) (by omega))
    go_wp2_with fail
    refine HW.out.mono ?_
    rintro e w4 ⟨y, rfl, hy, hRd4, hg4⟩
    have hl4 := HB1.out
    have hl5 := HB2.out.2
    have HZ := Lib.hid (HZ.out.grown hg4 (fun e => by injection e with e; omega))
    have HS := Lib.hid (HS.out.grown hg4 (fun e => by injection e with e; omega))
    have HG := Lib.hid (gb_trans HG.out hg4)
    have HRd := Lib.hid hRd4
    clear HW hg4 hRd4 hl4 hl5 a0 a1 a2 c0 c1 c2 f0 f1 f2 g0 g1 g2 la lc
    have a0 : w4.cell? ⟨w.heap.size, 0, none⟩ = some (.string ⟨#[]⟩) := HZ.out.cell 0
    have a1 : w4.cell? ⟨w.heap.size, 1, none⟩ = some (.string ⟨#[]⟩) := HZ.out.cell 1
    have a2 : w4.cell? ⟨w.heap.size, 2, none⟩ = some (.bool false) := HZ.out.cell 2
    have c0 : w4.cell? ⟨w2.heap.size, 0, none⟩ = some (.string s1) := HS.out.cell 0
    have c1 : w4.cell? ⟨w2.heap.size, 1, none⟩ = some (.string s2) := HS.out.cell 1
    have c2 : w4.cell? ⟨w2.heap.size, 2, none⟩ = some (.bool false) := HS.out.cell 2
    have f0 : w4.frozen? ⟨w.heap.size, 0, none⟩ = false := HZ.out.frozen 0
    have f1 : w4.frozen? ⟨w.heap.size, 1, none⟩ = false := HZ.out.frozen 1
    have f2 : w4.frozen? ⟨w.heap.size, 2, none⟩ = false := HZ.out.frozen 2
    have g0 : w4.frozen? ⟨w2.heap.size, 0, none⟩ = false := HS.out.frozen 0
    have g1 : w4.frozen? ⟨w2.heap.size, 1, none⟩ = false := HS.out.frozen 1
    have g2 : w4.frozen? ⟨w2.heap.size, 2, none⟩ = false := HS.out.frozen 2
    have la := HZ.out.lt
    have lc := HS.out.lt
    obtain ⟨b, hb⟩ : ∃ b : Bool, ((y : Int) == 0) = b := ⟨_, rfl⟩
    go_wp2
    exact bodyPost_ret (v := .agg #[.string s1, .string s2, .bool b]) (by simp [results, Tryd.results53, go_sem, a0, a1, a2]) rfl ⟨s1, s2, b, q2 + 1 + 1, rfl, by omega, by omega, by have := HQ.out; omega, ((((HRd.out.set6 _ _ (by show R < w2.heap.size; exact HB2.out.2)).set6 _ _ (by show R < w.heap.size; exact HB1.out)).set6 _ _ (by show R < w.heap.size; exact HB1.out)).set6 _ _ (by show R < w.heap.size; exact HB1.out)), (gb_set (gb_set (gb_set (gb_set HG.out _ _ (by show w.heap.size ≤ w2.heap.size; exact HB2.out.1)) _ _ (Nat.le_refl _)) _ _ (Nat.le_refl _)) _ _ (Nat.le_refl _))⟩
  have e0 : ((x : Int) == 0) = false := by rw [beq_eq_false_iff_ne]; omega
  have e1 : ((x : Int) == 1) = false := by rw [beq_eq_false_iff_ne]; omega
  have e2 : ((x : Int) == 2) = false := by rw [beq_eq_false_iff_ne]; omega
  have e3 : ((x : Int) == 3) = false := by rw [beq_eq_false_iff_ne]; omega
  clear h0 h1 h2 h3
  go_wp2
  exact bodyPost_ret (v := .agg #[.string s1, .string s2, .bool false]) (by simp [results, Tryd.results53, go_sem, a0, a1, a2]) rfl ⟨s1, s2, false, q2 + 1, rfl, by omega, by omega, by have := HQ.out; omega, (((HRd.out.set6 _ _ (by show R < w.heap.size; exact HB1.out)).set6 _ _ (by show R < w.heap.size; exact HB1.out)).set6 _ _ (by show R < w.heap.size; exact HB1.out)), (gb_set (gb_set (gb_set HG.out _ _ (Nat.le_refl _)) _ _ (Nat.le_refl _)) _ _ (Nat.le_refl _))⟩
end Go.Proofs.YtdljndpobklkjaaDoor
