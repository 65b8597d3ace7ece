/-
  The draws of the laws of chapter 6.
-/
import Derived.Test.YtdljndpobklkjaaDoorDr6
namespace Go.Proofs.YtdljndpobklkjaaDoor
set_option maxRecDepth 100000
set_option linter.unusedVariables false
open Go.RowKit

def FourP (w : World) (e : Ending) (w' : World) : Prop := ∃ i j k l : Int, e = .returned (.tuple #[.int .i64 i, .int .i64 j, .int .i64 k, .int .i64 l]) ∧ Below w.heap.size w w'
def WordP (w : World) (e : Ending) (w' : World) : Prop := ∃ s : ByteArray, e = .returned (.string s) ∧ s.size ≤ 4000 ∧ Below w.heap.size w w'
def OneP (w : World) (e : Ending) (w' : World) : Prop := ∃ (x y : ByteArray) (z : Bool), e = .returned (.agg #[.string x, .string y, .bool z]) ∧ x.size ≤ 4000 ∧ y.size ≤ 4000 ∧ Below w.heap.size w w'
def TwoP (w : World) (e : Ending) (w' : World) : Prop := ∃ (x y x' y' : ByteArray) (z z' : Bool), e = .returned (.tuple #[.agg #[.string x, .string y, .bool z], .agg #[.string x', .string y', .bool z']]) ∧ x.size ≤ 4000 ∧ y.size ≤ 4000 ∧ x'.size ≤ 4000 ∧ y'.size ≤ 4000 ∧ Below w.heap.size w w'
def ActP (w : World) (e : Ending) (w' : World) : Prop := ∃ (x y t : ByteArray) (z : Bool), e = .returned (.tuple #[.agg #[.string x, .string y, .bool z], .string t]) ∧ x.size ≤ 4000 ∧ y.size ≤ 4000 ∧ t.size ≤ 4000 ∧ Below w.heap.size w w'
set_option maxHeartbeats 2000000 in
theorem l92Four_any (A : Option Addr) (n c : Nat) (b : Nat → Nat) (w : World) (h : Src w w.heap.size A n b) (hnc : n ≤ c) (hn : n ≤ 1048576) :
    Calls Tryd.prog 44 #[.slice A n c] w (FourP w) := by
  go_enter Tryd.func44, Tryd.ntmps44
  go_wp2_with fail
  refine (open_any _ _ _ _ _ h hnc hn).mono ?_
  rintro e w1 ⟨R, rfl, hR, hRl, hRd, hb⟩
  have HP : Hid (∀ (q m : Nat) (W : World), Rd W R q → q ≤ 1000 → 1 ≤ m → m ≤ 1000 → Calls Tryd.prog 48 #[.pointer (some ⟨R, 0, none⟩), .int .i64 m] W (PickPost W R q m)) := fun q m W hW hq h1 h2 => pick_any R q m W hW (by omega) h1 h2
  have HR : Hid (w.heap.size ≤ R) := hR
  clear h hnc hn hR hRl
  have HC := Lib.hid (HP.out 0 6 w1 hRd (by omega) (by omega) (by omega))
  have HB := Lib.hid hb
  clear hb hRd
  go_wp2_with fail
  refine HC.out.mono ?_
  rintro e w2 ⟨i, rfl, hi, hRd, hg⟩
  have HB := Lib.hid (gb_bel6 HB.out hg HR.out)
  have HC := Lib.hid (HP.out _ 6 w2 hRd (by omega) (by omega) (by omega))
  clear hg hRd
  go_wp2_with fail
  refine HC.out.mono ?_
  rintro e w3 ⟨j, rfl, hj, hRd, hg⟩
  have HB := Lib.hid (gb_bel6 HB.out hg HR.out)
  have HC := Lib.hid (HP.out _ 3 w3 hRd (by omega) (by omega) (by omega))
  clear hg hRd
  go_wp2_with fail
  refine HC.out.mono ?_
  rintro e w4 ⟨x, rfl, hx, hRd, hg⟩
  have HB := Lib.hid (gb_bel6 HB.out hg HR.out)
  clear hg
  by_cases hx0 : x = 0
  · have hxi : ((x : Int) == 0) = true := by rw [hx0]; rfl
    have HC := Lib.hid (HP.out _ 4 w4 hRd (by omega) (by omega) (by omega))
    clear hx0 hRd
    go_wp2_with fail
    refine HC.out.mono ?_
    rintro e w5 ⟨k, rfl, hk, hRd, hg⟩
    have HB := Lib.hid (gb_bel6 HB.out hg HR.out)
    clear hg hRd
    go_wp2
    exact bodyPost_ret (v := .tuple #[.int .i64 ((i : Int) + (k : Int)), .int .i64 ((j : Int) + (k : Int)), .int .i64 (i : Int), .int .i64 (j : Int)]) (by simp [results, Tryd.results44, go_sem]) rfl ⟨_, _, _, _, rfl, HB.out⟩
  · have hxi : ((x : Int) == 0) = false := by rw [beq_eq_false_iff_ne]; omega
    have HC := Lib.hid (HP.out _ 6 w4 hRd (by omega) (by omega) (by omega))
    clear hx0 hRd
    go_wp2_with fail
    refine HC.out.mono ?_
    rintro e w5 ⟨k1, rfl, hk1, hRd, hg⟩
    have HB := Lib.hid (gb_bel6 HB.out hg HR.out)
    have HC := Lib.hid (HP.out _ 24 w5 hRd (by omega) (by omega) (by omega))
    clear hg hRd
    go_wp2_with fail
    refine HC.out.mono ?_
    rintro e w6 ⟨k2, rfl, hk2, hRd, hg⟩
    have HB := Lib.hid (gb_bel6 HB.out hg HR.out)
    have HC := Lib.hid (HP.out _ 6 w6 hRd (by omega) (by omega) (by omega))
    have hd2 : (k2 : Int).tdiv 23 = ((k2 / 23 : Nat) : Int) := by rw [Int.tdiv_eq_ediv_of_nonneg (by omega)]; push_cast; rfl
    have hd3 : k2 / 23 ≤ 1 := by omega
    clear hg hRd
    generalize k2 / 23 = d2 at *
    go_wp2_with fail
    refine HC.out.mono ?_
    rintro e w7 ⟨k3, rfl, hk3, hRd, hg⟩
    have HB := Lib.hid (gb_bel6 HB.out hg HR.out)
    have HC := Lib.hid (HP.out _ 24 w7 hRd (by omega) (by omega) (by omega))
    clear hg hRd
    go_wp2_with fail
    refine HC.out.mono ?_
    rintro e w8 ⟨k4, rfl, hk4, hRd, hg⟩
    have HB := Lib.hid (gb_bel6 HB.out hg HR.out)
    have hd4 : (k4 : Int).tdiv 23 = ((k4 / 23 : Nat) : Int) := by rw [Int.tdiv_eq_ediv_of_nonneg (by omega)]; push_cast; rfl
    have hd5 : k4 / 23 ≤ 1 := by omega
    clear hg hRd
    generalize k4 / 23 = d4 at *
    go_wp2
    exact bodyPost_ret (v := .tuple #[.int .i64 (i : Int), .int .i64 (j : Int), .int .i64 ((k1 : Int) + (d2 : Int) * 996), .int .i64 ((k3 : Int) - (d4 : Int))]) (by simp [results, Tryd.results44, go_sem]) rfl ⟨_, _, _, _, rfl, HB.out⟩
set_option maxHeartbeats 1000000 in
theorem drawPairTimes_any (A : Option Addr) (n c : Nat) (b : Nat → Nat) (w : World) (h : Src w w.heap.size A n b) (hnc : n ≤ c) (hn : n ≤ 1048576) :
    Calls Tryd.prog 14 #[.slice A n c] w (FourP w) := by
  go_enter Tryd.func14, Tryd.ntmps14
  go_wp2_with fail
  refine (l92Four_any _ _ _ _ _ h hnc hn).mono ?_
  rintro e w1 ⟨i, j, k, l, rfl, hb⟩
  have HB := Lib.hid hb
  clear h hnc hn hb
  go_wp2
  exact bodyPost_ret (v := .tuple #[.int .i64 i, .int .i64 j, .int .i64 k, .int .i64 l]) (by simp [results, Tryd.results14, go_sem]) rfl ⟨_, _, _, _, rfl, HB.out⟩
set_option maxHeartbeats 1000000 in
theorem drawPairBelow_any (A : Option Addr) (n c : Nat) (b : Nat → Nat) (w : World) (h : Src w w.heap.size A n b) (hnc : n ≤ c) (hn : n ≤ 1048576) :
    Calls Tryd.prog 20 #[.slice A n c] w (FourP w) := by
  go_enter Tryd.func20, Tryd.ntmps20
  go_wp2_with fail
  refine (l92Four_any _ _ _ _ _ h hnc hn).mono ?_
  rintro e w1 ⟨i, j, k, l, rfl, hb⟩
  have HB := Lib.hid hb
  clear h hnc hn hb
  go_wp2
  exact bodyPost_ret (v := .tuple #[.int .i64 i, .int .i64 j, .int .i64 k, .int .i64 l]) (by simp [results, Tryd.results20, go_sem]) rfl ⟨_, _, _, _, rfl, HB.out⟩
set_option maxHeartbeats 2000000 in
theorem drawPairWord_any (A : Option Addr) (n c : Nat) (b : Nat → Nat) (w : World) (h : Src w w.heap.size A n b) (hnc : n ≤ c) (hn : n ≤ 1048576) :
    Calls Tryd.prog 17 #[.slice A n c] w (WordP w) := by
  have HMY := Lib.hid (fun W : World => many6_any ⟨#[113]⟩ 41 (by decide) (by decide) (by decide) W)
  go_enter Tryd.func17, Tryd.ntmps17
  go_wp2_with fail
  refine (open_any _ _ _ _ _ h hnc hn).mono ?_
  rintro e w1 ⟨R, rfl, hR, hRl, hRd, hb⟩
  have HF2 : Hid (∀ (q : Nat) (W : World), Rd W R q → q ≤ 1000 → Calls Tryd.prog 49 #[.pointer (some ⟨R, 0, none⟩), .slice (some ⟨W.heap.size, 0, none⟩) 2 2] (W.alloc (.cells #[.string ⟨#[112]⟩, .string ⟨#[113]⟩] 9)) fun e w' => ∃ t : ByteArray, e = .returned (.string t) ∧ t.size ≤ 64 ∧ Rd w' R (q + 1) ∧ (W.alloc (.cells #[.string ⟨#[112]⟩, .string ⟨#[113]⟩] 9)).grownBy w' (some R)) := fun q W hW hq =>
    of4_any R q W.heap.size 2 2 64 _ (hW.al6 _) (by omega) (by omega) (by omega) (by have := hW.lt; omega) (two_cells6 W ⟨#[112]⟩ ⟨#[113]⟩ ⟨by decide, by decide⟩)
  have HF3 : Hid (∀ (q : Nat) (W : World) (s : ByteArray), s.size ≤ 64 → Rd W R q → q ≤ 1000 → Calls Tryd.prog 49 #[.pointer (some ⟨R, 0, none⟩), .slice (some ⟨W.heap.size, 0, none⟩) 2 2] (W.alloc (.cells #[.string ⟨#[114]⟩, .string s] 9)) fun e w' => ∃ t : ByteArray, e = .returned (.string t) ∧ t.size ≤ 64 ∧ Rd w' R (q + 1) ∧ (W.alloc (.cells #[.string ⟨#[114]⟩, .string s] 9)).grownBy w' (some R)) := fun q W s hs hW hq =>
    of4_any R q W.heap.size 2 2 64 _ (hW.al6 _) (by omega) (by omega) (by omega) (by have := hW.lt; omega) (two_cells6 W ⟨#[114]⟩ s ⟨by decide, hs⟩)
  have HPK : Hid (∀ (q : Nat) (W : World), Rd W R q → q ≤ 1000 → Calls Tryd.prog 48 #[.pointer (some ⟨R, 0, none⟩), .int .i64 24] W (PickPost W R q 24)) := fun q W hW hq => pick_any R q 24 W hW (by omega) (by omega) (by omega)
  have HR : Hid (w.heap.size ≤ R) := hR
  have HC := Lib.hid (pick_any R 0 12 w1 hRd (by omega) (by omega) (by omega))
  have HB := Lib.hid hb
  clear h hnc hn hR hRl hb hRd
  go_wp2_with fail
  refine HC.out.mono ?_
  rintro e w2 ⟨v, rfl, hv, hRd2, hg2⟩
  have HG := Lib.hid hg2
  clear HC hg2
  go_wp2
  go_loopw [4, 6] (fun o i wr => ∃ (k : Nat) (s : ByteArray), k ≤ v ∧ i = .int .i64 (k : Int) ∧ o = .string s ∧ s.size ≤ 64 * k ∧ Rd wr R (1 + k) ∧ w1.grownBy wr (some R)) (fun _ i _ => v - (RowKit.intOf i).toNat)
  case atStart => exact ⟨0, ⟨#[]⟩, Nat.zero_le _, rfl, rfl, by decide, hRd2, HG.out⟩
  case round =>
    clear hRd2
    obtain ⟨k, s, hk, rfl, rfl, hs, hRd, hg⟩ := hrel
    by_cases hlt : k < v
    · have hki : (k : Int) < (v : Int) := by omega
      have HC := Lib.hid (HF2.out _ wr hRd (by omega))
      go_wp2_with fail
      refine HC.out.mono ?_
      rintro e w3 ⟨t, rfl, ht, hRd2, hg2⟩
      have hgw := gb_trans (gb_alloc hg _) hg2
      have hsum : s.size + t.size ≤ 9223372036854775807 := by omega
      have HSZ : Hid ((s ++ t).size ≤ 64 * (k + 1)) := by show _ ≤ _; rw [ByteArray.size_append]; omega
      clear hg2 hRd hg HC
      go_wp2
      go_roundw
      case rel => exact ⟨k + 1, s ++ t, by omega, by go_num, rfl, HSZ.out, hRd2, hgw⟩
      case measure => simp [RowKit.intOf]; omega
    · obtain rfl : k = v := by omega
      have HC := Lib.hid (HPK.out _ wr hRd (by omega))
      go_wp2_with fail
      refine HC.out.mono ?_
      rintro e w3 ⟨x, rfl, hx, hRd2, hg2⟩
      have hgw := gb_trans hg hg2
      clear hg2 hRd hg HC
      by_cases h0 : x = 0
      · have h0i : ((x : Int) == 0) = true := by rw [h0]; rfl
        clear h0
        go_wp2_with fail
        refine (HMY.out w3).mono ?_
        rintro e w4 ⟨⟨t, rfl, ht⟩, rfl⟩
        have HC := Lib.hid (HF3.out _ w4 t ht hRd2 (by omega))
        go_wp2_with fail
        refine HC.out.mono ?_
        rintro e w5 ⟨t2, rfl, ht2, hRd4, hg4⟩
        have HBB := Lib.hid (gb_bel6 HB.out (gb_trans (gb_alloc hgw _) hg4) HR.out)
        have hsum : s.size + t2.size ≤ 9223372036854775807 := by omega
        have HSZ : Hid ((s ++ t2).size ≤ 4000) := by show _ ≤ _; rw [ByteArray.size_append]; omega
        clear hgw hg4 HC
        go_wp2
        go_ret
        exact ⟨s ++ t2, rfl, HSZ.out, HBB.out⟩
      · have h0i : ((x : Int) == 0) = false := by rw [beq_eq_false_iff_ne]; omega
        have HBB := Lib.hid (gb_bel6 HB.out hgw HR.out)
        clear h0 hgw
        go_wp2
        go_ret
        exact ⟨s, rfl, by omega, HBB.out⟩
set_option maxHeartbeats 2000000 in
theorem drawSwapIn_any (A : Option Addr) (n c : Nat) (b : Nat → Nat) (w : World) (h : Src w w.heap.size A n b) (hnc : n ≤ c) (hn : n ≤ 1048576) :
    Calls Tryd.prog 23 #[.slice A n c] w (OneP w) := by
  have h0 : Src (w.alloc (.cells #[.string ⟨#[]⟩, .string ⟨#[]⟩, .bool false] 32)) (w.alloc (.cells #[.string ⟨#[]⟩, .string ⟨#[]⟩, .bool false] 32)).heap.size A n b := by
    refine ⟨h.1, fun j hj => ?_⟩
    obtain ⟨ad, e, hb, hc⟩ := h.2 j hj
    exact ⟨ad, e, by simp; omega, (World.cell?_alloc_lt w _ _ (by rw [block_of_add]; exact hb)).trans hc⟩
  have HO := Lib.hid (open_any _ _ _ _ _ h0 hnc hn)
  have HZ0 := Lib.hid (Blk.new w 32 #[.string ⟨#[]⟩, .string ⟨#[]⟩, .bool false])
  have HB0 : Hid (Below w.heap.size w (w.alloc (.cells #[.string ⟨#[]⟩, .string ⟨#[]⟩, .bool false] 32))) := (Below.refl _ _).alloc (Nat.le_refl _) _
  clear h h0 hnc hn
  go_enter Tryd.func23, Tryd.ntmps23
  go_wp2_with fail
  refine HO.out.mono ?_
  rintro e w1 ⟨R, rfl, hR, hRl, hRd, hb⟩
  have HZ1 := Lib.hid (HZ0.out.below hb HZ0.out.lt)
  have HB1 := Lib.hid (HB0.out.trans (hb.mono HB0.out.size))
  have HR : Hid (w.heap.size < R) := by have := HZ0.out.lt; show _ < _; omega
  have HC := Lib.hid (l92Swap_any R 0 w1 hRd (by omega))
  clear HO HZ0 HB0 hR hRl hRd hb
  go_wp2_with fail
  refine HC.out.mono ?_
  rintro e w2 ⟨x, y, z, q, rfl, hx, hy, hq, hRd, hg⟩
  have HZ2 := Lib.hid (HZ1.out.grown hg (fun e => by injection e with e; have := HR.out; omega))
  have HB2 := Lib.hid (gb_bel6 HB1.out hg (Nat.le_of_lt HR.out))
  clear HC HZ1 HB1 hRd hg hq
  have c00 : w2.cell? ⟨w.heap.size, 0, none⟩ = some (.string ⟨#[]⟩) := HZ2.out.cell 0
  have c01 : w2.cell? ⟨w.heap.size, 1, none⟩ = some (.string ⟨#[]⟩) := HZ2.out.cell 1
  have c02 : w2.cell? ⟨w.heap.size, 2, none⟩ = some (.bool false) := HZ2.out.cell 2
  have f00 : w2.frozen? ⟨w.heap.size, 0, none⟩ = false := HZ2.out.frozen 0
  have f01 : w2.frozen? ⟨w.heap.size, 1, none⟩ = false := HZ2.out.frozen 1
  have f02 : w2.frozen? ⟨w.heap.size, 2, none⟩ = false := HZ2.out.frozen 2
  have l0 := HZ2.out.lt
  go_wp2
  exact bodyPost_ret (v := .agg #[.string x, .string y, .bool z]) (by simp [results, Tryd.results23, go_sem, c00, c01, c02]) rfl ⟨x, y, z, rfl, by omega, by omega, ((HB2.out.setCell (p := ⟨w.heap.size, 0, none⟩) (Nat.le_refl _) _).setCell (p := ⟨w.heap.size, 1, none⟩) (Nat.le_refl _) _).setCell (p := ⟨w.heap.size, 2, none⟩) (Nat.le_refl _) _⟩
set_option maxHeartbeats 2000000 in
theorem drawSwapTurned_any (A : Option Addr) (n c : Nat) (b : Nat → Nat) (w : World) (h : Src w w.heap.size A n b) (hnc : n ≤ c) (hn : n ≤ 1048576) :
    Calls Tryd.prog 31 #[.slice A n c] w (OneP w) := by
  have h0 : Src (w.alloc (.cells #[.string ⟨#[]⟩, .string ⟨#[]⟩, .bool false] 32)) (w.alloc (.cells #[.string ⟨#[]⟩, .string ⟨#[]⟩, .bool false] 32)).heap.size A n b := by
    refine ⟨h.1, fun j hj => ?_⟩
    obtain ⟨ad, e, hb, hc⟩ := h.2 j hj
    exact ⟨ad, e, by simp; omega, (World.cell?_alloc_lt w _ _ (by rw [block_of_add]; exact hb)).trans hc⟩
  have HO := Lib.hid (open_any _ _ _ _ _ h0 hnc hn)
  have HZ0 := Lib.hid (Blk.new w 32 #[.string ⟨#[]⟩, .string ⟨#[]⟩, .bool false])
  have HB0 : Hid (Below w.heap.size w (w.alloc (.cells #[.string ⟨#[]⟩, .string ⟨#[]⟩, .bool false] 32))) := (Below.refl _ _).alloc (Nat.le_refl _) _
  clear h h0 hnc hn
  go_enter Tryd.func31, Tryd.ntmps31
  go_wp2_with fail
  refine HO.out.mono ?_
  rintro e w1 ⟨R, rfl, hR, hRl, hRd, hb⟩
  have HZ1 := Lib.hid (HZ0.out.below hb HZ0.out.lt)
  have HB1 := Lib.hid (HB0.out.trans (hb.mono HB0.out.size))
  have HR : Hid (w.heap.size < R) := by have := HZ0.out.lt; show _ < _; omega
  have HC := Lib.hid (l92Swap_any R 0 w1 hRd (by omega))
  clear HO HZ0 HB0 hR hRl hRd hb
  go_wp2_with fail
  refine HC.out.mono ?_
  rintro e w2 ⟨x, y, z, q, rfl, hx, hy, hq, hRd, hg⟩
  have HZ2 := Lib.hid (HZ1.out.grown hg (fun e => by injection e with e; have := HR.out; omega))
  have HB2 := Lib.hid (gb_bel6 HB1.out hg (Nat.le_of_lt HR.out))
  clear HC HZ1 HB1 hRd hg hq
  have c00 : w2.cell? ⟨w.heap.size, 0, none⟩ = some (.string ⟨#[]⟩) := HZ2.out.cell 0
  have c01 : w2.cell? ⟨w.heap.size, 1, none⟩ = some (.string ⟨#[]⟩) := HZ2.out.cell 1
  have c02 : w2.cell? ⟨w.heap.size, 2, none⟩ = some (.bool false) := HZ2.out.cell 2
  have f00 : w2.frozen? ⟨w.heap.size, 0, none⟩ = false := HZ2.out.frozen 0
  have f01 : w2.frozen? ⟨w.heap.size, 1, none⟩ = false := HZ2.out.frozen 1
  have f02 : w2.frozen? ⟨w.heap.size, 2, none⟩ = false := HZ2.out.frozen 2
  have l0 := HZ2.out.lt
  go_wp2
  exact bodyPost_ret (v := .agg #[.string x, .string y, .bool z]) (by simp [results, Tryd.results31, go_sem, c00, c01, c02]) rfl ⟨x, y, z, rfl, by omega, by omega, ((HB2.out.setCell (p := ⟨w.heap.size, 0, none⟩) (Nat.le_refl _) _).setCell (p := ⟨w.heap.size, 1, none⟩) (Nat.le_refl _) _).setCell (p := ⟨w.heap.size, 2, none⟩) (Nat.le_refl _) _⟩
set_option maxHeartbeats 2000000 in
theorem drawSwapIdem_any (A : Option Addr) (n c : Nat) (b : Nat → Nat) (w : World) (h : Src w w.heap.size A n b) (hnc : n ≤ c) (hn : n ≤ 1048576) :
    Calls Tryd.prog 33 #[.slice A n c] w (OneP w) := by
  have h0 : Src (w.alloc (.cells #[.string ⟨#[]⟩, .string ⟨#[]⟩, .bool false] 32)) (w.alloc (.cells #[.string ⟨#[]⟩, .string ⟨#[]⟩, .bool false] 32)).heap.size A n b := by
    refine ⟨h.1, fun j hj => ?_⟩
    obtain ⟨ad, e, hb, hc⟩ := h.2 j hj
    exact ⟨ad, e, by simp; omega, (World.cell?_alloc_lt w _ _ (by rw [block_of_add]; exact hb)).trans hc⟩
  have HO := Lib.hid (open_any _ _ _ _ _ h0 hnc hn)
  have HZ0 := Lib.hid (Blk.new w 32 #[.string ⟨#[]⟩, .string ⟨#[]⟩, .bool false])
  have HB0 : Hid (Below w.heap.size w (w.alloc (.cells #[.string ⟨#[]⟩, .string ⟨#[]⟩, .bool false] 32))) := (Below.refl _ _).alloc (Nat.le_refl _) _
  clear h h0 hnc hn
  go_enter Tryd.func33, Tryd.ntmps33
  go_wp2_with fail
  refine HO.out.mono ?_
  rintro e w1 ⟨R, rfl, hR, hRl, hRd, hb⟩
  have HZ1 := Lib.hid (HZ0.out.below hb HZ0.out.lt)
  have HB1 := Lib.hid (HB0.out.trans (hb.mono HB0.out.size))
  have HR : Hid (w.heap.size < R) := by have := HZ0.out.lt; show _ < _; omega
  have HC := Lib.hid (l92Swap_any R 0 w1 hRd (by omega))
  clear HO HZ0 HB0 hR hRl hRd hb
  go_wp2_with fail
  refine HC.out.mono ?_
  rintro e w2 ⟨x, y, z, q, rfl, hx, hy, hq, hRd, hg⟩
  have HZ2 := Lib.hid (HZ1.out.grown hg (fun e => by injection e with e; have := HR.out; omega))
  have HB2 := Lib.hid (gb_bel6 HB1.out hg (Nat.le_of_lt HR.out))
  clear HC HZ1 HB1 hRd hg hq
  have c00 : w2.cell? ⟨w.heap.size, 0, none⟩ = some (.string ⟨#[]⟩) := HZ2.out.cell 0
  have c01 : w2.cell? ⟨w.heap.size, 1, none⟩ = some (.string ⟨#[]⟩) := HZ2.out.cell 1
  have c02 : w2.cell? ⟨w.heap.size, 2, none⟩ = some (.bool false) := HZ2.out.cell 2
  have f00 : w2.frozen? ⟨w.heap.size, 0, none⟩ = false := HZ2.out.frozen 0
  have f01 : w2.frozen? ⟨w.heap.size, 1, none⟩ = false := HZ2.out.frozen 1
  have f02 : w2.frozen? ⟨w.heap.size, 2, none⟩ = false := HZ2.out.frozen 2
  have l0 := HZ2.out.lt
  go_wp2
  exact bodyPost_ret (v := .agg #[.string x, .string y, .bool z]) (by simp [results, Tryd.results33, go_sem, c00, c01, c02]) rfl ⟨x, y, z, rfl, by omega, by omega, ((HB2.out.setCell (p := ⟨w.heap.size, 0, none⟩) (Nat.le_refl _) _).setCell (p := ⟨w.heap.size, 1, none⟩) (Nat.le_refl _) _).setCell (p := ⟨w.heap.size, 2, none⟩) (Nat.le_refl _) _⟩
set_option maxHeartbeats 2000000 in
theorem l92Swaps_any (A : Option Addr) (n c : Nat) (b : Nat → Nat) (w : World) (h : Src w w.heap.size A n b) (hnc : n ≤ c) (hn : n ≤ 1048576) :
    Calls Tryd.prog 57 #[.slice A n c] w (TwoP w) := by
  have hz1 : (w.alloc (.cells #[.string ⟨#[]⟩, .string ⟨#[]⟩, .bool false] 32)).heap.size = w.heap.size + 1 := by simp
  have h0 : Src ((w.alloc (.cells #[.string ⟨#[]⟩, .string ⟨#[]⟩, .bool false] 32)).alloc (.cells #[.string ⟨#[]⟩, .string ⟨#[]⟩, .bool false] 32)) ((w.alloc (.cells #[.string ⟨#[]⟩, .string ⟨#[]⟩, .bool false] 32)).alloc (.cells #[.string ⟨#[]⟩, .string ⟨#[]⟩, .bool false] 32)).heap.size A n b := by
    refine ⟨h.1, fun j hj => ?_⟩
    obtain ⟨ad, e, hb, hc⟩ := h.2 j hj
    exact ⟨ad, e, by simp; omega, (World.cell?_alloc_lt _ _ _ (by rw [block_of_add, hz1]; omega)).trans ((World.cell?_alloc_lt w _ _ (by rw [block_of_add]; exact hb)).trans hc)⟩
  have HO := Lib.hid (open_any _ _ _ _ _ h0 hnc hn)
  have HZ0 := Lib.hid ((Blk.new w 32 #[.string ⟨#[]⟩, .string ⟨#[]⟩, .bool false]).alloc (.cells #[.string ⟨#[]⟩, .string ⟨#[]⟩, .bool false] 32))
  have HY0 : Hid (Blk ((w.alloc (.cells #[.string ⟨#[]⟩, .string ⟨#[]⟩, .bool false] 32)).alloc (.cells #[.string ⟨#[]⟩, .string ⟨#[]⟩, .bool false] 32)) (w.heap.size + 1) 32 #[.string ⟨#[]⟩, .string ⟨#[]⟩, .bool false]) := by
    have := Blk.new (w.alloc (.cells #[.string ⟨#[]⟩, .string ⟨#[]⟩, .bool false] 32)) 32 #[.string ⟨#[]⟩, .string ⟨#[]⟩, .bool false]
    rwa [hz1] at this
  have HB0 : Hid (Below w.heap.size w ((w.alloc (.cells #[.string ⟨#[]⟩, .string ⟨#[]⟩, .bool false] 32)).alloc (.cells #[.string ⟨#[]⟩, .string ⟨#[]⟩, .bool false] 32))) := ((Below.refl _ _).alloc (Nat.le_refl _) _).alloc (by simp) _
  clear h h0 hnc hn hz1
  go_enter Tryd.func57, Tryd.ntmps57
  go_wp2_with fail
  refine HO.out.mono ?_
  rintro e w1 ⟨R, rfl, hR, hRl, hRd, hb⟩
  have HZ1 := Lib.hid (HZ0.out.below hb HZ0.out.lt)
  have HY1 := Lib.hid (HY0.out.below hb HY0.out.lt)
  have HB1 := Lib.hid (HB0.out.trans (hb.mono HB0.out.size))
  have HR : Hid (w.heap.size + 1 < R) := by have := HY0.out.lt; show _ < _; omega
  have HC := Lib.hid (l92Swap_any R 0 w1 hRd (by omega))
  clear HO HZ0 HY0 HB0 hR hRl hRd hb
  go_wp2_with fail
  refine HC.out.mono ?_
  rintro e w2 ⟨x, y, z, q, rfl, hx, hy, hq, hRd, hg⟩
  have HS2 := Lib.hid (Blk.new w2 32 #[.string x, .string y, .bool z])
  have HZ2 := Lib.hid ((HZ1.out.grown hg (fun e => by injection e with e; have := HR.out; omega)).alloc (.cells #[.string x, .string y, .bool z] 32))
  have HY2 := Lib.hid ((HY1.out.grown hg (fun e => by injection e with e; have := HR.out; omega)).alloc (.cells #[.string x, .string y, .bool z] 32))
  have HB2 := Lib.hid (gb_bel6 HB1.out hg (by have := HR.out; omega))
  have HB3 := Lib.hid (HB2.out.alloc HB2.out.size (.cells #[.string x, .string y, .bool z] 32))
  have HS3 : Hid (R < w2.heap.size) := hRd.lt
  have HC := Lib.hid (pick_any R q 3 _ (hRd.al6 (.cells #[.string x, .string y, .bool z] 32)) (by omega) (by omega) (by omega))
  clear HZ1 HY1 HB1 hRd hg
  go_wp2_with fail
  refine HC.out.mono ?_
  rintro e w3 ⟨v, rfl, hv, hRd, hg⟩
  have HZ := Lib.hid (HZ2.out.grown hg (fun e => by injection e with e; have := HR.out; omega))
  have HY := Lib.hid (HY2.out.grown hg (fun e => by injection e with e; have := HR.out; omega))
  have HS := Lib.hid (HS2.out.grown hg (fun e => by injection e with e; have := HS3.out; omega))
  have HB := Lib.hid (gb_bel6 HB3.out hg (by have := HR.out; omega))
  have HN : Hid (w2.heap.size ≠ w.heap.size ∧ w2.heap.size ≠ w.heap.size + 1 ∧ w.heap.size ≠ w2.heap.size ∧ w.heap.size + 1 ≠ w2.heap.size) := by
    have h1 := HR.out
    have h2 := HS3.out
    exact ⟨by omega, by omega, by omega, by omega⟩
  obtain ⟨n1, n2, n3, n4⟩ := HN.out
  have hq1 : q + 1 ≤ 100 := by omega
  clear HC HZ2 HY2 HS2 HB2 HB3 hg hq
  by_cases hv0 : v = 0
  · have hvi : ((v : Int) == 0) = true := by rw [hv0]; rfl
    have HC := Lib.hid (l92Bits_any R (q + 1) 2 w3 hRd (by omega) (by omega))
    clear hv0 hRd
    go_wp2_with fail
    refine HC.out.mono ?_
    rintro e w4 ⟨t, q4, rfl, ht, hq4, hRd, hg⟩
    have HZ := Lib.hid (HZ.out.grown hg (fun e => by injection e with e; have := HR.out; omega))
    have HY := Lib.hid (HY.out.grown hg (fun e => by injection e with e; have := HR.out; omega))
    have HS := Lib.hid (HS.out.grown hg (fun e => by injection e with e; have := HS3.out; omega))
    have HB := Lib.hid (gb_bel6 HB.out hg (by have := HR.out; omega))
    clear HC hRd hg hq4
    have c00 : w4.cell? ⟨w.heap.size, 0, none⟩ = some (.string ⟨#[]⟩) := HZ.out.cell 0
    have c01 : w4.cell? ⟨w.heap.size, 1, none⟩ = some (.string ⟨#[]⟩) := HZ.out.cell 1
    have c02 : w4.cell? ⟨w.heap.size, 2, none⟩ = some (.bool false) := HZ.out.cell 2
    have f00 : w4.frozen? ⟨w.heap.size, 0, none⟩ = false := HZ.out.frozen 0
    have f01 : w4.frozen? ⟨w.heap.size, 1, none⟩ = false := HZ.out.frozen 1
    have f02 : w4.frozen? ⟨w.heap.size, 2, none⟩ = false := HZ.out.frozen 2
    have l0 := HZ.out.lt
    have c10 : w4.cell? ⟨w.heap.size + 1, 0, none⟩ = some (.string ⟨#[]⟩) := HY.out.cell 0
    have c11 : w4.cell? ⟨w.heap.size + 1, 1, none⟩ = some (.string ⟨#[]⟩) := HY.out.cell 1
    have c12 : w4.cell? ⟨w.heap.size + 1, 2, none⟩ = some (.bool false) := HY.out.cell 2
    have f10 : w4.frozen? ⟨w.heap.size + 1, 0, none⟩ = false := HY.out.frozen 0
    have f11 : w4.frozen? ⟨w.heap.size + 1, 1, none⟩ = false := HY.out.frozen 1
    have f12 : w4.frozen? ⟨w.heap.size + 1, 2, none⟩ = false := HY.out.frozen 2
    have l1 := HY.out.lt
    have c20 : w4.cell? ⟨w2.heap.size, 0, none⟩ = some (.string x) := HS.out.cell 0
    have c21 : w4.cell? ⟨w2.heap.size, 1, none⟩ = some (.string y) := HS.out.cell 1
    have c22 : w4.cell? ⟨w2.heap.size, 2, none⟩ = some (.bool z) := HS.out.cell 2
    have f20 : w4.frozen? ⟨w2.heap.size, 0, none⟩ = false := HS.out.frozen 0
    have f21 : w4.frozen? ⟨w2.heap.size, 1, none⟩ = false := HS.out.frozen 1
    have f22 : w4.frozen? ⟨w2.heap.size, 2, none⟩ = false := HS.out.frozen 2
    have l2 := HS.out.lt
    have hsx : x.size + t.size ≤ 9223372036854775807 := by omega
    have hsy : y.size + t.size ≤ 9223372036854775807 := by omega
    have HSX : Hid ((x ++ t).size ≤ 4000 ∧ (y ++ t).size ≤ 4000) := by show _ ∧ _; rw [ByteArray.size_append, ByteArray.size_append]; exact ⟨by omega, by omega⟩
    go_wp2_with fail
    go_region
    go_wp2
    exact bodyPost_ret (v := .tuple #[.agg #[.string (x ++ t), .string (y ++ t), .bool false], .agg #[.string x, .string y, .bool z]]) (by simp [results, Tryd.results57, go_sem, c00, c01, c02, c10, c11, c12]) rfl ⟨_, _, _, _, _, _, rfl, HSX.out.1, HSX.out.2, by omega, by omega, (((((((HB.out.setCell (p := ⟨w.heap.size, 0, none⟩) (Nat.le_refl _) _).setCell (p := ⟨w.heap.size, 1, none⟩) (Nat.le_refl _) _).setCell (p := ⟨w.heap.size, 2, none⟩) (Nat.le_refl _) _).setCell (p := ⟨w.heap.size + 1, 0, none⟩) (Nat.le_succ _) _).setCell (p := ⟨w.heap.size + 1, 1, none⟩) (Nat.le_succ _) _).setCell (p := ⟨w.heap.size + 1, 2, none⟩) (Nat.le_succ _) _)).drew⟩
  · have hvi : ((v : Int) == 0) = false := by rw [beq_eq_false_iff_ne]; omega
    have HC : Hid (∀ W, Rd W R (q + 1) → Calls Tryd.prog 53 #[.pointer (some ⟨R, 0, none⟩)] W (SwapP W R (q + 1))) := fun W hW => l92Swap_any R (q + 1) W hW (by omega)
    have HRd := Lib.hid hRd
    clear hv0 hRd
    have c00 : w3.cell? ⟨w.heap.size, 0, none⟩ = some (.string ⟨#[]⟩) := HZ.out.cell 0
    have c01 : w3.cell? ⟨w.heap.size, 1, none⟩ = some (.string ⟨#[]⟩) := HZ.out.cell 1
    have c02 : w3.cell? ⟨w.heap.size, 2, none⟩ = some (.bool false) := HZ.out.cell 2
    have f00 : w3.frozen? ⟨w.heap.size, 0, none⟩ = false := HZ.out.frozen 0
    have f01 : w3.frozen? ⟨w.heap.size, 1, none⟩ = false := HZ.out.frozen 1
    have f02 : w3.frozen? ⟨w.heap.size, 2, none⟩ = false := HZ.out.frozen 2
    have l0 := HZ.out.lt
    have c10 : w3.cell? ⟨w.heap.size + 1, 0, none⟩ = some (.string ⟨#[]⟩) := HY.out.cell 0
    have c11 : w3.cell? ⟨w.heap.size + 1, 1, none⟩ = some (.string ⟨#[]⟩) := HY.out.cell 1
    have c12 : w3.cell? ⟨w.heap.size + 1, 2, none⟩ = some (.bool false) := HY.out.cell 2
    have f10 : w3.frozen? ⟨w.heap.size + 1, 0, none⟩ = false := HY.out.frozen 0
    have f11 : w3.frozen? ⟨w.heap.size + 1, 1, none⟩ = false := HY.out.frozen 1
    have f12 : w3.frozen? ⟨w.heap.size + 1, 2, none⟩ = false := HY.out.frozen 2
    have l1 := HY.out.lt
    have c20 : w3.cell? ⟨w2.heap.size, 0, none⟩ = some (.string x) := HS.out.cell 0
    have c21 : w3.cell? ⟨w2.heap.size, 1, none⟩ = some (.string y) := HS.out.cell 1
    have c22 : w3.cell? ⟨w2.heap.size, 2, none⟩ = some (.bool z) := HS.out.cell 2
    have f20 : w3.frozen? ⟨w2.heap.size, 0, none⟩ = false := HS.out.frozen 0
    have f21 : w3.frozen? ⟨w2.heap.size, 1, none⟩ = false := HS.out.frozen 1
    have f22 : w3.frozen? ⟨w2.heap.size, 2, none⟩ = false := HS.out.frozen 2
    have l2 := HS.out.lt
    go_wp2_with fail
    go_region_with (go_at_call 53; refine (HC.out _ (by first | exact HRd.out | exact HRd.out.drew6)).mono ?_; rintro e w4 ⟨x', y', z', q4, rfl, hx', hy', hq4, hRd4, hg4⟩; have hg5 : w3.grownBy w4 (some R) := ⟨hg4.os, hg4.tape, hg4.output, hg4.size, hg4.block⟩; have HZ := Lib.hid (HZ.out.grown hg5 (fun e => by injection e with e; have := HR.out; omega)); have HY := Lib.hid (HY.out.grown hg5 (fun e => by injection e with e; have := HR.out; omega)); have HS := Lib.hid (HS.out.grown hg5 (fun e => by injection e with e; have := HS3.out; omega)); have HB := Lib.hid (gb_bel6 HB.out hg5 (by have := HR.out; omega)); clear hg4 hg5 hRd4 hq4 c00 c01 c02 c10 c11 c12 c20 c21 c22 f00 f01 f02 f10 f11 f12 f20 f21 f22 l0 l1 l2; have c00 : w4.cell? ⟨w.heap.size, 0, none⟩ = some (.string ⟨#[]⟩) := HZ.out.cell 0; have c01 : w4.cell? ⟨w.heap.size, 1, none⟩ = some (.string ⟨#[]⟩) := HZ.out.cell 1; have c02 : w4.cell? ⟨w.heap.size, 2, none⟩ = some (.bool false) := HZ.out.cell 2; have f00 : w4.frozen? ⟨w.heap.size, 0, none⟩ = false := HZ.out.frozen 0; have f01 : w4.frozen? ⟨w.heap.size, 1, none⟩ = false := HZ.out.frozen 1; have f02 : w4.frozen? ⟨w.heap.size, 2, none⟩ = false := HZ.out.frozen 2; have l0 := HZ.out.lt; have c10 : w4.cell? ⟨w.heap.size + 1, 0, none⟩ = some (.string ⟨#[]⟩) := HY.out.cell 0; have c11 : w4.cell? ⟨w.heap.size + 1, 1, none⟩ = some (.string ⟨#[]⟩) := HY.out.cell 1; have c12 : w4.cell? ⟨w.heap.size + 1, 2, none⟩ = some (.bool false) := HY.out.cell 2; have f10 : w4.frozen? ⟨w.heap.size + 1, 0, none⟩ = false := HY.out.frozen 0; have f11 : w4.frozen? ⟨w.heap.size + 1, 1, none⟩ = false := HY.out.frozen 1; have f12 : w4.frozen? ⟨w.heap.size + 1, 2, none⟩ = false := HY.out.frozen 2; have l1 := HY.out.lt; have c20 : w4.cell? ⟨w2.heap.size, 0, none⟩ = some (.string x) := HS.out.cell 0; have c21 : w4.cell? ⟨w2.heap.size, 1, none⟩ = some (.string y) := HS.out.cell 1; have c22 : w4.cell? ⟨w2.heap.size, 2, none⟩ = some (.bool z) := HS.out.cell 2; have f20 : w4.frozen? ⟨w2.heap.size, 0, none⟩ = false := HS.out.frozen 0; have f21 : w4.frozen? ⟨w2.heap.size, 1, none⟩ = false := HS.out.frozen 1; have f22 : w4.frozen? ⟨w2.heap.size, 2, none⟩ = false := HS.out.frozen 2; have l2 := HS.out.lt)
    all_goals go_wp2
    all_goals exact bodyPost_ret (v := .tuple #[.agg #[.string x, .string y, .bool z], .agg #[.string x', .string y', .bool z']]) (by simp [results, Tryd.results57, go_sem, c00, c01, c02, c10, c11, c12]) rfl ⟨_, _, _, _, _, _, rfl, by omega, by omega, by omega, by omega, by first | exact (((((((HB.out.setCell (p := ⟨w.heap.size, 0, none⟩) (Nat.le_refl _) _).setCell (p := ⟨w.heap.size, 1, none⟩) (Nat.le_refl _) _).setCell (p := ⟨w.heap.size, 2, none⟩) (Nat.le_refl _) _).setCell (p := ⟨w.heap.size + 1, 0, none⟩) (Nat.le_succ _) _).setCell (p := ⟨w.heap.size + 1, 1, none⟩) (Nat.le_succ _) _).setCell (p := ⟨w.heap.size + 1, 2, none⟩) (Nat.le_succ _) _)) | exact (((((((HB.out.setCell (p := ⟨w.heap.size, 0, none⟩) (Nat.le_refl _) _).setCell (p := ⟨w.heap.size, 1, none⟩) (Nat.le_refl _) _).setCell (p := ⟨w.heap.size, 2, none⟩) (Nat.le_refl _) _).setCell (p := ⟨w.heap.size + 1, 0, none⟩) (Nat.le_succ _) _).setCell (p := ⟨w.heap.size + 1, 1, none⟩) (Nat.le_succ _) _).setCell (p := ⟨w.heap.size + 1, 2, none⟩) (Nat.le_succ _) _)).drew⟩
set_option maxHeartbeats 2000000 in
theorem drawSwapTimes_any (A : Option Addr) (n c : Nat) (b : Nat → Nat) (w : World) (h : Src w w.heap.size A n b) (hnc : n ≤ c) (hn : n ≤ 1048576) :
    Calls Tryd.prog 28 #[.slice A n c] w (TwoP w) := by
  have hz1 : (w.alloc (.cells #[.string ⟨#[]⟩, .string ⟨#[]⟩, .bool false] 32)).heap.size = w.heap.size + 1 := by simp
  have h0 : Src ((w.alloc (.cells #[.string ⟨#[]⟩, .string ⟨#[]⟩, .bool false] 32)).alloc (.cells #[.string ⟨#[]⟩, .string ⟨#[]⟩, .bool false] 32)) ((w.alloc (.cells #[.string ⟨#[]⟩, .string ⟨#[]⟩, .bool false] 32)).alloc (.cells #[.string ⟨#[]⟩, .string ⟨#[]⟩, .bool false] 32)).heap.size A n b := by
    refine ⟨h.1, fun j hj => ?_⟩
    obtain ⟨ad, e, hb, hc⟩ := h.2 j hj
    exact ⟨ad, e, by simp; omega, (World.cell?_alloc_lt _ _ _ (by rw [block_of_add, hz1]; omega)).trans ((World.cell?_alloc_lt w _ _ (by rw [block_of_add]; exact hb)).trans hc)⟩
  have HO := Lib.hid (l92Swaps_any _ _ _ _ _ h0 hnc hn)
  have HZ0 := Lib.hid ((Blk.new w 32 #[.string ⟨#[]⟩, .string ⟨#[]⟩, .bool false]).alloc (.cells #[.string ⟨#[]⟩, .string ⟨#[]⟩, .bool false] 32))
  have HY0 : Hid (Blk ((w.alloc (.cells #[.string ⟨#[]⟩, .string ⟨#[]⟩, .bool false] 32)).alloc (.cells #[.string ⟨#[]⟩, .string ⟨#[]⟩, .bool false] 32)) (w.heap.size + 1) 32 #[.string ⟨#[]⟩, .string ⟨#[]⟩, .bool false]) := by
    have := Blk.new (w.alloc (.cells #[.string ⟨#[]⟩, .string ⟨#[]⟩, .bool false] 32)) 32 #[.string ⟨#[]⟩, .string ⟨#[]⟩, .bool false]
    rwa [hz1] at this
  have HB0 : Hid (Below w.heap.size w ((w.alloc (.cells #[.string ⟨#[]⟩, .string ⟨#[]⟩, .bool false] 32)).alloc (.cells #[.string ⟨#[]⟩, .string ⟨#[]⟩, .bool false] 32))) := ((Below.refl _ _).alloc (Nat.le_refl _) _).alloc (by simp) _
  clear h h0 hnc hn hz1
  go_enter Tryd.func28, Tryd.ntmps28
  go_wp2_with fail
  refine HO.out.mono ?_
  rintro e w1 ⟨x, y, x', y', z, z', rfl, hx, hy, hx', hy', hb⟩
  have HZ := Lib.hid (HZ0.out.below hb HZ0.out.lt)
  have HY := Lib.hid (HY0.out.below hb HY0.out.lt)
  have HB := Lib.hid (HB0.out.trans (hb.mono HB0.out.size))
  clear HO HZ0 HY0 HB0 hb
  have c00 : w1.cell? ⟨w.heap.size, 0, none⟩ = some (.string ⟨#[]⟩) := HZ.out.cell 0
  have c01 : w1.cell? ⟨w.heap.size, 1, none⟩ = some (.string ⟨#[]⟩) := HZ.out.cell 1
  have c02 : w1.cell? ⟨w.heap.size, 2, none⟩ = some (.bool false) := HZ.out.cell 2
  have f00 : w1.frozen? ⟨w.heap.size, 0, none⟩ = false := HZ.out.frozen 0
  have f01 : w1.frozen? ⟨w.heap.size, 1, none⟩ = false := HZ.out.frozen 1
  have f02 : w1.frozen? ⟨w.heap.size, 2, none⟩ = false := HZ.out.frozen 2
  have l0 := HZ.out.lt
  have c10 : w1.cell? ⟨w.heap.size + 1, 0, none⟩ = some (.string ⟨#[]⟩) := HY.out.cell 0
  have c11 : w1.cell? ⟨w.heap.size + 1, 1, none⟩ = some (.string ⟨#[]⟩) := HY.out.cell 1
  have c12 : w1.cell? ⟨w.heap.size + 1, 2, none⟩ = some (.bool false) := HY.out.cell 2
  have f10 : w1.frozen? ⟨w.heap.size + 1, 0, none⟩ = false := HY.out.frozen 0
  have f11 : w1.frozen? ⟨w.heap.size + 1, 1, none⟩ = false := HY.out.frozen 1
  have f12 : w1.frozen? ⟨w.heap.size + 1, 2, none⟩ = false := HY.out.frozen 2
  have l1 := HY.out.lt
  go_wp2
  exact bodyPost_ret (v := .tuple #[.agg #[.string x, .string y, .bool z], .agg #[.string x', .string y', .bool z']]) (by simp [results, Tryd.results28, go_sem, c00, c01, c02, c10, c11, c12]) rfl ⟨_, _, _, _, _, _, rfl, by omega, by omega, by omega, by omega, ((((((HB.out.setCell (p := ⟨w.heap.size, 0, none⟩) (Nat.le_refl _) _).setCell (p := ⟨w.heap.size, 1, none⟩) (Nat.le_refl _) _).setCell (p := ⟨w.heap.size, 2, none⟩) (Nat.le_refl _) _).setCell (p := ⟨w.heap.size + 1, 0, none⟩) (Nat.le_succ _) _).setCell (p := ⟨w.heap.size + 1, 1, none⟩) (Nat.le_succ _) _).setCell (p := ⟨w.heap.size + 1, 2, none⟩) (Nat.le_succ _) _)⟩
set_option maxHeartbeats 2000000 in
theorem drawSwapBelow_any (A : Option Addr) (n c : Nat) (b : Nat → Nat) (w : World) (h : Src w w.heap.size A n b) (hnc : n ≤ c) (hn : n ≤ 1048576) :
    Calls Tryd.prog 38 #[.slice A n c] w (TwoP w) := by
  have hz1 : (w.alloc (.cells #[.string ⟨#[]⟩, .string ⟨#[]⟩, .bool false] 32)).heap.size = w.heap.size + 1 := by simp
  have h0 : Src ((w.alloc (.cells #[.string ⟨#[]⟩, .string ⟨#[]⟩, .bool false] 32)).alloc (.cells #[.string ⟨#[]⟩, .string ⟨#[]⟩, .bool false] 32)) ((w.alloc (.cells #[.string ⟨#[]⟩, .string ⟨#[]⟩, .bool false] 32)).alloc (.cells #[.string ⟨#[]⟩, .string ⟨#[]⟩, .bool false] 32)).heap.size A n b := by
    refine ⟨h.1, fun j hj => ?_⟩
    obtain ⟨ad, e, hb, hc⟩ := h.2 j hj
    exact ⟨ad, e, by simp; omega, (World.cell?_alloc_lt _ _ _ (by rw [block_of_add, hz1]; omega)).trans ((World.cell?_alloc_lt w _ _ (by rw [block_of_add]; exact hb)).trans hc)⟩
  have HO := Lib.hid (l92Swaps_any _ _ _ _ _ h0 hnc hn)
  have HZ0 := Lib.hid ((Blk.new w 32 #[.string ⟨#[]⟩, .string ⟨#[]⟩, .bool false]).alloc (.cells #[.string ⟨#[]⟩, .string ⟨#[]⟩, .bool false] 32))
  have HY0 : Hid (Blk ((w.alloc (.cells #[.string ⟨#[]⟩, .string ⟨#[]⟩, .bool false] 32)).alloc (.cells #[.string ⟨#[]⟩, .string ⟨#[]⟩, .bool false] 32)) (w.heap.size + 1) 32 #[.string ⟨#[]⟩, .string ⟨#[]⟩, .bool false]) := by
    have := Blk.new (w.alloc (.cells #[.string ⟨#[]⟩, .string ⟨#[]⟩, .bool false] 32)) 32 #[.string ⟨#[]⟩, .string ⟨#[]⟩, .bool false]
    rwa [hz1] at this
  have HB0 : Hid (Below w.heap.size w ((w.alloc (.cells #[.string ⟨#[]⟩, .string ⟨#[]⟩, .bool false] 32)).alloc (.cells #[.string ⟨#[]⟩, .string ⟨#[]⟩, .bool false] 32))) := ((Below.refl _ _).alloc (Nat.le_refl _) _).alloc (by simp) _
  clear h h0 hnc hn hz1
  go_enter Tryd.func38, Tryd.ntmps38
  go_wp2_with fail
  refine HO.out.mono ?_
  rintro e w1 ⟨x, y, x', y', z, z', rfl, hx, hy, hx', hy', hb⟩
  have HZ := Lib.hid (HZ0.out.below hb HZ0.out.lt)
  have HY := Lib.hid (HY0.out.below hb HY0.out.lt)
  have HB := Lib.hid (HB0.out.trans (hb.mono HB0.out.size))
  clear HO HZ0 HY0 HB0 hb
  have c00 : w1.cell? ⟨w.heap.size, 0, none⟩ = some (.string ⟨#[]⟩) := HZ.out.cell 0
  have c01 : w1.cell? ⟨w.heap.size, 1, none⟩ = some (.string ⟨#[]⟩) := HZ.out.cell 1
  have c02 : w1.cell? ⟨w.heap.size, 2, none⟩ = some (.bool false) := HZ.out.cell 2
  have f00 : w1.frozen? ⟨w.heap.size, 0, none⟩ = false := HZ.out.frozen 0
  have f01 : w1.frozen? ⟨w.heap.size, 1, none⟩ = false := HZ.out.frozen 1
  have f02 : w1.frozen? ⟨w.heap.size, 2, none⟩ = false := HZ.out.frozen 2
  have l0 := HZ.out.lt
  have c10 : w1.cell? ⟨w.heap.size + 1, 0, none⟩ = some (.string ⟨#[]⟩) := HY.out.cell 0
  have c11 : w1.cell? ⟨w.heap.size + 1, 1, none⟩ = some (.string ⟨#[]⟩) := HY.out.cell 1
  have c12 : w1.cell? ⟨w.heap.size + 1, 2, none⟩ = some (.bool false) := HY.out.cell 2
  have f10 : w1.frozen? ⟨w.heap.size + 1, 0, none⟩ = false := HY.out.frozen 0
  have f11 : w1.frozen? ⟨w.heap.size + 1, 1, none⟩ = false := HY.out.frozen 1
  have f12 : w1.frozen? ⟨w.heap.size + 1, 2, none⟩ = false := HY.out.frozen 2
  have l1 := HY.out.lt
  go_wp2
  exact bodyPost_ret (v := .tuple #[.agg #[.string x, .string y, .bool z], .agg #[.string x', .string y', .bool z']]) (by simp [results, Tryd.results38, go_sem, c00, c01, c02, c10, c11, c12]) rfl ⟨_, _, _, _, _, _, rfl, by omega, by omega, by omega, by omega, ((((((HB.out.setCell (p := ⟨w.heap.size, 0, none⟩) (Nat.le_refl _) _).setCell (p := ⟨w.heap.size, 1, none⟩) (Nat.le_refl _) _).setCell (p := ⟨w.heap.size, 2, none⟩) (Nat.le_refl _) _).setCell (p := ⟨w.heap.size + 1, 0, none⟩) (Nat.le_succ _) _).setCell (p := ⟨w.heap.size + 1, 1, none⟩) (Nat.le_succ _) _).setCell (p := ⟨w.heap.size + 1, 2, none⟩) (Nat.le_succ _) _)⟩
set_option maxHeartbeats 2000000 in
theorem drawSwapMeet_any (A : Option Addr) (n c : Nat) (b : Nat → Nat) (w : World) (h : Src w w.heap.size A n b) (hnc : n ≤ c) (hn : n ≤ 1048576) :
    Calls Tryd.prog 41 #[.slice A n c] w (TwoP w) := by
  have hz1 : (w.alloc (.cells #[.string ⟨#[]⟩, .string ⟨#[]⟩, .bool false] 32)).heap.size = w.heap.size + 1 := by simp
  have h0 : Src ((w.alloc (.cells #[.string ⟨#[]⟩, .string ⟨#[]⟩, .bool false] 32)).alloc (.cells #[.string ⟨#[]⟩, .string ⟨#[]⟩, .bool false] 32)) ((w.alloc (.cells #[.string ⟨#[]⟩, .string ⟨#[]⟩, .bool false] 32)).alloc (.cells #[.string ⟨#[]⟩, .string ⟨#[]⟩, .bool false] 32)).heap.size A n b := by
    refine ⟨h.1, fun j hj => ?_⟩
    obtain ⟨ad, e, hb, hc⟩ := h.2 j hj
    exact ⟨ad, e, by simp; omega, (World.cell?_alloc_lt _ _ _ (by rw [block_of_add, hz1]; omega)).trans ((World.cell?_alloc_lt w _ _ (by rw [block_of_add]; exact hb)).trans hc)⟩
  have HO := Lib.hid (l92Swaps_any _ _ _ _ _ h0 hnc hn)
  have HZ0 := Lib.hid ((Blk.new w 32 #[.string ⟨#[]⟩, .string ⟨#[]⟩, .bool false]).alloc (.cells #[.string ⟨#[]⟩, .string ⟨#[]⟩, .bool false] 32))
  have HY0 : Hid (Blk ((w.alloc (.cells #[.string ⟨#[]⟩, .string ⟨#[]⟩, .bool false] 32)).alloc (.cells #[.string ⟨#[]⟩, .string ⟨#[]⟩, .bool false] 32)) (w.heap.size + 1) 32 #[.string ⟨#[]⟩, .string ⟨#[]⟩, .bool false]) := by
    have := Blk.new (w.alloc (.cells #[.string ⟨#[]⟩, .string ⟨#[]⟩, .bool false] 32)) 32 #[.string ⟨#[]⟩, .string ⟨#[]⟩, .bool false]
    rwa [hz1] at this
  have HB0 : Hid (Below w.heap.size w ((w.alloc (.cells #[.string ⟨#[]⟩, .string ⟨#[]⟩, .bool false] 32)).alloc (.cells #[.string ⟨#[]⟩, .string ⟨#[]⟩, .bool false] 32))) := ((Below.refl _ _).alloc (Nat.le_refl _) _).alloc (by simp) _
  clear h h0 hnc hn hz1
  go_enter Tryd.func41, Tryd.ntmps41
  go_wp2_with fail
  refine HO.out.mono ?_
  rintro e w1 ⟨x, y, x', y', z, z', rfl, hx, hy, hx', hy', hb⟩
  have HZ := Lib.hid (HZ0.out.below hb HZ0.out.lt)
  have HY := Lib.hid (HY0.out.below hb HY0.out.lt)
  have HB := Lib.hid (HB0.out.trans (hb.mono HB0.out.size))
  clear HO HZ0 HY0 HB0 hb
  have c00 : w1.cell? ⟨w.heap.size, 0, none⟩ = some (.string ⟨#[]⟩) := HZ.out.cell 0
  have c01 : w1.cell? ⟨w.heap.size, 1, none⟩ = some (.string ⟨#[]⟩) := HZ.out.cell 1
  have c02 : w1.cell? ⟨w.heap.size, 2, none⟩ = some (.bool false) := HZ.out.cell 2
  have f00 : w1.frozen? ⟨w.heap.size, 0, none⟩ = false := HZ.out.frozen 0
  have f01 : w1.frozen? ⟨w.heap.size, 1, none⟩ = false := HZ.out.frozen 1
  have f02 : w1.frozen? ⟨w.heap.size, 2, none⟩ = false := HZ.out.frozen 2
  have l0 := HZ.out.lt
  have c10 : w1.cell? ⟨w.heap.size + 1, 0, none⟩ = some (.string ⟨#[]⟩) := HY.out.cell 0
  have c11 : w1.cell? ⟨w.heap.size + 1, 1, none⟩ = some (.string ⟨#[]⟩) := HY.out.cell 1
  have c12 : w1.cell? ⟨w.heap.size + 1, 2, none⟩ = some (.bool false) := HY.out.cell 2
  have f10 : w1.frozen? ⟨w.heap.size + 1, 0, none⟩ = false := HY.out.frozen 0
  have f11 : w1.frozen? ⟨w.heap.size + 1, 1, none⟩ = false := HY.out.frozen 1
  have f12 : w1.frozen? ⟨w.heap.size + 1, 2, none⟩ = false := HY.out.frozen 2
  have l1 := HY.out.lt
  go_wp2
  exact bodyPost_ret (v := .tuple #[.agg #[.string x, .string y, .bool z], .agg #[.string x', .string y', .bool z']]) (by simp [results, Tryd.results41, go_sem, c00, c01, c02, c10, c11, c12]) rfl ⟨_, _, _, _, _, _, rfl, by omega, by omega, by omega, by omega, ((((((HB.out.setCell (p := ⟨w.heap.size, 0, none⟩) (Nat.le_refl _) _).setCell (p := ⟨w.heap.size, 1, none⟩) (Nat.le_refl _) _).setCell (p := ⟨w.heap.size, 2, none⟩) (Nat.le_refl _) _).setCell (p := ⟨w.heap.size + 1, 0, none⟩) (Nat.le_succ _) _).setCell (p := ⟨w.heap.size + 1, 1, none⟩) (Nat.le_succ _) _).setCell (p := ⟨w.heap.size + 1, 2, none⟩) (Nat.le_succ _) _)⟩
set_option maxHeartbeats 2000000 in
theorem drawSwapAct_any (A : Option Addr) (n c : Nat) (b : Nat → Nat) (w : World) (h : Src w w.heap.size A n b) (hnc : n ≤ c) (hn : n ≤ 1048576) :
    Calls Tryd.prog 36 #[.slice A n c] w (ActP w) := by
  have h0 : Src (w.alloc (.cells #[.string ⟨#[]⟩, .string ⟨#[]⟩, .bool false] 32)) (w.alloc (.cells #[.string ⟨#[]⟩, .string ⟨#[]⟩, .bool false] 32)).heap.size A n b := by
    refine ⟨h.1, fun j hj => ?_⟩
    obtain ⟨ad, e, hb, hc⟩ := h.2 j hj
    exact ⟨ad, e, by simp; omega, (World.cell?_alloc_lt w _ _ (by rw [block_of_add]; exact hb)).trans hc⟩
  have HO := Lib.hid (open_any _ _ _ _ _ h0 hnc hn)
  have HZ0 := Lib.hid (Blk.new w 32 #[.string ⟨#[]⟩, .string ⟨#[]⟩, .bool false])
  have HB0 : Hid (Below w.heap.size w (w.alloc (.cells #[.string ⟨#[]⟩, .string ⟨#[]⟩, .bool false] 32))) := (Below.refl _ _).alloc (Nat.le_refl _) _
  clear h h0 hnc hn
  go_enter Tryd.func36, Tryd.ntmps36
  go_wp2_with fail
  refine HO.out.mono ?_
  rintro e w1 ⟨R, rfl, hR, hRl, hRd, hb⟩
  have HZ1 := Lib.hid (HZ0.out.below hb HZ0.out.lt)
  have HB1 := Lib.hid (HB0.out.trans (hb.mono HB0.out.size))
  have HR : Hid (w.heap.size < R) := by have := HZ0.out.lt; show _ < _; omega
  have HC := Lib.hid (l92Swap_any R 0 w1 hRd (by omega))
  clear HO HZ0 HB0 hR hRl hRd hb
  go_wp2_with fail
  refine HC.out.mono ?_
  rintro e w2 ⟨x, y, z, q, rfl, hx, hy, hq, hRd, hg⟩
  have HS2 := Lib.hid (Blk.new w2 32 #[.string x, .string y, .bool z])
  have HZ2 := Lib.hid ((HZ1.out.grown hg (fun e => by injection e with e; have := HR.out; omega)).alloc (.cells #[.string x, .string y, .bool z] 32))
  have HB2 := Lib.hid (gb_bel6 HB1.out hg (by have := HR.out; omega))
  have HB3 := Lib.hid (HB2.out.alloc HB2.out.size (.cells #[.string x, .string y, .bool z] 32))
  have HS3 : Hid (R < w2.heap.size) := hRd.lt
  have HC := Lib.hid (pick_any R q 2 _ (hRd.al6 (.cells #[.string x, .string y, .bool z] 32)) (by omega) (by omega) (by omega))
  clear HZ1 HB1 hRd hg
  go_wp2_with fail
  refine HC.out.mono ?_
  rintro e w3 ⟨v, rfl, hv, hRd, hg⟩
  have HZ := Lib.hid (HZ2.out.grown hg (fun e => by injection e with e; have := HR.out; omega))
  have HS := Lib.hid (HS2.out.grown hg (fun e => by injection e with e; have := HS3.out; omega))
  have HB := Lib.hid (gb_bel6 HB3.out hg (by have := HR.out; omega))
  have HN : Hid (w2.heap.size ≠ w.heap.size ∧ w.heap.size ≠ w2.heap.size) := by
    have h1 := HR.out
    have h2 := HS3.out
    exact ⟨by omega, by omega⟩
  obtain ⟨n1, n2⟩ := HN.out
  have hq1 : q + 1 ≤ 100 := by omega
  have HRd := Lib.hid hRd
  clear HC HZ2 HS2 HB2 HB3 hg hq hRd
  have c00 : w3.cell? ⟨w.heap.size, 0, none⟩ = some (.string ⟨#[]⟩) := HZ.out.cell 0
  have c01 : w3.cell? ⟨w.heap.size, 1, none⟩ = some (.string ⟨#[]⟩) := HZ.out.cell 1
  have c02 : w3.cell? ⟨w.heap.size, 2, none⟩ = some (.bool false) := HZ.out.cell 2
  have f00 : w3.frozen? ⟨w.heap.size, 0, none⟩ = false := HZ.out.frozen 0
  have f01 : w3.frozen? ⟨w.heap.size, 1, none⟩ = false := HZ.out.frozen 1
  have f02 : w3.frozen? ⟨w.heap.size, 2, none⟩ = false := HZ.out.frozen 2
  have l0 := HZ.out.lt
  have c20 : w3.cell? ⟨w2.heap.size, 0, none⟩ = some (.string x) := HS.out.cell 0
  have c21 : w3.cell? ⟨w2.heap.size, 1, none⟩ = some (.string y) := HS.out.cell 1
  have c22 : w3.cell? ⟨w2.heap.size, 2, none⟩ = some (.bool z) := HS.out.cell 2
  have f20 : w3.frozen? ⟨w2.heap.size, 0, none⟩ = false := HS.out.frozen 0
  have f21 : w3.frozen? ⟨w2.heap.size, 1, none⟩ = false := HS.out.frozen 1
  have f22 : w3.frozen? ⟨w2.heap.size, 2, none⟩ = false := HS.out.frozen 2
  have l2 := HS.out.lt
  by_cases hv0 : v = 0
  · have hvi : ((v : Int) == 0) = true := by rw [hv0]; rfl
    have HC : Hid (∀ W, Rd W R (q + 1) → Calls Tryd.prog 62 #[.pointer (some ⟨R, 0, none⟩), .int .i64 ((4 : Nat) : Int)] W (BitsP W R (q + 1) 4)) := fun W hW => l92Bits_any R (q + 1) 4 W hW (by omega) (by omega)
    have HX : Hid (∀ t : ByteArray, t.size ≤ 1000 → x.size + t.size ≤ 9223372036854775807 ∧ (x ++ t).size ≤ 4000) := fun t ht => ⟨by omega, by rw [ByteArray.size_append]; omega⟩
    clear hv0
    go_wp2_with fail
    go_region_with (go_at_call 62; refine (HC.out _ (by first | exact HRd.out | exact HRd.out.drew6)).mono ?_; rintro e w4 ⟨t, q4, rfl, ht, hq4, hRd4, hg4⟩; have hg5 : w3.grownBy w4 (some R) := ⟨hg4.os, hg4.tape, hg4.output, hg4.size, hg4.block⟩; obtain ⟨hsx, hsy⟩ := HX.out t ht; have HZ := Lib.hid (HZ.out.grown hg5 (fun e => by injection e with e; have := HR.out; omega)); have HS := Lib.hid (HS.out.grown hg5 (fun e => by injection e with e; have := HS3.out; omega)); have HB := Lib.hid (gb_bel6 HB.out hg5 (by have := HR.out; omega)); clear hg4 hg5 hRd4 hq4 c00 c01 c02 c20 c21 c22 f00 f01 f02 f20 f21 f22 l0 l2; have c00 : w4.cell? ⟨w.heap.size, 0, none⟩ = some (.string ⟨#[]⟩) := HZ.out.cell 0; have c01 : w4.cell? ⟨w.heap.size, 1, none⟩ = some (.string ⟨#[]⟩) := HZ.out.cell 1; have c02 : w4.cell? ⟨w.heap.size, 2, none⟩ = some (.bool false) := HZ.out.cell 2; have f00 : w4.frozen? ⟨w.heap.size, 0, none⟩ = false := HZ.out.frozen 0; have f01 : w4.frozen? ⟨w.heap.size, 1, none⟩ = false := HZ.out.frozen 1; have f02 : w4.frozen? ⟨w.heap.size, 2, none⟩ = false := HZ.out.frozen 2; have l0 := HZ.out.lt; have c20 : w4.cell? ⟨w2.heap.size, 0, none⟩ = some (.string x) := HS.out.cell 0; have c21 : w4.cell? ⟨w2.heap.size, 1, none⟩ = some (.string y) := HS.out.cell 1; have c22 : w4.cell? ⟨w2.heap.size, 2, none⟩ = some (.bool z) := HS.out.cell 2; have f20 : w4.frozen? ⟨w2.heap.size, 0, none⟩ = false := HS.out.frozen 0; have f21 : w4.frozen? ⟨w2.heap.size, 1, none⟩ = false := HS.out.frozen 1; have f22 : w4.frozen? ⟨w2.heap.size, 2, none⟩ = false := HS.out.frozen 2; have l2 := HS.out.lt)
    all_goals go_wp2
    all_goals exact bodyPost_ret (v := .tuple #[.agg #[.string x, .string y, .bool z], .string (x ++ t)]) (by simp [results, Tryd.results36, go_sem, c00, c01, c02]) rfl ⟨_, _, _, _, rfl, by omega, by omega, by omega, by first | exact ((((HB.out.setCell (p := ⟨w.heap.size, 0, none⟩) (Nat.le_refl _) _).setCell (p := ⟨w.heap.size, 1, none⟩) (Nat.le_refl _) _).setCell (p := ⟨w.heap.size, 2, none⟩) (Nat.le_refl _) _)) | exact ((((HB.out.setCell (p := ⟨w.heap.size, 0, none⟩) (Nat.le_refl _) _).setCell (p := ⟨w.heap.size, 1, none⟩) (Nat.le_refl _) _).setCell (p := ⟨w.heap.size, 2, none⟩) (Nat.le_refl _) _)).drew⟩
  · have hvi : ((v : Int) == 0) = false := by rw [beq_eq_false_iff_ne]; omega
    have HC : Hid (∀ W, Rd W R (q + 1) → Calls Tryd.prog 62 #[.pointer (some ⟨R, 0, none⟩), .int .i64 ((6 : Nat) : Int)] W (BitsP W R (q + 1) 6)) := fun W hW => l92Bits_any R (q + 1) 6 W hW (by omega) (by omega)
    have HX : Hid (∀ t : ByteArray, t.size ≤ 1000 → x.size + t.size ≤ 9223372036854775807 ∧ (x ++ t).size ≤ 4000) := fun t ht => ⟨by omega, by rw [ByteArray.size_append]; omega⟩
    clear hv0
    go_wp2_with fail
    go_region_with (go_at_call 62; refine (HC.out _ (by first | exact HRd.out | exact HRd.out.drew6)).mono ?_; rintro e w4 ⟨t, q4, rfl, ht, hq4, hRd4, hg4⟩; have hg5 : w3.grownBy w4 (some R) := ⟨hg4.os, hg4.tape, hg4.output, hg4.size, hg4.block⟩; obtain ⟨hsx, hsy⟩ := HX.out t ht; have HZ := Lib.hid (HZ.out.grown hg5 (fun e => by injection e with e; have := HR.out; omega)); have HS := Lib.hid (HS.out.grown hg5 (fun e => by injection e with e; have := HS3.out; omega)); have HB := Lib.hid (gb_bel6 HB.out hg5 (by have := HR.out; omega)); clear hg4 hg5 hRd4 hq4 c00 c01 c02 c20 c21 c22 f00 f01 f02 f20 f21 f22 l0 l2; have c00 : w4.cell? ⟨w.heap.size, 0, none⟩ = some (.string ⟨#[]⟩) := HZ.out.cell 0; have c01 : w4.cell? ⟨w.heap.size, 1, none⟩ = some (.string ⟨#[]⟩) := HZ.out.cell 1; have c02 : w4.cell? ⟨w.heap.size, 2, none⟩ = some (.bool false) := HZ.out.cell 2; have f00 : w4.frozen? ⟨w.heap.size, 0, none⟩ = false := HZ.out.frozen 0; have f01 : w4.frozen? ⟨w.heap.size, 1, none⟩ = false := HZ.out.frozen 1; have f02 : w4.frozen? ⟨w.heap.size, 2, none⟩ = false := HZ.out.frozen 2; have l0 := HZ.out.lt; have c20 : w4.cell? ⟨w2.heap.size, 0, none⟩ = some (.string x) := HS.out.cell 0; have c21 : w4.cell? ⟨w2.heap.size, 1, none⟩ = some (.string y) := HS.out.cell 1; have c22 : w4.cell? ⟨w2.heap.size, 2, none⟩ = some (.bool z) := HS.out.cell 2; have f20 : w4.frozen? ⟨w2.heap.size, 0, none⟩ = false := HS.out.frozen 0; have f21 : w4.frozen? ⟨w2.heap.size, 1, none⟩ = false := HS.out.frozen 1; have f22 : w4.frozen? ⟨w2.heap.size, 2, none⟩ = false := HS.out.frozen 2; have l2 := HS.out.lt)
    all_goals go_wp2
    all_goals exact bodyPost_ret (v := .tuple #[.agg #[.string x, .string y, .bool z], .string (t)]) (by simp [results, Tryd.results36, go_sem, c00, c01, c02]) rfl ⟨_, _, _, _, rfl, by omega, by omega, by omega, by first | exact ((((HB.out.setCell (p := ⟨w.heap.size, 0, none⟩) (Nat.le_refl _) _).setCell (p := ⟨w.heap.size, 1, none⟩) (Nat.le_refl _) _).setCell (p := ⟨w.heap.size, 2, none⟩) (Nat.le_refl _) _)) | exact ((((HB.out.setCell (p := ⟨w.heap.size, 0, none⟩) (Nat.le_refl _) _).setCell (p := ⟨w.heap.size, 1, none⟩) (Nat.le_refl _) _).setCell (p := ⟨w.heap.size, 2, none⟩) (Nat.le_refl _) _)).drew⟩
end Go.Proofs.YtdljndpobklkjaaDoor
