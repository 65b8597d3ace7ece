/-
  Swaps by the program: what is exported.
-/
import Derived.Test.YtdljndpobklkjaaDoorSm6
namespace Go.Proofs.YtdljndpobklkjaaDoor
set_option maxRecDepth 100000
set_option linter.unusedVariables false
open Go.RowKit

theorem bel_al {w w' : World} (h : Below w.heap.size w w') (o : Obj) : Below w.heap.size w (w'.alloc o) := h.alloc h.size o
theorem ta_si (v : Value) (W : World) : (Instr.typeAssert (.iface 32 v) 49 32 true).run Tryd.prog W = .ok (.tuple #[v, .bool true]) W := by kernel_rfl
set_option maxHeartbeats 1000000 in
theorem implTurned_any (f t : List UInt8) (n : Bool) (w : World) :
    Calls Tryd.prog 26 #[.agg #[.string (bs f), .string (bs t), .bool n]] w fun e w' => e = .returned (.tuple #[swV (turnedS ⟨f, t, n⟩).1, .bool (turnedS ⟨f, t, n⟩).2]) ∧ Below w.heap.size w w' := by
  have HC := Lib.hid (fun W => implIn_any f t n W)
  have HU := Lib.hid (fun W => turned_any f t n W)
  cases hi : inS ⟨f, t, n⟩ with
  | false =>
    rw [show turnedS ⟨f, t, n⟩ = (.zero, false) by unfold turnedS; rw [hi]; rfl, swV_zero]
    rw [hi] at HC
    clear hi HU
    go_enter Tryd.func26, Tryd.ntmps26
    go_wp2_with fail
    refine (HC.out _).mono ?_
    rintro e w1 ⟨rfl, hb1⟩
    have K0 := Lib.hid ((blk2_0 w #[.string (bs f), .string (bs t), .bool n] #[.string ⟨#[]⟩, .string ⟨#[]⟩, .bool false]).on hb1)
    have K1 := Lib.hid ((blk2_1 w #[.string (bs f), .string (bs t), .bool n] #[.string ⟨#[]⟩, .string ⟨#[]⟩, .bool false]).on hb1)
    have HB := Lib.hid ((bel2 w #[.string (bs f), .string (bs t), .bool n] #[.string ⟨#[]⟩, .string ⟨#[]⟩, .bool false]).trans (hb1.mono (bel2 w #[.string (bs f), .string (bs t), .bool n] #[.string ⟨#[]⟩, .string ⟨#[]⟩, .bool false]).size))
    have c00 : w1.cell? ⟨w.heap.size, 0, none⟩ = some (.string (bs f)) := K0.out.cell 0
    have c01 : w1.cell? ⟨w.heap.size, 1, none⟩ = some (.string (bs t)) := K0.out.cell 1
    have c02 : w1.cell? ⟨w.heap.size, 2, none⟩ = some (.bool n) := K0.out.cell 2
    have f00 : w1.frozen? ⟨w.heap.size, 0, none⟩ = false := K0.out.frozen 0
    have f01 : w1.frozen? ⟨w.heap.size, 1, none⟩ = false := K0.out.frozen 1
    have f02 : w1.frozen? ⟨w.heap.size, 2, none⟩ = false := K0.out.frozen 2
    have l0 : w.heap.size < w1.heap.size := K0.out.lt
    have c10 : w1.cell? ⟨w.heap.size + 1, 0, none⟩ = some (.string ⟨#[]⟩) := K1.out.cell 0
    have c11 : w1.cell? ⟨w.heap.size + 1, 1, none⟩ = some (.string ⟨#[]⟩) := K1.out.cell 1
    have c12 : w1.cell? ⟨w.heap.size + 1, 2, none⟩ = some (.bool false) := K1.out.cell 2
    have f10 : w1.frozen? ⟨w.heap.size + 1, 0, none⟩ = false := K1.out.frozen 0
    have f11 : w1.frozen? ⟨w.heap.size + 1, 1, none⟩ = false := K1.out.frozen 1
    have f12 : w1.frozen? ⟨w.heap.size + 1, 2, none⟩ = false := K1.out.frozen 2
    have l1 : w.heap.size + 1 < w1.heap.size := K1.out.lt
    clear hb1
    clear HC
    go_wp2
    exact bodyPost_ret (v := .tuple #[.agg #[.string ⟨#[]⟩, .string ⟨#[]⟩, .bool false], .bool false]) (by simp [results, Tryd.results26, go_sem, c10, c11, c12]) rfl ⟨rfl, (((HB.out.setCell (by show w.heap.size ≤ w.heap.size + 1; omega) _).setCell (by show w.heap.size ≤ w.heap.size + 1; omega) _).setCell (by show w.heap.size ≤ w.heap.size + 1; omega) _)⟩
  | true =>
    rw [show turnedS ⟨f, t, n⟩ = (⟨t, f, n⟩, true) by unfold turnedS; rw [hi]; rfl, swV_mk]
    rw [hi] at HC
    clear hi
    go_enter Tryd.func26, Tryd.ntmps26
    go_wp2_with fail
    refine (HC.out _).mono ?_
    rintro e w1 ⟨rfl, hb1⟩
    have K0 := Lib.hid ((blk2_0 w #[.string (bs f), .string (bs t), .bool n] #[.string ⟨#[]⟩, .string ⟨#[]⟩, .bool false]).on hb1)
    have K1 := Lib.hid ((blk2_1 w #[.string (bs f), .string (bs t), .bool n] #[.string ⟨#[]⟩, .string ⟨#[]⟩, .bool false]).on hb1)
    have HB := Lib.hid ((bel2 w #[.string (bs f), .string (bs t), .bool n] #[.string ⟨#[]⟩, .string ⟨#[]⟩, .bool false]).trans (hb1.mono (bel2 w #[.string (bs f), .string (bs t), .bool n] #[.string ⟨#[]⟩, .string ⟨#[]⟩, .bool false]).size))
    have c00 : w1.cell? ⟨w.heap.size, 0, none⟩ = some (.string (bs f)) := K0.out.cell 0
    have c01 : w1.cell? ⟨w.heap.size, 1, none⟩ = some (.string (bs t)) := K0.out.cell 1
    have c02 : w1.cell? ⟨w.heap.size, 2, none⟩ = some (.bool n) := K0.out.cell 2
    have f00 : w1.frozen? ⟨w.heap.size, 0, none⟩ = false := K0.out.frozen 0
    have f01 : w1.frozen? ⟨w.heap.size, 1, none⟩ = false := K0.out.frozen 1
    have f02 : w1.frozen? ⟨w.heap.size, 2, none⟩ = false := K0.out.frozen 2
    have l0 : w.heap.size < w1.heap.size := K0.out.lt
    have c10 : w1.cell? ⟨w.heap.size + 1, 0, none⟩ = some (.string ⟨#[]⟩) := K1.out.cell 0
    have c11 : w1.cell? ⟨w.heap.size + 1, 1, none⟩ = some (.string ⟨#[]⟩) := K1.out.cell 1
    have c12 : w1.cell? ⟨w.heap.size + 1, 2, none⟩ = some (.bool false) := K1.out.cell 2
    have f10 : w1.frozen? ⟨w.heap.size + 1, 0, none⟩ = false := K1.out.frozen 0
    have f11 : w1.frozen? ⟨w.heap.size + 1, 1, none⟩ = false := K1.out.frozen 1
    have f12 : w1.frozen? ⟨w.heap.size + 1, 2, none⟩ = false := K1.out.frozen 2
    have l1 : w.heap.size + 1 < w1.heap.size := K1.out.lt
    clear hb1
    clear HC
    have HU1 : Hid (Calls Tryd.prog 56 #[.agg #[.string (bs f), .string (bs t), .bool n]] w1 fun e w' => e = .returned (.agg #[.string (bs t), .string (bs f), .bool n]) ∧ Below w1.heap.size w1 w') := (HU.out w1).mono fun e w' h => ⟨h.1, by rw [h.2]; exact bel2 w1 _ _⟩
    clear HU
    go_wp2_with fail
    refine HU1.out.mono ?_
    rintro e w2 ⟨rfl, hb2⟩
    clear HU1
    have K0 := Lib.hid (K0.out.on hb2)
    have K1 := Lib.hid (K1.out.on hb2)
    have HB := Lib.hid (HB.out.trans (hb2.mono HB.out.size))
    clear c00 c01 c02 f00 f01 f02 l0 c10 c11 c12 f10 f11 f12 l1
    have c00 : w2.cell? ⟨w.heap.size, 0, none⟩ = some (.string (bs f)) := K0.out.cell 0
    have c01 : w2.cell? ⟨w.heap.size, 1, none⟩ = some (.string (bs t)) := K0.out.cell 1
    have c02 : w2.cell? ⟨w.heap.size, 2, none⟩ = some (.bool n) := K0.out.cell 2
    have f00 : w2.frozen? ⟨w.heap.size, 0, none⟩ = false := K0.out.frozen 0
    have f01 : w2.frozen? ⟨w.heap.size, 1, none⟩ = false := K0.out.frozen 1
    have f02 : w2.frozen? ⟨w.heap.size, 2, none⟩ = false := K0.out.frozen 2
    have l0 : w.heap.size < w2.heap.size := K0.out.lt
    have c10 : w2.cell? ⟨w.heap.size + 1, 0, none⟩ = some (.string ⟨#[]⟩) := K1.out.cell 0
    have c11 : w2.cell? ⟨w.heap.size + 1, 1, none⟩ = some (.string ⟨#[]⟩) := K1.out.cell 1
    have c12 : w2.cell? ⟨w.heap.size + 1, 2, none⟩ = some (.bool false) := K1.out.cell 2
    have f10 : w2.frozen? ⟨w.heap.size + 1, 0, none⟩ = false := K1.out.frozen 0
    have f11 : w2.frozen? ⟨w.heap.size + 1, 1, none⟩ = false := K1.out.frozen 1
    have f12 : w2.frozen? ⟨w.heap.size + 1, 2, none⟩ = false := K1.out.frozen 2
    have l1 : w.heap.size + 1 < w2.heap.size := K1.out.lt
    clear hb2
    go_wp2
    exact bodyPost_ret (v := .tuple #[.agg #[.string (bs t), .string (bs f), .bool n], .bool true]) (by simp [results, Tryd.results26, go_sem, c10, c11, c12]) rfl ⟨rfl, (((HB.out.setCell (by show w.heap.size ≤ w.heap.size + 1; omega) _).setCell (by show w.heap.size ≤ w.heap.size + 1; omega) _).setCell (by show w.heap.size ≤ w.heap.size + 1; omega) _)⟩
set_option maxHeartbeats 1000000 in
theorem implIdem_any (f t : List UInt8) (n : Bool) (w : World) :
    Calls Tryd.prog 34 #[.agg #[.string (bs f), .string (bs t), .bool n]] w fun e w' => e = .returned (.bool (idemS ⟨f, t, n⟩)) ∧ Below w.heap.size w w' := by
  have HC := Lib.hid (fun W => implIn_any f t n W)
  have HE : Hid (idemS ⟨f, t, n⟩ = (inS ⟨f, t, n⟩ && f == t)) := rfl
  have e1 := bs_list f
  have e2 := bs_list t
  rw [HE.out]
  clear HE
  generalize inS ⟨f, t, n⟩ = R at *
  generalize bs f = fb at *
  generalize bs t = tb at *
  cases R with
  | false =>
    go_enter Tryd.func34, Tryd.ntmps34
    go_wp2_with fail
    refine (HC.out _).mono ?_
    rintro e w1 ⟨rfl, hb1⟩
    have K0 := Lib.hid ((blk1_0 w #[.string fb, .string tb, .bool n]).on hb1)
    have HB := Lib.hid ((bel1 w #[.string fb, .string tb, .bool n]).trans (hb1.mono (bel1 w #[.string fb, .string tb, .bool n]).size))
    have c00 : w1.cell? ⟨w.heap.size, 0, none⟩ = some (.string fb) := K0.out.cell 0
    have c01 : w1.cell? ⟨w.heap.size, 1, none⟩ = some (.string tb) := K0.out.cell 1
    have c02 : w1.cell? ⟨w.heap.size, 2, none⟩ = some (.bool n) := K0.out.cell 2
    have f00 : w1.frozen? ⟨w.heap.size, 0, none⟩ = false := K0.out.frozen 0
    have f01 : w1.frozen? ⟨w.heap.size, 1, none⟩ = false := K0.out.frozen 1
    have f02 : w1.frozen? ⟨w.heap.size, 2, none⟩ = false := K0.out.frozen 2
    have l0 : w.heap.size < w1.heap.size := K0.out.lt
    clear hb1
    clear HC
    go_wp2
    go_ret
    exact ⟨by try rfl, HB.out⟩
  | true =>
    go_enter Tryd.func34, Tryd.ntmps34
    go_wp2_with fail
    refine (HC.out _).mono ?_
    rintro e w1 ⟨rfl, hb1⟩
    have K0 := Lib.hid ((blk1_0 w #[.string fb, .string tb, .bool n]).on hb1)
    have HB := Lib.hid ((bel1 w #[.string fb, .string tb, .bool n]).trans (hb1.mono (bel1 w #[.string fb, .string tb, .bool n]).size))
    have c00 : w1.cell? ⟨w.heap.size, 0, none⟩ = some (.string fb) := K0.out.cell 0
    have c01 : w1.cell? ⟨w.heap.size, 1, none⟩ = some (.string tb) := K0.out.cell 1
    have c02 : w1.cell? ⟨w.heap.size, 2, none⟩ = some (.bool n) := K0.out.cell 2
    have f00 : w1.frozen? ⟨w.heap.size, 0, none⟩ = false := K0.out.frozen 0
    have f01 : w1.frozen? ⟨w.heap.size, 1, none⟩ = false := K0.out.frozen 1
    have f02 : w1.frozen? ⟨w.heap.size, 2, none⟩ = false := K0.out.frozen 2
    have l0 : w.heap.size < w1.heap.size := K0.out.lt
    clear hb1
    clear HC
    go_wp2
    go_ret
    exact ⟨by rw [Bool.true_and]; try rfl, HB.out⟩
set_option maxHeartbeats 1000000 in
theorem implAct_any (f t : List UInt8) (n : Bool) (x : List UInt8) (ht : t.length ≤ 4000000) (hx : x.length ≤ 4000000) (w : World) :
    Calls Tryd.prog 30 #[.agg #[.string (bs f), .string (bs t), .bool n], .string (bs x)] w fun e w' => e = .returned (.tuple #[.string (bs (movS ⟨f, t, n⟩ x).1), .bool (movS ⟨f, t, n⟩ x).2]) ∧ Below w.heap.size w w' := by
  have HC := Lib.hid (fun W => implIn_any f t n W)
  have HT := Lib.hid (fun W => isSigns_any x 40 W)
  have HU := Lib.hid (fun W => act_any f t n x ht hx W)
  have HE : Hid (movS ⟨f, t, n⟩ x = if (inS ⟨f, t, n⟩ && sgB x 40) = true then match actS ⟨f, t, n⟩ x with | some y => (y, true) | .none => ([], false) else ([], false)) := rfl
  cases hi : inS ⟨f, t, n⟩ with
  | false =>
    rw [hi] at HC
    rw [show movS ⟨f, t, n⟩ x = ([], false) by rw [HE.out, hi, Bool.false_and, if_neg (by decide)]]
    clear HE hi HU HT
    go_enter Tryd.func30, Tryd.ntmps30
    go_wp2_with fail
    refine (HC.out _).mono ?_
    rintro e w1 ⟨rfl, hb1⟩
    have K0 := Lib.hid ((blk1_0 w #[.string (bs f), .string (bs t), .bool n]).on hb1)
    have HB := Lib.hid ((bel1 w #[.string (bs f), .string (bs t), .bool n]).trans (hb1.mono (bel1 w #[.string (bs f), .string (bs t), .bool n]).size))
    have c00 : w1.cell? ⟨w.heap.size, 0, none⟩ = some (.string (bs f)) := K0.out.cell 0
    have c01 : w1.cell? ⟨w.heap.size, 1, none⟩ = some (.string (bs t)) := K0.out.cell 1
    have c02 : w1.cell? ⟨w.heap.size, 2, none⟩ = some (.bool n) := K0.out.cell 2
    have f00 : w1.frozen? ⟨w.heap.size, 0, none⟩ = false := K0.out.frozen 0
    have f01 : w1.frozen? ⟨w.heap.size, 1, none⟩ = false := K0.out.frozen 1
    have f02 : w1.frozen? ⟨w.heap.size, 2, none⟩ = false := K0.out.frozen 2
    have l0 : w.heap.size < w1.heap.size := K0.out.lt
    clear hb1
    clear HC
    go_wp2
    exact bodyPost_ret (v := .tuple #[.string ⟨#[]⟩, .bool false]) (by simp [results, Tryd.results30, go_sem]) rfl ⟨by try rfl, HB.out⟩
  | true =>
    rw [hi] at HC
    cases hs : sgB x 40 with
    | false =>
      rw [hs] at HT
      rw [show movS ⟨f, t, n⟩ x = ([], false) by rw [HE.out, hi, hs, Bool.true_and, if_neg (by decide)]]
      clear HE hi hs HU
      go_enter Tryd.func30, Tryd.ntmps30
      go_wp2_with fail
      refine (HC.out _).mono ?_
      rintro e w1 ⟨rfl, hb1⟩
      have K0 := Lib.hid ((blk1_0 w #[.string (bs f), .string (bs t), .bool n]).on hb1)
      have HB := Lib.hid ((bel1 w #[.string (bs f), .string (bs t), .bool n]).trans (hb1.mono (bel1 w #[.string (bs f), .string (bs t), .bool n]).size))
      have c00 : w1.cell? ⟨w.heap.size, 0, none⟩ = some (.string (bs f)) := K0.out.cell 0
      have c01 : w1.cell? ⟨w.heap.size, 1, none⟩ = some (.string (bs t)) := K0.out.cell 1
      have c02 : w1.cell? ⟨w.heap.size, 2, none⟩ = some (.bool n) := K0.out.cell 2
      have f00 : w1.frozen? ⟨w.heap.size, 0, none⟩ = false := K0.out.frozen 0
      have f01 : w1.frozen? ⟨w.heap.size, 1, none⟩ = false := K0.out.frozen 1
      have f02 : w1.frozen? ⟨w.heap.size, 2, none⟩ = false := K0.out.frozen 2
      have l0 : w.heap.size < w1.heap.size := K0.out.lt
      clear hb1
      clear HC
      go_wp2_with fail
      refine (HT.out _).mono ?_
      rintro e w2 ⟨rfl, hb2⟩
      have K0 := Lib.hid (K0.out.on hb2)
      have HB := Lib.hid (HB.out.trans (hb2.mono HB.out.size))
      clear c00 c01 c02 f00 f01 f02 l0
      have c00 : w2.cell? ⟨w.heap.size, 0, none⟩ = some (.string (bs f)) := K0.out.cell 0
      have c01 : w2.cell? ⟨w.heap.size, 1, none⟩ = some (.string (bs t)) := K0.out.cell 1
      have c02 : w2.cell? ⟨w.heap.size, 2, none⟩ = some (.bool n) := K0.out.cell 2
      have f00 : w2.frozen? ⟨w.heap.size, 0, none⟩ = false := K0.out.frozen 0
      have f01 : w2.frozen? ⟨w.heap.size, 1, none⟩ = false := K0.out.frozen 1
      have f02 : w2.frozen? ⟨w.heap.size, 2, none⟩ = false := K0.out.frozen 2
      have l0 : w.heap.size < w2.heap.size := K0.out.lt
      clear hb2
      clear HT
      go_wp2
      exact bodyPost_ret (v := .tuple #[.string ⟨#[]⟩, .bool false]) (by simp [results, Tryd.results30, go_sem]) rfl ⟨by try rfl, HB.out⟩
    | true =>
      rw [hs] at HT
      have hR : movS ⟨f, t, n⟩ x = ((actS ⟨f, t, n⟩ x).getD [], (actS ⟨f, t, n⟩ x).isSome) := by
        rw [HE.out, hi, hs, Bool.true_and, if_pos rfl]
        cases actS ⟨f, t, n⟩ x <;> rfl
      rw [hR]
      clear HE hi hs hR
      dsimp only
      generalize bs ((actS ⟨f, t, n⟩ x).getD []) = y at *
      generalize (actS ⟨f, t, n⟩ x).isSome = b at *
      go_enter Tryd.func30, Tryd.ntmps30
      go_wp2_with fail
      refine (HC.out _).mono ?_
      rintro e w1 ⟨rfl, hb1⟩
      have K0 := Lib.hid ((blk1_0 w #[.string (bs f), .string (bs t), .bool n]).on hb1)
      have HB := Lib.hid ((bel1 w #[.string (bs f), .string (bs t), .bool n]).trans (hb1.mono (bel1 w #[.string (bs f), .string (bs t), .bool n]).size))
      have c00 : w1.cell? ⟨w.heap.size, 0, none⟩ = some (.string (bs f)) := K0.out.cell 0
      have c01 : w1.cell? ⟨w.heap.size, 1, none⟩ = some (.string (bs t)) := K0.out.cell 1
      have c02 : w1.cell? ⟨w.heap.size, 2, none⟩ = some (.bool n) := K0.out.cell 2
      have f00 : w1.frozen? ⟨w.heap.size, 0, none⟩ = false := K0.out.frozen 0
      have f01 : w1.frozen? ⟨w.heap.size, 1, none⟩ = false := K0.out.frozen 1
      have f02 : w1.frozen? ⟨w.heap.size, 2, none⟩ = false := K0.out.frozen 2
      have l0 : w.heap.size < w1.heap.size := K0.out.lt
      clear hb1
      clear HC
      go_wp2_with fail
      refine (HT.out _).mono ?_
      rintro e w2 ⟨rfl, hb2⟩
      have K0 := Lib.hid (K0.out.on hb2)
      have HB := Lib.hid (HB.out.trans (hb2.mono HB.out.size))
      clear c00 c01 c02 f00 f01 f02 l0
      have c00 : w2.cell? ⟨w.heap.size, 0, none⟩ = some (.string (bs f)) := K0.out.cell 0
      have c01 : w2.cell? ⟨w.heap.size, 1, none⟩ = some (.string (bs t)) := K0.out.cell 1
      have c02 : w2.cell? ⟨w.heap.size, 2, none⟩ = some (.bool n) := K0.out.cell 2
      have f00 : w2.frozen? ⟨w.heap.size, 0, none⟩ = false := K0.out.frozen 0
      have f01 : w2.frozen? ⟨w.heap.size, 1, none⟩ = false := K0.out.frozen 1
      have f02 : w2.frozen? ⟨w.heap.size, 2, none⟩ = false := K0.out.frozen 2
      have l0 : w.heap.size < w2.heap.size := K0.out.lt
      clear hb2
      clear HT
      have HU1 : Hid (Calls Tryd.prog 61 #[.agg #[.string (bs f), .string (bs t), .bool n], .string (bs x)] w2 fun e w' => e = .returned (.tuple #[.string y, .bool b]) ∧ Below w2.heap.size w2 w') := (HU.out w2).mono fun e w' h => ⟨h.1, by rw [h.2]; exact bel1 w2 _⟩
      clear HU
      go_wp2_with fail
      refine HU1.out.mono ?_
      rintro e w3 ⟨rfl, hb3⟩
      clear HU1
      have K0 := Lib.hid (K0.out.on hb3)
      have HB := Lib.hid (HB.out.trans (hb3.mono HB.out.size))
      clear c00 c01 c02 f00 f01 f02 l0
      have c00 : w3.cell? ⟨w.heap.size, 0, none⟩ = some (.string (bs f)) := K0.out.cell 0
      have c01 : w3.cell? ⟨w.heap.size, 1, none⟩ = some (.string (bs t)) := K0.out.cell 1
      have c02 : w3.cell? ⟨w.heap.size, 2, none⟩ = some (.bool n) := K0.out.cell 2
      have f00 : w3.frozen? ⟨w.heap.size, 0, none⟩ = false := K0.out.frozen 0
      have f01 : w3.frozen? ⟨w.heap.size, 1, none⟩ = false := K0.out.frozen 1
      have f02 : w3.frozen? ⟨w.heap.size, 2, none⟩ = false := K0.out.frozen 2
      have l0 : w.heap.size < w3.heap.size := K0.out.lt
      clear hb3
      go_wp2
      exact bodyPost_ret (v := .tuple #[.string y, .bool b]) (by simp [results, Tryd.results30, go_sem]) rfl ⟨by try rfl, HB.out⟩
set_option maxHeartbeats 1000000 in
theorem implBelow_any (sf st tf tt : List UInt8) (sn tn : Bool) (w : World) :
    Calls Tryd.prog 39 #[.agg #[.string (bs sf), .string (bs st), .bool sn], .agg #[.string (bs tf), .string (bs tt), .bool tn]] w fun e w' => e = .returned (.bool (belowS ⟨sf, st, sn⟩ ⟨tf, tt, tn⟩)) ∧ Below w.heap.size w w' := by
  have HC := Lib.hid (fun W => isBelow_any sf st tf tt sn tn W)
  generalize belowS ⟨sf, st, sn⟩ ⟨tf, tt, tn⟩ = R at *
  go_enter Tryd.func39, Tryd.ntmps39
  go_wp2_with fail
  refine (HC.out _).mono ?_
  rintro e w1 ⟨rfl, hb1⟩
  have K0 := Lib.hid ((blk2_0 w #[.string (bs sf), .string (bs st), .bool sn] #[.string (bs tf), .string (bs tt), .bool tn]).on hb1)
  have K1 := Lib.hid ((blk2_1 w #[.string (bs sf), .string (bs st), .bool sn] #[.string (bs tf), .string (bs tt), .bool tn]).on hb1)
  have HB := Lib.hid ((bel2 w #[.string (bs sf), .string (bs st), .bool sn] #[.string (bs tf), .string (bs tt), .bool tn]).trans (hb1.mono (bel2 w #[.string (bs sf), .string (bs st), .bool sn] #[.string (bs tf), .string (bs tt), .bool tn]).size))
  have c00 : w1.cell? ⟨w.heap.size, 0, none⟩ = some (.string (bs sf)) := K0.out.cell 0
  have c01 : w1.cell? ⟨w.heap.size, 1, none⟩ = some (.string (bs st)) := K0.out.cell 1
  have c02 : w1.cell? ⟨w.heap.size, 2, none⟩ = some (.bool sn) := K0.out.cell 2
  have f00 : w1.frozen? ⟨w.heap.size, 0, none⟩ = false := K0.out.frozen 0
  have f01 : w1.frozen? ⟨w.heap.size, 1, none⟩ = false := K0.out.frozen 1
  have f02 : w1.frozen? ⟨w.heap.size, 2, none⟩ = false := K0.out.frozen 2
  have l0 : w.heap.size < w1.heap.size := K0.out.lt
  have c10 : w1.cell? ⟨w.heap.size + 1, 0, none⟩ = some (.string (bs tf)) := K1.out.cell 0
  have c11 : w1.cell? ⟨w.heap.size + 1, 1, none⟩ = some (.string (bs tt)) := K1.out.cell 1
  have c12 : w1.cell? ⟨w.heap.size + 1, 2, none⟩ = some (.bool tn) := K1.out.cell 2
  have f10 : w1.frozen? ⟨w.heap.size + 1, 0, none⟩ = false := K1.out.frozen 0
  have f11 : w1.frozen? ⟨w.heap.size + 1, 1, none⟩ = false := K1.out.frozen 1
  have f12 : w1.frozen? ⟨w.heap.size + 1, 2, none⟩ = false := K1.out.frozen 2
  have l1 : w.heap.size + 1 < w1.heap.size := K1.out.lt
  clear hb1
  clear HC
  go_wp2
  go_ret
  exact ⟨by try rfl, HB.out⟩
set_option maxHeartbeats 1000000 in
theorem implMeet_any (sf st tf tt : List UInt8) (sn tn : Bool) (h1 : sf.length ≤ 4000000) (h2 : st.length ≤ 4000000) (h3 : tf.length ≤ 4000000) (h4 : tt.length ≤ 4000000) (w : World) :
    Calls Tryd.prog 42 #[.agg #[.string (bs sf), .string (bs st), .bool sn], .agg #[.string (bs tf), .string (bs tt), .bool tn]] w fun e w' => e = .returned (.tuple #[swV (meetS ⟨sf, st, sn⟩ ⟨tf, tt, tn⟩).1, .bool (meetS ⟨sf, st, sn⟩ ⟨tf, tt, tn⟩).2]) ∧ Below w.heap.size w w' := by
  have HS := Lib.hid (fun W => implIn_any sf st sn W)
  have HT := Lib.hid (fun W => implIn_any tf tt tn W)
  have HM := Lib.hid (fun W => below_any sf st tf tt sn tn h1 h2 h3 h4 W)
  have HD := Lib.hid (fun W => below_any tf tt sf st tn sn h3 h4 h1 h2 W)
  have HE : Hid (meetS ⟨sf, st, sn⟩ ⟨tf, tt, tn⟩ = if (inS ⟨sf, st, sn⟩ && inS ⟨tf, tt, tn⟩) = false then (.zero, false) else if belS ⟨sf, st, sn⟩ ⟨tf, tt, tn⟩ = true then (⟨sf, st, sn⟩, true) else if belS ⟨tf, tt, tn⟩ ⟨sf, st, sn⟩ = true then (⟨tf, tt, tn⟩, true) else (.none, true)) := rfl
  rw [HE.out]
  clear HE
  generalize inS ⟨sf, st, sn⟩ = x at *
  generalize inS ⟨tf, tt, tn⟩ = y at *
  generalize belS ⟨sf, st, sn⟩ ⟨tf, tt, tn⟩ = z at *
  generalize belS ⟨tf, tt, tn⟩ ⟨sf, st, sn⟩ = u at *
  clear h1 h2 h3 h4
  cases x with
  | false =>
    rw [Bool.false_and, if_pos rfl, swV_zero]
    go_enter Tryd.func42, Tryd.ntmps42
    go_wp2_with fail
    refine (HS.out _).mono ?_
    rintro e w1 ⟨rfl, hb1⟩
    have K0 := Lib.hid ((blk3_0 w #[.string (bs sf), .string (bs st), .bool sn] #[.string (bs tf), .string (bs tt), .bool tn] #[.string ⟨#[]⟩, .string ⟨#[]⟩, .bool false]).on hb1)
    have K1 := Lib.hid ((blk3_1 w #[.string (bs sf), .string (bs st), .bool sn] #[.string (bs tf), .string (bs tt), .bool tn] #[.string ⟨#[]⟩, .string ⟨#[]⟩, .bool false]).on hb1)
    have K2 := Lib.hid ((blk3_2 w #[.string (bs sf), .string (bs st), .bool sn] #[.string (bs tf), .string (bs tt), .bool tn] #[.string ⟨#[]⟩, .string ⟨#[]⟩, .bool false]).on hb1)
    have HB := Lib.hid ((bel3 w #[.string (bs sf), .string (bs st), .bool sn] #[.string (bs tf), .string (bs tt), .bool tn] #[.string ⟨#[]⟩, .string ⟨#[]⟩, .bool false]).trans (hb1.mono (bel3 w #[.string (bs sf), .string (bs st), .bool sn] #[.string (bs tf), .string (bs tt), .bool tn] #[.string ⟨#[]⟩, .string ⟨#[]⟩, .bool false]).size))
    have c00 : w1.cell? ⟨w.heap.size, 0, none⟩ = some (.string (bs sf)) := K0.out.cell 0
    have c01 : w1.cell? ⟨w.heap.size, 1, none⟩ = some (.string (bs st)) := K0.out.cell 1
    have c02 : w1.cell? ⟨w.heap.size, 2, none⟩ = some (.bool sn) := K0.out.cell 2
    have f00 : w1.frozen? ⟨w.heap.size, 0, none⟩ = false := K0.out.frozen 0
    have f01 : w1.frozen? ⟨w.heap.size, 1, none⟩ = false := K0.out.frozen 1
    have f02 : w1.frozen? ⟨w.heap.size, 2, none⟩ = false := K0.out.frozen 2
    have l0 : w.heap.size < w1.heap.size := K0.out.lt
    have c10 : w1.cell? ⟨w.heap.size + 1, 0, none⟩ = some (.string (bs tf)) := K1.out.cell 0
    have c11 : w1.cell? ⟨w.heap.size + 1, 1, none⟩ = some (.string (bs tt)) := K1.out.cell 1
    have c12 : w1.cell? ⟨w.heap.size + 1, 2, none⟩ = some (.bool tn) := K1.out.cell 2
    have f10 : w1.frozen? ⟨w.heap.size + 1, 0, none⟩ = false := K1.out.frozen 0
    have f11 : w1.frozen? ⟨w.heap.size + 1, 1, none⟩ = false := K1.out.frozen 1
    have f12 : w1.frozen? ⟨w.heap.size + 1, 2, none⟩ = false := K1.out.frozen 2
    have l1 : w.heap.size + 1 < w1.heap.size := K1.out.lt
    have c20 : w1.cell? ⟨w.heap.size + 1 + 1, 0, none⟩ = some (.string ⟨#[]⟩) := K2.out.cell 0
    have c21 : w1.cell? ⟨w.heap.size + 1 + 1, 1, none⟩ = some (.string ⟨#[]⟩) := K2.out.cell 1
    have c22 : w1.cell? ⟨w.heap.size + 1 + 1, 2, none⟩ = some (.bool false) := K2.out.cell 2
    have f20 : w1.frozen? ⟨w.heap.size + 1 + 1, 0, none⟩ = false := K2.out.frozen 0
    have f21 : w1.frozen? ⟨w.heap.size + 1 + 1, 1, none⟩ = false := K2.out.frozen 1
    have f22 : w1.frozen? ⟨w.heap.size + 1 + 1, 2, none⟩ = false := K2.out.frozen 2
    have l2 : w.heap.size + 1 + 1 < w1.heap.size := K2.out.lt
    clear hb1
    clear HS
    go_wp2
    exact bodyPost_ret (v := .tuple #[.agg #[.string ⟨#[]⟩, .string ⟨#[]⟩, .bool false], .bool false]) (by simp [results, Tryd.results42, go_sem, c20, c21, c22]) rfl ⟨rfl, (((HB.out.setCell (by show w.heap.size ≤ w.heap.size + 1 + 1; omega) _).setCell (by show w.heap.size ≤ w.heap.size + 1 + 1; omega) _).setCell (by show w.heap.size ≤ w.heap.size + 1 + 1; omega) _)⟩
  | true =>
    cases y with
    | false =>
      rw [Bool.and_false, if_pos rfl, swV_zero]
      go_enter Tryd.func42, Tryd.ntmps42
      go_wp2_with fail
      refine (HS.out _).mono ?_
      rintro e w1 ⟨rfl, hb1⟩
      have K0 := Lib.hid ((blk3_0 w #[.string (bs sf), .string (bs st), .bool sn] #[.string (bs tf), .string (bs tt), .bool tn] #[.string ⟨#[]⟩, .string ⟨#[]⟩, .bool false]).on hb1)
      have K1 := Lib.hid ((blk3_1 w #[.string (bs sf), .string (bs st), .bool sn] #[.string (bs tf), .string (bs tt), .bool tn] #[.string ⟨#[]⟩, .string ⟨#[]⟩, .bool false]).on hb1)
      have K2 := Lib.hid ((blk3_2 w #[.string (bs sf), .string (bs st), .bool sn] #[.string (bs tf), .string (bs tt), .bool tn] #[.string ⟨#[]⟩, .string ⟨#[]⟩, .bool false]).on hb1)
      have HB := Lib.hid ((bel3 w #[.string (bs sf), .string (bs st), .bool sn] #[.string (bs tf), .string (bs tt), .bool tn] #[.string ⟨#[]⟩, .string ⟨#[]⟩, .bool false]).trans (hb1.mono (bel3 w #[.string (bs sf), .string (bs st), .bool sn] #[.string (bs tf), .string (bs tt), .bool tn] #[.string ⟨#[]⟩, .string ⟨#[]⟩, .bool false]).size))
      have c00 : w1.cell? ⟨w.heap.size, 0, none⟩ = some (.string (bs sf)) := K0.out.cell 0
      have c01 : w1.cell? ⟨w.heap.size, 1, none⟩ = some (.string (bs st)) := K0.out.cell 1
      have c02 : w1.cell? ⟨w.heap.size, 2, none⟩ = some (.bool sn) := K0.out.cell 2
      have f00 : w1.frozen? ⟨w.heap.size, 0, none⟩ = false := K0.out.frozen 0
      have f01 : w1.frozen? ⟨w.heap.size, 1, none⟩ = false := K0.out.frozen 1
      have f02 : w1.frozen? ⟨w.heap.size, 2, none⟩ = false := K0.out.frozen 2
      have l0 : w.heap.size < w1.heap.size := K0.out.lt
      have c10 : w1.cell? ⟨w.heap.size + 1, 0, none⟩ = some (.string (bs tf)) := K1.out.cell 0
      have c11 : w1.cell? ⟨w.heap.size + 1, 1, none⟩ = some (.string (bs tt)) := K1.out.cell 1
      have c12 : w1.cell? ⟨w.heap.size + 1, 2, none⟩ = some (.bool tn) := K1.out.cell 2
      have f10 : w1.frozen? ⟨w.heap.size + 1, 0, none⟩ = false := K1.out.frozen 0
      have f11 : w1.frozen? ⟨w.heap.size + 1, 1, none⟩ = false := K1.out.frozen 1
      have f12 : w1.frozen? ⟨w.heap.size + 1, 2, none⟩ = false := K1.out.frozen 2
      have l1 : w.heap.size + 1 < w1.heap.size := K1.out.lt
      have c20 : w1.cell? ⟨w.heap.size + 1 + 1, 0, none⟩ = some (.string ⟨#[]⟩) := K2.out.cell 0
      have c21 : w1.cell? ⟨w.heap.size + 1 + 1, 1, none⟩ = some (.string ⟨#[]⟩) := K2.out.cell 1
      have c22 : w1.cell? ⟨w.heap.size + 1 + 1, 2, none⟩ = some (.bool false) := K2.out.cell 2
      have f20 : w1.frozen? ⟨w.heap.size + 1 + 1, 0, none⟩ = false := K2.out.frozen 0
      have f21 : w1.frozen? ⟨w.heap.size + 1 + 1, 1, none⟩ = false := K2.out.frozen 1
      have f22 : w1.frozen? ⟨w.heap.size + 1 + 1, 2, none⟩ = false := K2.out.frozen 2
      have l2 : w.heap.size + 1 + 1 < w1.heap.size := K2.out.lt
      clear hb1
      clear HS
      go_wp2_with fail
      refine (HT.out _).mono ?_
      rintro e w2 ⟨rfl, hb2⟩
      have K0 := Lib.hid (K0.out.on hb2)
      have K1 := Lib.hid (K1.out.on hb2)
      have K2 := Lib.hid (K2.out.on hb2)
      have HB := Lib.hid (HB.out.trans (hb2.mono HB.out.size))
      clear c00 c01 c02 f00 f01 f02 l0 c10 c11 c12 f10 f11 f12 l1 c20 c21 c22 f20 f21 f22 l2
      have c00 : w2.cell? ⟨w.heap.size, 0, none⟩ = some (.string (bs sf)) := K0.out.cell 0
      have c01 : w2.cell? ⟨w.heap.size, 1, none⟩ = some (.string (bs st)) := K0.out.cell 1
      have c02 : w2.cell? ⟨w.heap.size, 2, none⟩ = some (.bool sn) := K0.out.cell 2
      have f00 : w2.frozen? ⟨w.heap.size, 0, none⟩ = false := K0.out.frozen 0
      have f01 : w2.frozen? ⟨w.heap.size, 1, none⟩ = false := K0.out.frozen 1
      have f02 : w2.frozen? ⟨w.heap.size, 2, none⟩ = false := K0.out.frozen 2
      have l0 : w.heap.size < w2.heap.size := K0.out.lt
      have c10 : w2.cell? ⟨w.heap.size + 1, 0, none⟩ = some (.string (bs tf)) := K1.out.cell 0
      have c11 : w2.cell? ⟨w.heap.size + 1, 1, none⟩ = some (.string (bs tt)) := K1.out.cell 1
      have c12 : w2.cell? ⟨w.heap.size + 1, 2, none⟩ = some (.bool tn) := K1.out.cell 2
      have f10 : w2.frozen? ⟨w.heap.size + 1, 0, none⟩ = false := K1.out.frozen 0
      have f11 : w2.frozen? ⟨w.heap.size + 1, 1, none⟩ = false := K1.out.frozen 1
      have f12 : w2.frozen? ⟨w.heap.size + 1, 2, none⟩ = false := K1.out.frozen 2
      have l1 : w.heap.size + 1 < w2.heap.size := K1.out.lt
      have c20 : w2.cell? ⟨w.heap.size + 1 + 1, 0, none⟩ = some (.string ⟨#[]⟩) := K2.out.cell 0
      have c21 : w2.cell? ⟨w.heap.size + 1 + 1, 1, none⟩ = some (.string ⟨#[]⟩) := K2.out.cell 1
      have c22 : w2.cell? ⟨w.heap.size + 1 + 1, 2, none⟩ = some (.bool false) := K2.out.cell 2
      have f20 : w2.frozen? ⟨w.heap.size + 1 + 1, 0, none⟩ = false := K2.out.frozen 0
      have f21 : w2.frozen? ⟨w.heap.size + 1 + 1, 1, none⟩ = false := K2.out.frozen 1
      have f22 : w2.frozen? ⟨w.heap.size + 1 + 1, 2, none⟩ = false := K2.out.frozen 2
      have l2 : w.heap.size + 1 + 1 < w2.heap.size := K2.out.lt
      clear hb2
      clear HT
      go_wp2
      exact bodyPost_ret (v := .tuple #[.agg #[.string ⟨#[]⟩, .string ⟨#[]⟩, .bool false], .bool false]) (by simp [results, Tryd.results42, go_sem, c20, c21, c22]) rfl ⟨rfl, (((HB.out.setCell (by show w.heap.size ≤ w.heap.size + 1 + 1; omega) _).setCell (by show w.heap.size ≤ w.heap.size + 1 + 1; omega) _).setCell (by show w.heap.size ≤ w.heap.size + 1 + 1; omega) _)⟩
    | true =>
      cases z with
      | false =>
        cases u with
        | false =>
          rw [Bool.and_true, if_neg (by decide), if_neg (by decide), if_neg (by decide), swV_none]
          go_enter Tryd.func42, Tryd.ntmps42
          go_wp2_with fail
          refine (HS.out _).mono ?_
          rintro e w1 ⟨rfl, hb1⟩
          have K0 := Lib.hid ((blk3_0 w #[.string (bs sf), .string (bs st), .bool sn] #[.string (bs tf), .string (bs tt), .bool tn] #[.string ⟨#[]⟩, .string ⟨#[]⟩, .bool false]).on hb1)
          have K1 := Lib.hid ((blk3_1 w #[.string (bs sf), .string (bs st), .bool sn] #[.string (bs tf), .string (bs tt), .bool tn] #[.string ⟨#[]⟩, .string ⟨#[]⟩, .bool false]).on hb1)
          have K2 := Lib.hid ((blk3_2 w #[.string (bs sf), .string (bs st), .bool sn] #[.string (bs tf), .string (bs tt), .bool tn] #[.string ⟨#[]⟩, .string ⟨#[]⟩, .bool false]).on hb1)
          have HB := Lib.hid ((bel3 w #[.string (bs sf), .string (bs st), .bool sn] #[.string (bs tf), .string (bs tt), .bool tn] #[.string ⟨#[]⟩, .string ⟨#[]⟩, .bool false]).trans (hb1.mono (bel3 w #[.string (bs sf), .string (bs st), .bool sn] #[.string (bs tf), .string (bs tt), .bool tn] #[.string ⟨#[]⟩, .string ⟨#[]⟩, .bool false]).size))
          have c00 : w1.cell? ⟨w.heap.size, 0, none⟩ = some (.string (bs sf)) := K0.out.cell 0
          have c01 : w1.cell? ⟨w.heap.size, 1, none⟩ = some (.string (bs st)) := K0.out.cell 1
          have c02 : w1.cell? ⟨w.heap.size, 2, none⟩ = some (.bool sn) := K0.out.cell 2
          have f00 : w1.frozen? ⟨w.heap.size, 0, none⟩ = false := K0.out.frozen 0
          have f01 : w1.frozen? ⟨w.heap.size, 1, none⟩ = false := K0.out.frozen 1
          have f02 : w1.frozen? ⟨w.heap.size, 2, none⟩ = false := K0.out.frozen 2
          have l0 : w.heap.size < w1.heap.size := K0.out.lt
          have c10 : w1.cell? ⟨w.heap.size + 1, 0, none⟩ = some (.string (bs tf)) := K1.out.cell 0
          have c11 : w1.cell? ⟨w.heap.size + 1, 1, none⟩ = some (.string (bs tt)) := K1.out.cell 1
          have c12 : w1.cell? ⟨w.heap.size + 1, 2, none⟩ = some (.bool tn) := K1.out.cell 2
          have f10 : w1.frozen? ⟨w.heap.size + 1, 0, none⟩ = false := K1.out.frozen 0
          have f11 : w1.frozen? ⟨w.heap.size + 1, 1, none⟩ = false := K1.out.frozen 1
          have f12 : w1.frozen? ⟨w.heap.size + 1, 2, none⟩ = false := K1.out.frozen 2
          have l1 : w.heap.size + 1 < w1.heap.size := K1.out.lt
          have c20 : w1.cell? ⟨w.heap.size + 1 + 1, 0, none⟩ = some (.string ⟨#[]⟩) := K2.out.cell 0
          have c21 : w1.cell? ⟨w.heap.size + 1 + 1, 1, none⟩ = some (.string ⟨#[]⟩) := K2.out.cell 1
          have c22 : w1.cell? ⟨w.heap.size + 1 + 1, 2, none⟩ = some (.bool false) := K2.out.cell 2
          have f20 : w1.frozen? ⟨w.heap.size + 1 + 1, 0, none⟩ = false := K2.out.frozen 0
          have f21 : w1.frozen? ⟨w.heap.size + 1 + 1, 1, none⟩ = false := K2.out.frozen 1
          have f22 : w1.frozen? ⟨w.heap.size + 1 + 1, 2, none⟩ = false := K2.out.frozen 2
          have l2 : w.heap.size + 1 + 1 < w1.heap.size := K2.out.lt
          clear hb1
          clear HS
          go_wp2_with fail
          refine (HT.out _).mono ?_
          rintro e w2 ⟨rfl, hb2⟩
          have K0 := Lib.hid (K0.out.on hb2)
          have K1 := Lib.hid (K1.out.on hb2)
          have K2 := Lib.hid (K2.out.on hb2)
          have HB := Lib.hid (HB.out.trans (hb2.mono HB.out.size))
          clear c00 c01 c02 f00 f01 f02 l0 c10 c11 c12 f10 f11 f12 l1 c20 c21 c22 f20 f21 f22 l2
          have c00 : w2.cell? ⟨w.heap.size, 0, none⟩ = some (.string (bs sf)) := K0.out.cell 0
          have c01 : w2.cell? ⟨w.heap.size, 1, none⟩ = some (.string (bs st)) := K0.out.cell 1
          have c02 : w2.cell? ⟨w.heap.size, 2, none⟩ = some (.bool sn) := K0.out.cell 2
          have f00 : w2.frozen? ⟨w.heap.size, 0, none⟩ = false := K0.out.frozen 0
          have f01 : w2.frozen? ⟨w.heap.size, 1, none⟩ = false := K0.out.frozen 1
          have f02 : w2.frozen? ⟨w.heap.size, 2, none⟩ = false := K0.out.frozen 2
          have l0 : w.heap.size < w2.heap.size := K0.out.lt
          have c10 : w2.cell? ⟨w.heap.size + 1, 0, none⟩ = some (.string (bs tf)) := K1.out.cell 0
          have c11 : w2.cell? ⟨w.heap.size + 1, 1, none⟩ = some (.string (bs tt)) := K1.out.cell 1
          have c12 : w2.cell? ⟨w.heap.size + 1, 2, none⟩ = some (.bool tn) := K1.out.cell 2
          have f10 : w2.frozen? ⟨w.heap.size + 1, 0, none⟩ = false := K1.out.frozen 0
          have f11 : w2.frozen? ⟨w.heap.size + 1, 1, none⟩ = false := K1.out.frozen 1
          have f12 : w2.frozen? ⟨w.heap.size + 1, 2, none⟩ = false := K1.out.frozen 2
          have l1 : w.heap.size + 1 < w2.heap.size := K1.out.lt
          have c20 : w2.cell? ⟨w.heap.size + 1 + 1, 0, none⟩ = some (.string ⟨#[]⟩) := K2.out.cell 0
          have c21 : w2.cell? ⟨w.heap.size + 1 + 1, 1, none⟩ = some (.string ⟨#[]⟩) := K2.out.cell 1
          have c22 : w2.cell? ⟨w.heap.size + 1 + 1, 2, none⟩ = some (.bool false) := K2.out.cell 2
          have f20 : w2.frozen? ⟨w.heap.size + 1 + 1, 0, none⟩ = false := K2.out.frozen 0
          have f21 : w2.frozen? ⟨w.heap.size + 1 + 1, 1, none⟩ = false := K2.out.frozen 1
          have f22 : w2.frozen? ⟨w.heap.size + 1 + 1, 2, none⟩ = false := K2.out.frozen 2
          have l2 : w.heap.size + 1 + 1 < w2.heap.size := K2.out.lt
          clear hb2
          clear HT
          go_wp2_with fail
          refine (HM.out _).mono ?_
          rintro e w3 ⟨rfl, hb3⟩
          have K0 := Lib.hid (K0.out.on hb3)
          have K1 := Lib.hid (K1.out.on hb3)
          have K2 := Lib.hid (K2.out.on hb3)
          have HB := Lib.hid (HB.out.trans (hb3.mono HB.out.size))
          clear c00 c01 c02 f00 f01 f02 l0 c10 c11 c12 f10 f11 f12 l1 c20 c21 c22 f20 f21 f22 l2
          have c00 : w3.cell? ⟨w.heap.size, 0, none⟩ = some (.string (bs sf)) := K0.out.cell 0
          have c01 : w3.cell? ⟨w.heap.size, 1, none⟩ = some (.string (bs st)) := K0.out.cell 1
          have c02 : w3.cell? ⟨w.heap.size, 2, none⟩ = some (.bool sn) := K0.out.cell 2
          have f00 : w3.frozen? ⟨w.heap.size, 0, none⟩ = false := K0.out.frozen 0
          have f01 : w3.frozen? ⟨w.heap.size, 1, none⟩ = false := K0.out.frozen 1
          have f02 : w3.frozen? ⟨w.heap.size, 2, none⟩ = false := K0.out.frozen 2
          have l0 : w.heap.size < w3.heap.size := K0.out.lt
          have c10 : w3.cell? ⟨w.heap.size + 1, 0, none⟩ = some (.string (bs tf)) := K1.out.cell 0
          have c11 : w3.cell? ⟨w.heap.size + 1, 1, none⟩ = some (.string (bs tt)) := K1.out.cell 1
          have c12 : w3.cell? ⟨w.heap.size + 1, 2, none⟩ = some (.bool tn) := K1.out.cell 2
          have f10 : w3.frozen? ⟨w.heap.size + 1, 0, none⟩ = false := K1.out.frozen 0
          have f11 : w3.frozen? ⟨w.heap.size + 1, 1, none⟩ = false := K1.out.frozen 1
          have f12 : w3.frozen? ⟨w.heap.size + 1, 2, none⟩ = false := K1.out.frozen 2
          have l1 : w.heap.size + 1 < w3.heap.size := K1.out.lt
          have c20 : w3.cell? ⟨w.heap.size + 1 + 1, 0, none⟩ = some (.string ⟨#[]⟩) := K2.out.cell 0
          have c21 : w3.cell? ⟨w.heap.size + 1 + 1, 1, none⟩ = some (.string ⟨#[]⟩) := K2.out.cell 1
          have c22 : w3.cell? ⟨w.heap.size + 1 + 1, 2, none⟩ = some (.bool false) := K2.out.cell 2
          have f20 : w3.frozen? ⟨w.heap.size + 1 + 1, 0, none⟩ = false := K2.out.frozen 0
          have f21 : w3.frozen? ⟨w.heap.size + 1 + 1, 1, none⟩ = false := K2.out.frozen 1
          have f22 : w3.frozen? ⟨w.heap.size + 1 + 1, 2, none⟩ = false := K2.out.frozen 2
          have l2 : w.heap.size + 1 + 1 < w3.heap.size := K2.out.lt
          clear hb3
          clear HM
          go_wp2_with fail
          refine (HD.out _).mono ?_
          rintro e w4 ⟨rfl, hb4⟩
          have K0 := Lib.hid (K0.out.on hb4)
          have K1 := Lib.hid (K1.out.on hb4)
          have K2 := Lib.hid (K2.out.on hb4)
          have HB := Lib.hid (HB.out.trans (hb4.mono HB.out.size))
          clear c00 c01 c02 f00 f01 f02 l0 c10 c11 c12 f10 f11 f12 l1 c20 c21 c22 f20 f21 f22 l2
          have c00 : w4.cell? ⟨w.heap.size, 0, none⟩ = some (.string (bs sf)) := K0.out.cell 0
          have c01 : w4.cell? ⟨w.heap.size, 1, none⟩ = some (.string (bs st)) := K0.out.cell 1
          have c02 : w4.cell? ⟨w.heap.size, 2, none⟩ = some (.bool sn) := K0.out.cell 2
          have f00 : w4.frozen? ⟨w.heap.size, 0, none⟩ = false := K0.out.frozen 0
          have f01 : w4.frozen? ⟨w.heap.size, 1, none⟩ = false := K0.out.frozen 1
          have f02 : w4.frozen? ⟨w.heap.size, 2, none⟩ = false := K0.out.frozen 2
          have l0 : w.heap.size < w4.heap.size := K0.out.lt
          have c10 : w4.cell? ⟨w.heap.size + 1, 0, none⟩ = some (.string (bs tf)) := K1.out.cell 0
          have c11 : w4.cell? ⟨w.heap.size + 1, 1, none⟩ = some (.string (bs tt)) := K1.out.cell 1
          have c12 : w4.cell? ⟨w.heap.size + 1, 2, none⟩ = some (.bool tn) := K1.out.cell 2
          have f10 : w4.frozen? ⟨w.heap.size + 1, 0, none⟩ = false := K1.out.frozen 0
          have f11 : w4.frozen? ⟨w.heap.size + 1, 1, none⟩ = false := K1.out.frozen 1
          have f12 : w4.frozen? ⟨w.heap.size + 1, 2, none⟩ = false := K1.out.frozen 2
          have l1 : w.heap.size + 1 < w4.heap.size := K1.out.lt
          have c20 : w4.cell? ⟨w.heap.size + 1 + 1, 0, none⟩ = some (.string ⟨#[]⟩) := K2.out.cell 0
          have c21 : w4.cell? ⟨w.heap.size + 1 + 1, 1, none⟩ = some (.string ⟨#[]⟩) := K2.out.cell 1
          have c22 : w4.cell? ⟨w.heap.size + 1 + 1, 2, none⟩ = some (.bool false) := K2.out.cell 2
          have f20 : w4.frozen? ⟨w.heap.size + 1 + 1, 0, none⟩ = false := K2.out.frozen 0
          have f21 : w4.frozen? ⟨w.heap.size + 1 + 1, 1, none⟩ = false := K2.out.frozen 1
          have f22 : w4.frozen? ⟨w.heap.size + 1 + 1, 2, none⟩ = false := K2.out.frozen 2
          have l2 : w.heap.size + 1 + 1 < w4.heap.size := K2.out.lt
          clear hb4
          clear HD
          go_wp2
          exact bodyPost_ret (v := .tuple #[.agg #[.string ⟨#[]⟩, .string ⟨#[]⟩, .bool true], .bool true]) (by simp [results, Tryd.results42, go_sem, c20, c21, c22]) rfl ⟨rfl, (((HB.out.setCell (by show w.heap.size ≤ w.heap.size + 1 + 1; omega) _).setCell (by show w.heap.size ≤ w.heap.size + 1 + 1; omega) _).setCell (by show w.heap.size ≤ w.heap.size + 1 + 1; omega) _)⟩
        | true =>
          rw [Bool.and_true, if_neg (by decide), if_neg (by decide), if_pos rfl, swV_mk]
          go_enter Tryd.func42, Tryd.ntmps42
          go_wp2_with fail
          refine (HS.out _).mono ?_
          rintro e w1 ⟨rfl, hb1⟩
          have K0 := Lib.hid ((blk3_0 w #[.string (bs sf), .string (bs st), .bool sn] #[.string (bs tf), .string (bs tt), .bool tn] #[.string ⟨#[]⟩, .string ⟨#[]⟩, .bool false]).on hb1)
          have K1 := Lib.hid ((blk3_1 w #[.string (bs sf), .string (bs st), .bool sn] #[.string (bs tf), .string (bs tt), .bool tn] #[.string ⟨#[]⟩, .string ⟨#[]⟩, .bool false]).on hb1)
          have K2 := Lib.hid ((blk3_2 w #[.string (bs sf), .string (bs st), .bool sn] #[.string (bs tf), .string (bs tt), .bool tn] #[.string ⟨#[]⟩, .string ⟨#[]⟩, .bool false]).on hb1)
          have HB := Lib.hid ((bel3 w #[.string (bs sf), .string (bs st), .bool sn] #[.string (bs tf), .string (bs tt), .bool tn] #[.string ⟨#[]⟩, .string ⟨#[]⟩, .bool false]).trans (hb1.mono (bel3 w #[.string (bs sf), .string (bs st), .bool sn] #[.string (bs tf), .string (bs tt), .bool tn] #[.string ⟨#[]⟩, .string ⟨#[]⟩, .bool false]).size))
          have c00 : w1.cell? ⟨w.heap.size, 0, none⟩ = some (.string (bs sf)) := K0.out.cell 0
          have c01 : w1.cell? ⟨w.heap.size, 1, none⟩ = some (.string (bs st)) := K0.out.cell 1
          have c02 : w1.cell? ⟨w.heap.size, 2, none⟩ = some (.bool sn) := K0.out.cell 2
          have f00 : w1.frozen? ⟨w.heap.size, 0, none⟩ = false := K0.out.frozen 0
          have f01 : w1.frozen? ⟨w.heap.size, 1, none⟩ = false := K0.out.frozen 1
          have f02 : w1.frozen? ⟨w.heap.size, 2, none⟩ = false := K0.out.frozen 2
          have l0 : w.heap.size < w1.heap.size := K0.out.lt
          have c10 : w1.cell? ⟨w.heap.size + 1, 0, none⟩ = some (.string (bs tf)) := K1.out.cell 0
          have c11 : w1.cell? ⟨w.heap.size + 1, 1, none⟩ = some (.string (bs tt)) := K1.out.cell 1
          have c12 : w1.cell? ⟨w.heap.size + 1, 2, none⟩ = some (.bool tn) := K1.out.cell 2
          have f10 : w1.frozen? ⟨w.heap.size + 1, 0, none⟩ = false := K1.out.frozen 0
          have f11 : w1.frozen? ⟨w.heap.size + 1, 1, none⟩ = false := K1.out.frozen 1
          have f12 : w1.frozen? ⟨w.heap.size + 1, 2, none⟩ = false := K1.out.frozen 2
          have l1 : w.heap.size + 1 < w1.heap.size := K1.out.lt
          have c20 : w1.cell? ⟨w.heap.size + 1 + 1, 0, none⟩ = some (.string ⟨#[]⟩) := K2.out.cell 0
          have c21 : w1.cell? ⟨w.heap.size + 1 + 1, 1, none⟩ = some (.string ⟨#[]⟩) := K2.out.cell 1
          have c22 : w1.cell? ⟨w.heap.size + 1 + 1, 2, none⟩ = some (.bool false) := K2.out.cell 2
          have f20 : w1.frozen? ⟨w.heap.size + 1 + 1, 0, none⟩ = false := K2.out.frozen 0
          have f21 : w1.frozen? ⟨w.heap.size + 1 + 1, 1, none⟩ = false := K2.out.frozen 1
          have f22 : w1.frozen? ⟨w.heap.size + 1 + 1, 2, none⟩ = false := K2.out.frozen 2
          have l2 : w.heap.size + 1 + 1 < w1.heap.size := K2.out.lt
          clear hb1
          clear HS
          go_wp2_with fail
          refine (HT.out _).mono ?_
          rintro e w2 ⟨rfl, hb2⟩
          have K0 := Lib.hid (K0.out.on hb2)
          have K1 := Lib.hid (K1.out.on hb2)
          have K2 := Lib.hid (K2.out.on hb2)
          have HB := Lib.hid (HB.out.trans (hb2.mono HB.out.size))
          clear c00 c01 c02 f00 f01 f02 l0 c10 c11 c12 f10 f11 f12 l1 c20 c21 c22 f20 f21 f22 l2
          have c00 : w2.cell? ⟨w.heap.size, 0, none⟩ = some (.string (bs sf)) := K0.out.cell 0
          have c01 : w2.cell? ⟨w.heap.size, 1, none⟩ = some (.string (bs st)) := K0.out.cell 1
          have c02 : w2.cell? ⟨w.heap.size, 2, none⟩ = some (.bool sn) := K0.out.cell 2
          have f00 : w2.frozen? ⟨w.heap.size, 0, none⟩ = false := K0.out.frozen 0
          have f01 : w2.frozen? ⟨w.heap.size, 1, none⟩ = false := K0.out.frozen 1
          have f02 : w2.frozen? ⟨w.heap.size, 2, none⟩ = false := K0.out.frozen 2
          have l0 : w.heap.size < w2.heap.size := K0.out.lt
          have c10 : w2.cell? ⟨w.heap.size + 1, 0, none⟩ = some (.string (bs tf)) := K1.out.cell 0
          have c11 : w2.cell? ⟨w.heap.size + 1, 1, none⟩ = some (.string (bs tt)) := K1.out.cell 1
          have c12 : w2.cell? ⟨w.heap.size + 1, 2, none⟩ = some (.bool tn) := K1.out.cell 2
          have f10 : w2.frozen? ⟨w.heap.size + 1, 0, none⟩ = false := K1.out.frozen 0
          have f11 : w2.frozen? ⟨w.heap.size + 1, 1, none⟩ = false := K1.out.frozen 1
          have f12 : w2.frozen? ⟨w.heap.size + 1, 2, none⟩ = false := K1.out.frozen 2
          have l1 : w.heap.size + 1 < w2.heap.size := K1.out.lt
          have c20 : w2.cell? ⟨w.heap.size + 1 + 1, 0, none⟩ = some (.string ⟨#[]⟩) := K2.out.cell 0
          have c21 : w2.cell? ⟨w.heap.size + 1 + 1, 1, none⟩ = some (.string ⟨#[]⟩) := K2.out.cell 1
          have c22 : w2.cell? ⟨w.heap.size + 1 + 1, 2, none⟩ = some (.bool false) := K2.out.cell 2
          have f20 : w2.frozen? ⟨w.heap.size + 1 + 1, 0, none⟩ = false := K2.out.frozen 0
          have f21 : w2.frozen? ⟨w.heap.size + 1 + 1, 1, none⟩ = false := K2.out.frozen 1
          have f22 : w2.frozen? ⟨w.heap.size + 1 + 1, 2, none⟩ = false := K2.out.frozen 2
          have l2 : w.heap.size + 1 + 1 < w2.heap.size := K2.out.lt
          clear hb2
          clear HT
          go_wp2_with fail
          refine (HM.out _).mono ?_
          rintro e w3 ⟨rfl, hb3⟩
          have K0 := Lib.hid (K0.out.on hb3)
          have K1 := Lib.hid (K1.out.on hb3)
          have K2 := Lib.hid (K2.out.on hb3)
          have HB := Lib.hid (HB.out.trans (hb3.mono HB.out.size))
          clear c00 c01 c02 f00 f01 f02 l0 c10 c11 c12 f10 f11 f12 l1 c20 c21 c22 f20 f21 f22 l2
          have c00 : w3.cell? ⟨w.heap.size, 0, none⟩ = some (.string (bs sf)) := K0.out.cell 0
          have c01 : w3.cell? ⟨w.heap.size, 1, none⟩ = some (.string (bs st)) := K0.out.cell 1
          have c02 : w3.cell? ⟨w.heap.size, 2, none⟩ = some (.bool sn) := K0.out.cell 2
          have f00 : w3.frozen? ⟨w.heap.size, 0, none⟩ = false := K0.out.frozen 0
          have f01 : w3.frozen? ⟨w.heap.size, 1, none⟩ = false := K0.out.frozen 1
          have f02 : w3.frozen? ⟨w.heap.size, 2, none⟩ = false := K0.out.frozen 2
          have l0 : w.heap.size < w3.heap.size := K0.out.lt
          have c10 : w3.cell? ⟨w.heap.size + 1, 0, none⟩ = some (.string (bs tf)) := K1.out.cell 0
          have c11 : w3.cell? ⟨w.heap.size + 1, 1, none⟩ = some (.string (bs tt)) := K1.out.cell 1
          have c12 : w3.cell? ⟨w.heap.size + 1, 2, none⟩ = some (.bool tn) := K1.out.cell 2
          have f10 : w3.frozen? ⟨w.heap.size + 1, 0, none⟩ = false := K1.out.frozen 0
          have f11 : w3.frozen? ⟨w.heap.size + 1, 1, none⟩ = false := K1.out.frozen 1
          have f12 : w3.frozen? ⟨w.heap.size + 1, 2, none⟩ = false := K1.out.frozen 2
          have l1 : w.heap.size + 1 < w3.heap.size := K1.out.lt
          have c20 : w3.cell? ⟨w.heap.size + 1 + 1, 0, none⟩ = some (.string ⟨#[]⟩) := K2.out.cell 0
          have c21 : w3.cell? ⟨w.heap.size + 1 + 1, 1, none⟩ = some (.string ⟨#[]⟩) := K2.out.cell 1
          have c22 : w3.cell? ⟨w.heap.size + 1 + 1, 2, none⟩ = some (.bool false) := K2.out.cell 2
          have f20 : w3.frozen? ⟨w.heap.size + 1 + 1, 0, none⟩ = false := K2.out.frozen 0
          have f21 : w3.frozen? ⟨w.heap.size + 1 + 1, 1, none⟩ = false := K2.out.frozen 1
          have f22 : w3.frozen? ⟨w.heap.size + 1 + 1, 2, none⟩ = false := K2.out.frozen 2
          have l2 : w.heap.size + 1 + 1 < w3.heap.size := K2.out.lt
          clear hb3
          clear HM
          go_wp2_with fail
          refine (HD.out _).mono ?_
          rintro e w4 ⟨rfl, hb4⟩
          have K0 := Lib.hid (K0.out.on hb4)
          have K1 := Lib.hid (K1.out.on hb4)
          have K2 := Lib.hid (K2.out.on hb4)
          have HB := Lib.hid (HB.out.trans (hb4.mono HB.out.size))
          clear c00 c01 c02 f00 f01 f02 l0 c10 c11 c12 f10 f11 f12 l1 c20 c21 c22 f20 f21 f22 l2
          have c00 : w4.cell? ⟨w.heap.size, 0, none⟩ = some (.string (bs sf)) := K0.out.cell 0
          have c01 : w4.cell? ⟨w.heap.size, 1, none⟩ = some (.string (bs st)) := K0.out.cell 1
          have c02 : w4.cell? ⟨w.heap.size, 2, none⟩ = some (.bool sn) := K0.out.cell 2
          have f00 : w4.frozen? ⟨w.heap.size, 0, none⟩ = false := K0.out.frozen 0
          have f01 : w4.frozen? ⟨w.heap.size, 1, none⟩ = false := K0.out.frozen 1
          have f02 : w4.frozen? ⟨w.heap.size, 2, none⟩ = false := K0.out.frozen 2
          have l0 : w.heap.size < w4.heap.size := K0.out.lt
          have c10 : w4.cell? ⟨w.heap.size + 1, 0, none⟩ = some (.string (bs tf)) := K1.out.cell 0
          have c11 : w4.cell? ⟨w.heap.size + 1, 1, none⟩ = some (.string (bs tt)) := K1.out.cell 1
          have c12 : w4.cell? ⟨w.heap.size + 1, 2, none⟩ = some (.bool tn) := K1.out.cell 2
          have f10 : w4.frozen? ⟨w.heap.size + 1, 0, none⟩ = false := K1.out.frozen 0
          have f11 : w4.frozen? ⟨w.heap.size + 1, 1, none⟩ = false := K1.out.frozen 1
          have f12 : w4.frozen? ⟨w.heap.size + 1, 2, none⟩ = false := K1.out.frozen 2
          have l1 : w.heap.size + 1 < w4.heap.size := K1.out.lt
          have c20 : w4.cell? ⟨w.heap.size + 1 + 1, 0, none⟩ = some (.string ⟨#[]⟩) := K2.out.cell 0
          have c21 : w4.cell? ⟨w.heap.size + 1 + 1, 1, none⟩ = some (.string ⟨#[]⟩) := K2.out.cell 1
          have c22 : w4.cell? ⟨w.heap.size + 1 + 1, 2, none⟩ = some (.bool false) := K2.out.cell 2
          have f20 : w4.frozen? ⟨w.heap.size + 1 + 1, 0, none⟩ = false := K2.out.frozen 0
          have f21 : w4.frozen? ⟨w.heap.size + 1 + 1, 1, none⟩ = false := K2.out.frozen 1
          have f22 : w4.frozen? ⟨w.heap.size + 1 + 1, 2, none⟩ = false := K2.out.frozen 2
          have l2 : w.heap.size + 1 + 1 < w4.heap.size := K2.out.lt
          clear hb4
          clear HD
          go_wp2
          exact bodyPost_ret (v := .tuple #[.agg #[.string (bs tf), .string (bs tt), .bool tn], .bool true]) (by simp [results, Tryd.results42, go_sem, c20, c21, c22]) rfl ⟨rfl, (((HB.out.setCell (by show w.heap.size ≤ w.heap.size + 1 + 1; omega) _).setCell (by show w.heap.size ≤ w.heap.size + 1 + 1; omega) _).setCell (by show w.heap.size ≤ w.heap.size + 1 + 1; omega) _)⟩
      | true =>
        rw [Bool.and_true, if_neg (by decide), if_pos rfl, swV_mk]
        go_enter Tryd.func42, Tryd.ntmps42
        go_wp2_with fail
        refine (HS.out _).mono ?_
        rintro e w1 ⟨rfl, hb1⟩
        have K0 := Lib.hid ((blk3_0 w #[.string (bs sf), .string (bs st), .bool sn] #[.string (bs tf), .string (bs tt), .bool tn] #[.string ⟨#[]⟩, .string ⟨#[]⟩, .bool false]).on hb1)
        have K1 := Lib.hid ((blk3_1 w #[.string (bs sf), .string (bs st), .bool sn] #[.string (bs tf), .string (bs tt), .bool tn] #[.string ⟨#[]⟩, .string ⟨#[]⟩, .bool false]).on hb1)
        have K2 := Lib.hid ((blk3_2 w #[.string (bs sf), .string (bs st), .bool sn] #[.string (bs tf), .string (bs tt), .bool tn] #[.string ⟨#[]⟩, .string ⟨#[]⟩, .bool false]).on hb1)
        have HB := Lib.hid ((bel3 w #[.string (bs sf), .string (bs st), .bool sn] #[.string (bs tf), .string (bs tt), .bool tn] #[.string ⟨#[]⟩, .string ⟨#[]⟩, .bool false]).trans (hb1.mono (bel3 w #[.string (bs sf), .string (bs st), .bool sn] #[.string (bs tf), .string (bs tt), .bool tn] #[.string ⟨#[]⟩, .string ⟨#[]⟩, .bool false]).size))
        have c00 : w1.cell? ⟨w.heap.size, 0, none⟩ = some (.string (bs sf)) := K0.out.cell 0
        have c01 : w1.cell? ⟨w.heap.size, 1, none⟩ = some (.string (bs st)) := K0.out.cell 1
        have c02 : w1.cell? ⟨w.heap.size, 2, none⟩ = some (.bool sn) := K0.out.cell 2
        have f00 : w1.frozen? ⟨w.heap.size, 0, none⟩ = false := K0.out.frozen 0
        have f01 : w1.frozen? ⟨w.heap.size, 1, none⟩ = false := K0.out.frozen 1
        have f02 : w1.frozen? ⟨w.heap.size, 2, none⟩ = false := K0.out.frozen 2
        have l0 : w.heap.size < w1.heap.size := K0.out.lt
        have c10 : w1.cell? ⟨w.heap.size + 1, 0, none⟩ = some (.string (bs tf)) := K1.out.cell 0
        have c11 : w1.cell? ⟨w.heap.size + 1, 1, none⟩ = some (.string (bs tt)) := K1.out.cell 1
        have c12 : w1.cell? ⟨w.heap.size + 1, 2, none⟩ = some (.bool tn) := K1.out.cell 2
        have f10 : w1.frozen? ⟨w.heap.size + 1, 0, none⟩ = false := K1.out.frozen 0
        have f11 : w1.frozen? ⟨w.heap.size + 1, 1, none⟩ = false := K1.out.frozen 1
        have f12 : w1.frozen? ⟨w.heap.size + 1, 2, none⟩ = false := K1.out.frozen 2
        have l1 : w.heap.size + 1 < w1.heap.size := K1.out.lt
        have c20 : w1.cell? ⟨w.heap.size + 1 + 1, 0, none⟩ = some (.string ⟨#[]⟩) := K2.out.cell 0
        have c21 : w1.cell? ⟨w.heap.size + 1 + 1, 1, none⟩ = some (.string ⟨#[]⟩) := K2.out.cell 1
        have c22 : w1.cell? ⟨w.heap.size + 1 + 1, 2, none⟩ = some (.bool false) := K2.out.cell 2
        have f20 : w1.frozen? ⟨w.heap.size + 1 + 1, 0, none⟩ = false := K2.out.frozen 0
        have f21 : w1.frozen? ⟨w.heap.size + 1 + 1, 1, none⟩ = false := K2.out.frozen 1
        have f22 : w1.frozen? ⟨w.heap.size + 1 + 1, 2, none⟩ = false := K2.out.frozen 2
        have l2 : w.heap.size + 1 + 1 < w1.heap.size := K2.out.lt
        clear hb1
        clear HS
        go_wp2_with fail
        refine (HT.out _).mono ?_
        rintro e w2 ⟨rfl, hb2⟩
        have K0 := Lib.hid (K0.out.on hb2)
        have K1 := Lib.hid (K1.out.on hb2)
        have K2 := Lib.hid (K2.out.on hb2)
        have HB := Lib.hid (HB.out.trans (hb2.mono HB.out.size))
        clear c00 c01 c02 f00 f01 f02 l0 c10 c11 c12 f10 f11 f12 l1 c20 c21 c22 f20 f21 f22 l2
        have c00 : w2.cell? ⟨w.heap.size, 0, none⟩ = some (.string (bs sf)) := K0.out.cell 0
        have c01 : w2.cell? ⟨w.heap.size, 1, none⟩ = some (.string (bs st)) := K0.out.cell 1
        have c02 : w2.cell? ⟨w.heap.size, 2, none⟩ = some (.bool sn) := K0.out.cell 2
        have f00 : w2.frozen? ⟨w.heap.size, 0, none⟩ = false := K0.out.frozen 0
        have f01 : w2.frozen? ⟨w.heap.size, 1, none⟩ = false := K0.out.frozen 1
        have f02 : w2.frozen? ⟨w.heap.size, 2, none⟩ = false := K0.out.frozen 2
        have l0 : w.heap.size < w2.heap.size := K0.out.lt
        have c10 : w2.cell? ⟨w.heap.size + 1, 0, none⟩ = some (.string (bs tf)) := K1.out.cell 0
        have c11 : w2.cell? ⟨w.heap.size + 1, 1, none⟩ = some (.string (bs tt)) := K1.out.cell 1
        have c12 : w2.cell? ⟨w.heap.size + 1, 2, none⟩ = some (.bool tn) := K1.out.cell 2
        have f10 : w2.frozen? ⟨w.heap.size + 1, 0, none⟩ = false := K1.out.frozen 0
        have f11 : w2.frozen? ⟨w.heap.size + 1, 1, none⟩ = false := K1.out.frozen 1
        have f12 : w2.frozen? ⟨w.heap.size + 1, 2, none⟩ = false := K1.out.frozen 2
        have l1 : w.heap.size + 1 < w2.heap.size := K1.out.lt
        have c20 : w2.cell? ⟨w.heap.size + 1 + 1, 0, none⟩ = some (.string ⟨#[]⟩) := K2.out.cell 0
        have c21 : w2.cell? ⟨w.heap.size + 1 + 1, 1, none⟩ = some (.string ⟨#[]⟩) := K2.out.cell 1
        have c22 : w2.cell? ⟨w.heap.size + 1 + 1, 2, none⟩ = some (.bool false) := K2.out.cell 2
        have f20 : w2.frozen? ⟨w.heap.size + 1 + 1, 0, none⟩ = false := K2.out.frozen 0
        have f21 : w2.frozen? ⟨w.heap.size + 1 + 1, 1, none⟩ = false := K2.out.frozen 1
        have f22 : w2.frozen? ⟨w.heap.size + 1 + 1, 2, none⟩ = false := K2.out.frozen 2
        have l2 : w.heap.size + 1 + 1 < w2.heap.size := K2.out.lt
        clear hb2
        clear HT
        go_wp2_with fail
        refine (HM.out _).mono ?_
        rintro e w3 ⟨rfl, hb3⟩
        have K0 := Lib.hid (K0.out.on hb3)
        have K1 := Lib.hid (K1.out.on hb3)
        have K2 := Lib.hid (K2.out.on hb3)
        have HB := Lib.hid (HB.out.trans (hb3.mono HB.out.size))
        clear c00 c01 c02 f00 f01 f02 l0 c10 c11 c12 f10 f11 f12 l1 c20 c21 c22 f20 f21 f22 l2
        have c00 : w3.cell? ⟨w.heap.size, 0, none⟩ = some (.string (bs sf)) := K0.out.cell 0
        have c01 : w3.cell? ⟨w.heap.size, 1, none⟩ = some (.string (bs st)) := K0.out.cell 1
        have c02 : w3.cell? ⟨w.heap.size, 2, none⟩ = some (.bool sn) := K0.out.cell 2
        have f00 : w3.frozen? ⟨w.heap.size, 0, none⟩ = false := K0.out.frozen 0
        have f01 : w3.frozen? ⟨w.heap.size, 1, none⟩ = false := K0.out.frozen 1
        have f02 : w3.frozen? ⟨w.heap.size, 2, none⟩ = false := K0.out.frozen 2
        have l0 : w.heap.size < w3.heap.size := K0.out.lt
        have c10 : w3.cell? ⟨w.heap.size + 1, 0, none⟩ = some (.string (bs tf)) := K1.out.cell 0
        have c11 : w3.cell? ⟨w.heap.size + 1, 1, none⟩ = some (.string (bs tt)) := K1.out.cell 1
        have c12 : w3.cell? ⟨w.heap.size + 1, 2, none⟩ = some (.bool tn) := K1.out.cell 2
        have f10 : w3.frozen? ⟨w.heap.size + 1, 0, none⟩ = false := K1.out.frozen 0
        have f11 : w3.frozen? ⟨w.heap.size + 1, 1, none⟩ = false := K1.out.frozen 1
        have f12 : w3.frozen? ⟨w.heap.size + 1, 2, none⟩ = false := K1.out.frozen 2
        have l1 : w.heap.size + 1 < w3.heap.size := K1.out.lt
        have c20 : w3.cell? ⟨w.heap.size + 1 + 1, 0, none⟩ = some (.string ⟨#[]⟩) := K2.out.cell 0
        have c21 : w3.cell? ⟨w.heap.size + 1 + 1, 1, none⟩ = some (.string ⟨#[]⟩) := K2.out.cell 1
        have c22 : w3.cell? ⟨w.heap.size + 1 + 1, 2, none⟩ = some (.bool false) := K2.out.cell 2
        have f20 : w3.frozen? ⟨w.heap.size + 1 + 1, 0, none⟩ = false := K2.out.frozen 0
        have f21 : w3.frozen? ⟨w.heap.size + 1 + 1, 1, none⟩ = false := K2.out.frozen 1
        have f22 : w3.frozen? ⟨w.heap.size + 1 + 1, 2, none⟩ = false := K2.out.frozen 2
        have l2 : w.heap.size + 1 + 1 < w3.heap.size := K2.out.lt
        clear hb3
        clear HM
        go_wp2
        exact bodyPost_ret (v := .tuple #[.agg #[.string (bs sf), .string (bs st), .bool sn], .bool true]) (by simp [results, Tryd.results42, go_sem, c20, c21, c22]) rfl ⟨rfl, (((HB.out.setCell (by show w.heap.size ≤ w.heap.size + 1 + 1; omega) _).setCell (by show w.heap.size ≤ w.heap.size + 1 + 1; omega) _).setCell (by show w.heap.size ≤ w.heap.size + 1 + 1; omega) _)⟩
set_option maxHeartbeats 1000000 in
theorem implTimes_any (sf st tf tt : List UInt8) (sn tn : Bool) (w : World) :
    Calls Tryd.prog 27 #[.agg #[.string (bs sf), .string (bs st), .bool sn], .agg #[.string (bs tf), .string (bs tt), .bool tn]] w fun e w' => e = .returned (.tuple #[swV (timesS ⟨sf, st, sn⟩ ⟨tf, tt, tn⟩).1, .bool (timesS ⟨sf, st, sn⟩ ⟨tf, tt, tn⟩).2]) ∧ Below w.heap.size w w' := by
  have HC := Lib.hid (fun W => product_any sf st tf tt sn tn W)
  have HZ : Hid ((timesS ⟨sf, st, sn⟩ ⟨tf, tt, tn⟩).2 = false → (timesS ⟨sf, st, sn⟩ ⟨tf, tt, tn⟩).1 = .zero) := fun h => by
    show _ = _
    unfold timesS at h ⊢
    split at h
    · cases h
    · rename_i hc; rw [if_neg hc]
  generalize timesS ⟨sf, st, sn⟩ ⟨tf, tt, tn⟩ = R at *
  obtain ⟨⟨mf, mt, mn⟩, rb⟩ := R
  cases rb with
  | false =>
    obtain ⟨rfl, rfl, rfl⟩ : mf = [] ∧ mt = [] ∧ mn = false := by have := HZ.out rfl; injection this with a b c; exact ⟨a, b, c⟩
    clear HZ
    rw [show pdV (⟨[], [], false⟩, false) = .nilIface from rfl] at HC
    have a2 := ta_ns
    rw [swV_mk, show bs [] = ⟨#[]⟩ from rfl]
    go_enter Tryd.func27, Tryd.ntmps27
    go_wp2_with fail
    refine (HC.out _).mono ?_
    rintro e w1 ⟨rfl, hb1⟩
    have K0 := Lib.hid ((blk3_0 w #[.string (bs sf), .string (bs st), .bool sn] #[.string (bs tf), .string (bs tt), .bool tn] #[.string ⟨#[]⟩, .string ⟨#[]⟩, .bool false]).on hb1)
    have K1 := Lib.hid ((blk3_1 w #[.string (bs sf), .string (bs st), .bool sn] #[.string (bs tf), .string (bs tt), .bool tn] #[.string ⟨#[]⟩, .string ⟨#[]⟩, .bool false]).on hb1)
    have K2 := Lib.hid ((blk3_2 w #[.string (bs sf), .string (bs st), .bool sn] #[.string (bs tf), .string (bs tt), .bool tn] #[.string ⟨#[]⟩, .string ⟨#[]⟩, .bool false]).on hb1)
    have HB := Lib.hid ((bel3 w #[.string (bs sf), .string (bs st), .bool sn] #[.string (bs tf), .string (bs tt), .bool tn] #[.string ⟨#[]⟩, .string ⟨#[]⟩, .bool false]).trans (hb1.mono (bel3 w #[.string (bs sf), .string (bs st), .bool sn] #[.string (bs tf), .string (bs tt), .bool tn] #[.string ⟨#[]⟩, .string ⟨#[]⟩, .bool false]).size))
    have c00 : w1.cell? ⟨w.heap.size, 0, none⟩ = some (.string (bs sf)) := K0.out.cell 0
    have c01 : w1.cell? ⟨w.heap.size, 1, none⟩ = some (.string (bs st)) := K0.out.cell 1
    have c02 : w1.cell? ⟨w.heap.size, 2, none⟩ = some (.bool sn) := K0.out.cell 2
    have f00 : w1.frozen? ⟨w.heap.size, 0, none⟩ = false := K0.out.frozen 0
    have f01 : w1.frozen? ⟨w.heap.size, 1, none⟩ = false := K0.out.frozen 1
    have f02 : w1.frozen? ⟨w.heap.size, 2, none⟩ = false := K0.out.frozen 2
    have l0 : w.heap.size < w1.heap.size := K0.out.lt
    have c10 : w1.cell? ⟨w.heap.size + 1, 0, none⟩ = some (.string (bs tf)) := K1.out.cell 0
    have c11 : w1.cell? ⟨w.heap.size + 1, 1, none⟩ = some (.string (bs tt)) := K1.out.cell 1
    have c12 : w1.cell? ⟨w.heap.size + 1, 2, none⟩ = some (.bool tn) := K1.out.cell 2
    have f10 : w1.frozen? ⟨w.heap.size + 1, 0, none⟩ = false := K1.out.frozen 0
    have f11 : w1.frozen? ⟨w.heap.size + 1, 1, none⟩ = false := K1.out.frozen 1
    have f12 : w1.frozen? ⟨w.heap.size + 1, 2, none⟩ = false := K1.out.frozen 2
    have l1 : w.heap.size + 1 < w1.heap.size := K1.out.lt
    have c20 : w1.cell? ⟨w.heap.size + 1 + 1, 0, none⟩ = some (.string ⟨#[]⟩) := K2.out.cell 0
    have c21 : w1.cell? ⟨w.heap.size + 1 + 1, 1, none⟩ = some (.string ⟨#[]⟩) := K2.out.cell 1
    have c22 : w1.cell? ⟨w.heap.size + 1 + 1, 2, none⟩ = some (.bool false) := K2.out.cell 2
    have f20 : w1.frozen? ⟨w.heap.size + 1 + 1, 0, none⟩ = false := K2.out.frozen 0
    have f21 : w1.frozen? ⟨w.heap.size + 1 + 1, 1, none⟩ = false := K2.out.frozen 1
    have f22 : w1.frozen? ⟨w.heap.size + 1 + 1, 2, none⟩ = false := K2.out.frozen 2
    have l2 : w.heap.size + 1 + 1 < w1.heap.size := K2.out.lt
    clear hb1
    clear HC
    go_wp2
    exact bodyPost_ret (v := .tuple #[.agg #[.string ⟨#[]⟩, .string ⟨#[]⟩, .bool false], .bool false]) (by simp [results, Tryd.results27, go_sem, c20, c21, c22, l2]) rfl ⟨rfl, bel_al ((((HB.out).setCell (by show w.heap.size ≤ w.heap.size + 1 + 1; omega) _).setCell (by show w.heap.size ≤ w.heap.size + 1 + 1; omega) _).setCell (by show w.heap.size ≤ w.heap.size + 1 + 1; omega) _) _⟩
  | true =>
    clear HZ
    rw [show pdV (⟨mf, mt, mn⟩, true) = .iface 32 (.agg #[.string (bs mf), .string (bs mt), .bool mn]) from rfl] at HC
    have a2 := ta_ss (.agg #[.string (bs mf), .string (bs mt), .bool mn])
    rw [swV_mk]
    go_enter Tryd.func27, Tryd.ntmps27
    go_wp2_with fail
    refine (HC.out _).mono ?_
    rintro e w1 ⟨rfl, hb1⟩
    have K0 := Lib.hid ((blk3_0 w #[.string (bs sf), .string (bs st), .bool sn] #[.string (bs tf), .string (bs tt), .bool tn] #[.string ⟨#[]⟩, .string ⟨#[]⟩, .bool false]).on hb1)
    have K1 := Lib.hid ((blk3_1 w #[.string (bs sf), .string (bs st), .bool sn] #[.string (bs tf), .string (bs tt), .bool tn] #[.string ⟨#[]⟩, .string ⟨#[]⟩, .bool false]).on hb1)
    have K2 := Lib.hid ((blk3_2 w #[.string (bs sf), .string (bs st), .bool sn] #[.string (bs tf), .string (bs tt), .bool tn] #[.string ⟨#[]⟩, .string ⟨#[]⟩, .bool false]).on hb1)
    have HB := Lib.hid ((bel3 w #[.string (bs sf), .string (bs st), .bool sn] #[.string (bs tf), .string (bs tt), .bool tn] #[.string ⟨#[]⟩, .string ⟨#[]⟩, .bool false]).trans (hb1.mono (bel3 w #[.string (bs sf), .string (bs st), .bool sn] #[.string (bs tf), .string (bs tt), .bool tn] #[.string ⟨#[]⟩, .string ⟨#[]⟩, .bool false]).size))
    have c00 : w1.cell? ⟨w.heap.size, 0, none⟩ = some (.string (bs sf)) := K0.out.cell 0
    have c01 : w1.cell? ⟨w.heap.size, 1, none⟩ = some (.string (bs st)) := K0.out.cell 1
    have c02 : w1.cell? ⟨w.heap.size, 2, none⟩ = some (.bool sn) := K0.out.cell 2
    have f00 : w1.frozen? ⟨w.heap.size, 0, none⟩ = false := K0.out.frozen 0
    have f01 : w1.frozen? ⟨w.heap.size, 1, none⟩ = false := K0.out.frozen 1
    have f02 : w1.frozen? ⟨w.heap.size, 2, none⟩ = false := K0.out.frozen 2
    have l0 : w.heap.size < w1.heap.size := K0.out.lt
    have c10 : w1.cell? ⟨w.heap.size + 1, 0, none⟩ = some (.string (bs tf)) := K1.out.cell 0
    have c11 : w1.cell? ⟨w.heap.size + 1, 1, none⟩ = some (.string (bs tt)) := K1.out.cell 1
    have c12 : w1.cell? ⟨w.heap.size + 1, 2, none⟩ = some (.bool tn) := K1.out.cell 2
    have f10 : w1.frozen? ⟨w.heap.size + 1, 0, none⟩ = false := K1.out.frozen 0
    have f11 : w1.frozen? ⟨w.heap.size + 1, 1, none⟩ = false := K1.out.frozen 1
    have f12 : w1.frozen? ⟨w.heap.size + 1, 2, none⟩ = false := K1.out.frozen 2
    have l1 : w.heap.size + 1 < w1.heap.size := K1.out.lt
    have c20 : w1.cell? ⟨w.heap.size + 1 + 1, 0, none⟩ = some (.string ⟨#[]⟩) := K2.out.cell 0
    have c21 : w1.cell? ⟨w.heap.size + 1 + 1, 1, none⟩ = some (.string ⟨#[]⟩) := K2.out.cell 1
    have c22 : w1.cell? ⟨w.heap.size + 1 + 1, 2, none⟩ = some (.bool false) := K2.out.cell 2
    have f20 : w1.frozen? ⟨w.heap.size + 1 + 1, 0, none⟩ = false := K2.out.frozen 0
    have f21 : w1.frozen? ⟨w.heap.size + 1 + 1, 1, none⟩ = false := K2.out.frozen 1
    have f22 : w1.frozen? ⟨w.heap.size + 1 + 1, 2, none⟩ = false := K2.out.frozen 2
    have l2 : w.heap.size + 1 + 1 < w1.heap.size := K2.out.lt
    clear hb1
    clear HC
    go_wp2
    exact bodyPost_ret (v := .tuple #[.agg #[.string (bs mf), .string (bs mt), .bool mn], .bool true]) (by simp [results, Tryd.results27, go_sem, c20, c21, c22, l2]) rfl ⟨rfl, bel_al ((((HB.out).setCell (by show w.heap.size ≤ w.heap.size + 1 + 1; omega) _).setCell (by show w.heap.size ≤ w.heap.size + 1 + 1; omega) _).setCell (by show w.heap.size ≤ w.heap.size + 1 + 1; omega) _) _⟩
end Go.Proofs.YtdljndpobklkjaaDoor
