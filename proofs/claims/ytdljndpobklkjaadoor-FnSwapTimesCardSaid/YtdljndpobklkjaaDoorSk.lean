/-
  Swaps by the specification: products of two, order, meets.
-/
import Derived.Test.YtdljndpobklkjaaDoorSj
namespace Go.Proofs.YtdljndpobklkjaaDoor
set_option maxRecDepth 100000
set_option linter.unusedVariables false
open Go.RowKit

set_option maxHeartbeats 1000000 in
theorem specTimes_any (sf st tf tt : List UInt8) (sn tn : Bool) (h1 : sf.length ≤ 4000000) (h2 : st.length ≤ 4000000) (h3 : tf.length ≤ 4000000) (h4 : tt.length ≤ 4000000) (w : World) :
    Calls Tryd.prog 29 #[.agg #[.string (bs sf), .string (bs st), .bool sn], .agg #[.string (bs tf), .string (bs tt), .bool tn]] w fun e w' => e = .returned (.tuple #[swV (timesS ⟨sf, st, sn⟩ ⟨tf, tt, tn⟩).1, .bool (timesS ⟨sf, st, sn⟩ ⟨tf, tt, tn⟩).2]) ∧ Below w.heap.size w w' := by
  have HS := Lib.hid (fun W => specIn_any sf st sn (by omega) (by omega) W)
  have HT := Lib.hid (fun W => specIn_any tf tt tn (by omega) (by omega) W)
  have HM := Lib.hid (fun W => l6pTimes_any sf st tf tt sn tn h1 h2 h3 h4 W)
  have hml := mul_len ⟨sf, st, sn⟩ ⟨tf, tt, tn⟩
  have HE : Hid (timesS ⟨sf, st, sn⟩ ⟨tf, tt, tn⟩ = if (inS ⟨sf, st, sn⟩ && inS ⟨tf, tt, tn⟩ && inS (mulS ⟨sf, st, sn⟩ ⟨tf, tt, tn⟩)) = true then (mulS ⟨sf, st, sn⟩ ⟨tf, tt, tn⟩, true) else (.zero, false)) := rfl
  generalize mulS ⟨sf, st, sn⟩ ⟨tf, tt, tn⟩ = m at *
  generalize timesS ⟨sf, st, sn⟩ ⟨tf, tt, tn⟩ = R at *
  have HD := Lib.hid (fun W => l6pDone_any m.f m.t m.n (by have := hml.1; dsimp only at this; omega) (by have := hml.2; dsimp only at this; omega) W)
  clear hml
  cases hs : inS ⟨sf, st, sn⟩ with
  | false =>
    rw [hs] at HS
    rw [HE.out, hs, Bool.false_and, Bool.false_and, if_neg (by decide), swV_zero]
    clear HE HM HD hs
    go_enter Tryd.func29, Tryd.ntmps29
    go_wp2_with fail
    refine (HS.out _).mono ?_
    rintro e w1 ⟨rfl, hb1⟩
    have K0 := Lib.hid ((blk3_0 w #[.string (bs sf), .string (bs st), .bool sn] #[.string (bs tf), .string (bs tt), .bool tn] #[.string ⟨#[]⟩, .string ⟨#[]⟩, .bool false]).on hb1)
    have K1 := Lib.hid ((blk3_1 w #[.string (bs sf), .string (bs st), .bool sn] #[.string (bs tf), .string (bs tt), .bool tn] #[.string ⟨#[]⟩, .string ⟨#[]⟩, .bool false]).on hb1)
    have K2 := Lib.hid ((blk3_2 w #[.string (bs sf), .string (bs st), .bool sn] #[.string (bs tf), .string (bs tt), .bool tn] #[.string ⟨#[]⟩, .string ⟨#[]⟩, .bool false]).on hb1)
    have HB := Lib.hid ((bel3 w #[.string (bs sf), .string (bs st), .bool sn] #[.string (bs tf), .string (bs tt), .bool tn] #[.string ⟨#[]⟩, .string ⟨#[]⟩, .bool false]).trans (hb1.mono (bel3 w #[.string (bs sf), .string (bs st), .bool sn] #[.string (bs tf), .string (bs tt), .bool tn] #[.string ⟨#[]⟩, .string ⟨#[]⟩, .bool false]).size))
    have c00 : w1.cell? ⟨w.heap.size, 0, none⟩ = some (.string (bs sf)) := K0.out.cell 0
    have c01 : w1.cell? ⟨w.heap.size, 1, none⟩ = some (.string (bs st)) := K0.out.cell 1
    have c02 : w1.cell? ⟨w.heap.size, 2, none⟩ = some (.bool sn) := K0.out.cell 2
    have f00 : w1.frozen? ⟨w.heap.size, 0, none⟩ = false := K0.out.frozen 0
    have f01 : w1.frozen? ⟨w.heap.size, 1, none⟩ = false := K0.out.frozen 1
    have f02 : w1.frozen? ⟨w.heap.size, 2, none⟩ = false := K0.out.frozen 2
    have l0 : w.heap.size < w1.heap.size := K0.out.lt
    have c10 : w1.cell? ⟨w.heap.size + 1, 0, none⟩ = some (.string (bs tf)) := K1.out.cell 0
    have c11 : w1.cell? ⟨w.heap.size + 1, 1, none⟩ = some (.string (bs tt)) := K1.out.cell 1
    have c12 : w1.cell? ⟨w.heap.size + 1, 2, none⟩ = some (.bool tn) := K1.out.cell 2
    have f10 : w1.frozen? ⟨w.heap.size + 1, 0, none⟩ = false := K1.out.frozen 0
    have f11 : w1.frozen? ⟨w.heap.size + 1, 1, none⟩ = false := K1.out.frozen 1
    have f12 : w1.frozen? ⟨w.heap.size + 1, 2, none⟩ = false := K1.out.frozen 2
    have l1 : w.heap.size + 1 < w1.heap.size := K1.out.lt
    have c20 : w1.cell? ⟨w.heap.size + 1 + 1, 0, none⟩ = some (.string ⟨#[]⟩) := K2.out.cell 0
    have c21 : w1.cell? ⟨w.heap.size + 1 + 1, 1, none⟩ = some (.string ⟨#[]⟩) := K2.out.cell 1
    have c22 : w1.cell? ⟨w.heap.size + 1 + 1, 2, none⟩ = some (.bool false) := K2.out.cell 2
    have f20 : w1.frozen? ⟨w.heap.size + 1 + 1, 0, none⟩ = false := K2.out.frozen 0
    have f21 : w1.frozen? ⟨w.heap.size + 1 + 1, 1, none⟩ = false := K2.out.frozen 1
    have f22 : w1.frozen? ⟨w.heap.size + 1 + 1, 2, none⟩ = false := K2.out.frozen 2
    have l2 : w.heap.size + 1 + 1 < w1.heap.size := K2.out.lt
    clear hb1
    clear HS
    go_wp2
    exact bodyPost_ret (v := .tuple #[.agg #[.string ⟨#[]⟩, .string ⟨#[]⟩, .bool false], .bool false]) (by simp [results, Tryd.results29, go_sem, c20, c21, c22]) rfl ⟨rfl, (((HB.out.setCell (by show w.heap.size ≤ w.heap.size + 1 + 1; omega) _).setCell (by show w.heap.size ≤ w.heap.size + 1 + 1; omega) _).setCell (by show w.heap.size ≤ w.heap.size + 1 + 1; omega) _)⟩
  | true =>
    rw [hs] at HS
    cases ht : inS ⟨tf, tt, tn⟩ with
    | false =>
      rw [ht] at HT
      rw [HE.out, hs, ht, Bool.and_false, Bool.false_and, if_neg (by decide), swV_zero]
      clear HE HM HD hs ht
      go_enter Tryd.func29, Tryd.ntmps29
      go_wp2_with fail
      refine (HS.out _).mono ?_
      rintro e w1 ⟨rfl, hb1⟩
      have K0 := Lib.hid ((blk3_0 w #[.string (bs sf), .string (bs st), .bool sn] #[.string (bs tf), .string (bs tt), .bool tn] #[.string ⟨#[]⟩, .string ⟨#[]⟩, .bool false]).on hb1)
      have K1 := Lib.hid ((blk3_1 w #[.string (bs sf), .string (bs st), .bool sn] #[.string (bs tf), .string (bs tt), .bool tn] #[.string ⟨#[]⟩, .string ⟨#[]⟩, .bool false]).on hb1)
      have K2 := Lib.hid ((blk3_2 w #[.string (bs sf), .string (bs st), .bool sn] #[.string (bs tf), .string (bs tt), .bool tn] #[.string ⟨#[]⟩, .string ⟨#[]⟩, .bool false]).on hb1)
      have HB := Lib.hid ((bel3 w #[.string (bs sf), .string (bs st), .bool sn] #[.string (bs tf), .string (bs tt), .bool tn] #[.string ⟨#[]⟩, .string ⟨#[]⟩, .bool false]).trans (hb1.mono (bel3 w #[.string (bs sf), .string (bs st), .bool sn] #[.string (bs tf), .string (bs tt), .bool tn] #[.string ⟨#[]⟩, .string ⟨#[]⟩, .bool false]).size))
      have c00 : w1.cell? ⟨w.heap.size, 0, none⟩ = some (.string (bs sf)) := K0.out.cell 0
      have c01 : w1.cell? ⟨w.heap.size, 1, none⟩ = some (.string (bs st)) := K0.out.cell 1
      have c02 : w1.cell? ⟨w.heap.size, 2, none⟩ = some (.bool sn) := K0.out.cell 2
      have f00 : w1.frozen? ⟨w.heap.size, 0, none⟩ = false := K0.out.frozen 0
      have f01 : w1.frozen? ⟨w.heap.size, 1, none⟩ = false := K0.out.frozen 1
      have f02 : w1.frozen? ⟨w.heap.size, 2, none⟩ = false := K0.out.frozen 2
      have l0 : w.heap.size < w1.heap.size := K0.out.lt
      have c10 : w1.cell? ⟨w.heap.size + 1, 0, none⟩ = some (.string (bs tf)) := K1.out.cell 0
      have c11 : w1.cell? ⟨w.heap.size + 1, 1, none⟩ = some (.string (bs tt)) := K1.out.cell 1
      have c12 : w1.cell? ⟨w.heap.size + 1, 2, none⟩ = some (.bool tn) := K1.out.cell 2
      have f10 : w1.frozen? ⟨w.heap.size + 1, 0, none⟩ = false := K1.out.frozen 0
      have f11 : w1.frozen? ⟨w.heap.size + 1, 1, none⟩ = false := K1.out.frozen 1
      have f12 : w1.frozen? ⟨w.heap.size + 1, 2, none⟩ = false := K1.out.frozen 2
      have l1 : w.heap.size + 1 < w1.heap.size := K1.out.lt
      have c20 : w1.cell? ⟨w.heap.size + 1 + 1, 0, none⟩ = some (.string ⟨#[]⟩) := K2.out.cell 0
      have c21 : w1.cell? ⟨w.heap.size + 1 + 1, 1, none⟩ = some (.string ⟨#[]⟩) := K2.out.cell 1
      have c22 : w1.cell? ⟨w.heap.size + 1 + 1, 2, none⟩ = some (.bool false) := K2.out.cell 2
      have f20 : w1.frozen? ⟨w.heap.size + 1 + 1, 0, none⟩ = false := K2.out.frozen 0
      have f21 : w1.frozen? ⟨w.heap.size + 1 + 1, 1, none⟩ = false := K2.out.frozen 1
      have f22 : w1.frozen? ⟨w.heap.size + 1 + 1, 2, none⟩ = false := K2.out.frozen 2
      have l2 : w.heap.size + 1 + 1 < w1.heap.size := K2.out.lt
      clear hb1
      clear HS
      go_wp2_with fail
      refine (HT.out _).mono ?_
      rintro e w2 ⟨rfl, hb2⟩
      have K0 := Lib.hid (K0.out.on hb2)
      have K1 := Lib.hid (K1.out.on hb2)
      have K2 := Lib.hid (K2.out.on hb2)
      have HB := Lib.hid (HB.out.trans (hb2.mono HB.out.size))
      clear c00 c01 c02 f00 f01 f02 l0 c10 c11 c12 f10 f11 f12 l1 c20 c21 c22 f20 f21 f22 l2
      have c00 : w2.cell? ⟨w.heap.size, 0, none⟩ = some (.string (bs sf)) := K0.out.cell 0
      have c01 : w2.cell? ⟨w.heap.size, 1, none⟩ = some (.string (bs st)) := K0.out.cell 1
      have c02 : w2.cell? ⟨w.heap.size, 2, none⟩ = some (.bool sn) := K0.out.cell 2
      have f00 : w2.frozen? ⟨w.heap.size, 0, none⟩ = false := K0.out.frozen 0
      have f01 : w2.frozen? ⟨w.heap.size, 1, none⟩ = false := K0.out.frozen 1
      have f02 : w2.frozen? ⟨w.heap.size, 2, none⟩ = false := K0.out.frozen 2
      have l0 : w.heap.size < w2.heap.size := K0.out.lt
      have c10 : w2.cell? ⟨w.heap.size + 1, 0, none⟩ = some (.string (bs tf)) := K1.out.cell 0
      have c11 : w2.cell? ⟨w.heap.size + 1, 1, none⟩ = some (.string (bs tt)) := K1.out.cell 1
      have c12 : w2.cell? ⟨w.heap.size + 1, 2, none⟩ = some (.bool tn) := K1.out.cell 2
      have f10 : w2.frozen? ⟨w.heap.size + 1, 0, none⟩ = false := K1.out.frozen 0
      have f11 : w2.frozen? ⟨w.heap.size + 1, 1, none⟩ = false := K1.out.frozen 1
      have f12 : w2.frozen? ⟨w.heap.size + 1, 2, none⟩ = false := K1.out.frozen 2
      have l1 : w.heap.size + 1 < w2.heap.size := K1.out.lt
      have c20 : w2.cell? ⟨w.heap.size + 1 + 1, 0, none⟩ = some (.string ⟨#[]⟩) := K2.out.cell 0
      have c21 : w2.cell? ⟨w.heap.size + 1 + 1, 1, none⟩ = some (.string ⟨#[]⟩) := K2.out.cell 1
      have c22 : w2.cell? ⟨w.heap.size + 1 + 1, 2, none⟩ = some (.bool false) := K2.out.cell 2
      have f20 : w2.frozen? ⟨w.heap.size + 1 + 1, 0, none⟩ = false := K2.out.frozen 0
      have f21 : w2.frozen? ⟨w.heap.size + 1 + 1, 1, none⟩ = false := K2.out.frozen 1
      have f22 : w2.frozen? ⟨w.heap.size + 1 + 1, 2, none⟩ = false := K2.out.frozen 2
      have l2 : w.heap.size + 1 + 1 < w2.heap.size := K2.out.lt
      clear hb2
      clear HT
      go_wp2
      exact bodyPost_ret (v := .tuple #[.agg #[.string ⟨#[]⟩, .string ⟨#[]⟩, .bool false], .bool false]) (by simp [results, Tryd.results29, go_sem, c20, c21, c22]) rfl ⟨rfl, (((HB.out.setCell (by show w.heap.size ≤ w.heap.size + 1 + 1; omega) _).setCell (by show w.heap.size ≤ w.heap.size + 1 + 1; omega) _).setCell (by show w.heap.size ≤ w.heap.size + 1 + 1; omega) _)⟩
    | true =>
      rw [ht] at HT
      have HX : Hid (R = doneS m) := by
        show _ = _
        rw [HE.out, hs, ht, Bool.true_and, Bool.true_and]; rfl
      rw [HX.out]
      clear HE HX hs ht
      have hmm : doneS ⟨m.f, m.t, m.n⟩ = doneS m := rfl
      rw [hmm] at HD
      clear hmm
      have hvm : swV m = .agg #[.string (bs m.f), .string (bs m.t), .bool m.n] := rfl
      rw [hvm] at HM
      clear hvm
      generalize doneS m = D at *
      obtain ⟨d, db⟩ := D
      have hd : swV d = .agg #[.string (bs d.f), .string (bs d.t), .bool d.n] := rfl
      dsimp only at HD ⊢
      rw [hd] at HD ⊢
      clear hd
      generalize bs m.f = mf at *
      generalize bs m.t = mt at *
      generalize m.n = mn at *
      generalize bs d.f = df at *
      generalize bs d.t = dt at *
      generalize d.n = dn at *
      go_enter Tryd.func29, Tryd.ntmps29
      go_wp2_with fail
      refine (HS.out _).mono ?_
      rintro e w1 ⟨rfl, hb1⟩
      have K0 := Lib.hid ((blk3_0 w #[.string (bs sf), .string (bs st), .bool sn] #[.string (bs tf), .string (bs tt), .bool tn] #[.string ⟨#[]⟩, .string ⟨#[]⟩, .bool false]).on hb1)
      have K1 := Lib.hid ((blk3_1 w #[.string (bs sf), .string (bs st), .bool sn] #[.string (bs tf), .string (bs tt), .bool tn] #[.string ⟨#[]⟩, .string ⟨#[]⟩, .bool false]).on hb1)
      have K2 := Lib.hid ((blk3_2 w #[.string (bs sf), .string (bs st), .bool sn] #[.string (bs tf), .string (bs tt), .bool tn] #[.string ⟨#[]⟩, .string ⟨#[]⟩, .bool false]).on hb1)
      have HB := Lib.hid ((bel3 w #[.string (bs sf), .string (bs st), .bool sn] #[.string (bs tf), .string (bs tt), .bool tn] #[.string ⟨#[]⟩, .string ⟨#[]⟩, .bool false]).trans (hb1.mono (bel3 w #[.string (bs sf), .string (bs st), .bool sn] #[.string (bs tf), .string (bs tt), .bool tn] #[.string ⟨#[]⟩, .string ⟨#[]⟩, .bool false]).size))
      have c00 : w1.cell? ⟨w.heap.size, 0, none⟩ = some (.string (bs sf)) := K0.out.cell 0
      have c01 : w1.cell? ⟨w.heap.size, 1, none⟩ = some (.string (bs st)) := K0.out.cell 1
      have c02 : w1.cell? ⟨w.heap.size, 2, none⟩ = some (.bool sn) := K0.out.cell 2
      have f00 : w1.frozen? ⟨w.heap.size, 0, none⟩ = false := K0.out.frozen 0
      have f01 : w1.frozen? ⟨w.heap.size, 1, none⟩ = false := K0.out.frozen 1
      have f02 : w1.frozen? ⟨w.heap.size, 2, none⟩ = false := K0.out.frozen 2
      have l0 : w.heap.size < w1.heap.size := K0.out.lt
      have c10 : w1.cell? ⟨w.heap.size + 1, 0, none⟩ = some (.string (bs tf)) := K1.out.cell 0
      have c11 : w1.cell? ⟨w.heap.size + 1, 1, none⟩ = some (.string (bs tt)) := K1.out.cell 1
      have c12 : w1.cell? ⟨w.heap.size + 1, 2, none⟩ = some (.bool tn) := K1.out.cell 2
      have f10 : w1.frozen? ⟨w.heap.size + 1, 0, none⟩ = false := K1.out.frozen 0
      have f11 : w1.frozen? ⟨w.heap.size + 1, 1, none⟩ = false := K1.out.frozen 1
      have f12 : w1.frozen? ⟨w.heap.size + 1, 2, none⟩ = false := K1.out.frozen 2
      have l1 : w.heap.size + 1 < w1.heap.size := K1.out.lt
      have c20 : w1.cell? ⟨w.heap.size + 1 + 1, 0, none⟩ = some (.string ⟨#[]⟩) := K2.out.cell 0
      have c21 : w1.cell? ⟨w.heap.size + 1 + 1, 1, none⟩ = some (.string ⟨#[]⟩) := K2.out.cell 1
      have c22 : w1.cell? ⟨w.heap.size + 1 + 1, 2, none⟩ = some (.bool false) := K2.out.cell 2
      have f20 : w1.frozen? ⟨w.heap.size + 1 + 1, 0, none⟩ = false := K2.out.frozen 0
      have f21 : w1.frozen? ⟨w.heap.size + 1 + 1, 1, none⟩ = false := K2.out.frozen 1
      have f22 : w1.frozen? ⟨w.heap.size + 1 + 1, 2, none⟩ = false := K2.out.frozen 2
      have l2 : w.heap.size + 1 + 1 < w1.heap.size := K2.out.lt
      clear hb1
      clear HS
      go_wp2_with fail
      refine (HT.out _).mono ?_
      rintro e w2 ⟨rfl, hb2⟩
      have K0 := Lib.hid (K0.out.on hb2)
      have K1 := Lib.hid (K1.out.on hb2)
      have K2 := Lib.hid (K2.out.on hb2)
      have HB := Lib.hid (HB.out.trans (hb2.mono HB.out.size))
      clear c00 c01 c02 f00 f01 f02 l0 c10 c11 c12 f10 f11 f12 l1 c20 c21 c22 f20 f21 f22 l2
      have c00 : w2.cell? ⟨w.heap.size, 0, none⟩ = some (.string (bs sf)) := K0.out.cell 0
      have c01 : w2.cell? ⟨w.heap.size, 1, none⟩ = some (.string (bs st)) := K0.out.cell 1
      have c02 : w2.cell? ⟨w.heap.size, 2, none⟩ = some (.bool sn) := K0.out.cell 2
      have f00 : w2.frozen? ⟨w.heap.size, 0, none⟩ = false := K0.out.frozen 0
      have f01 : w2.frozen? ⟨w.heap.size, 1, none⟩ = false := K0.out.frozen 1
      have f02 : w2.frozen? ⟨w.heap.size, 2, none⟩ = false := K0.out.frozen 2
      have l0 : w.heap.size < w2.heap.size := K0.out.lt
      have c10 : w2.cell? ⟨w.heap.size + 1, 0, none⟩ = some (.string (bs tf)) := K1.out.cell 0
      have c11 : w2.cell? ⟨w.heap.size + 1, 1, none⟩ = some (.string (bs tt)) := K1.out.cell 1
      have c12 : w2.cell? ⟨w.heap.size + 1, 2, none⟩ = some (.bool tn) := K1.out.cell 2
      have f10 : w2.frozen? ⟨w.heap.size + 1, 0, none⟩ = false := K1.out.frozen 0
      have f11 : w2.frozen? ⟨w.heap.size + 1, 1, none⟩ = false := K1.out.frozen 1
      have f12 : w2.frozen? ⟨w.heap.size + 1, 2, none⟩ = false := K1.out.frozen 2
      have l1 : w.heap.size + 1 < w2.heap.size := K1.out.lt
      have c20 : w2.cell? ⟨w.heap.size + 1 + 1, 0, none⟩ = some (.string ⟨#[]⟩) := K2.out.cell 0
      have c21 : w2.cell? ⟨w.heap.size + 1 + 1, 1, none⟩ = some (.string ⟨#[]⟩) := K2.out.cell 1
      have c22 : w2.cell? ⟨w.heap.size + 1 + 1, 2, none⟩ = some (.bool false) := K2.out.cell 2
      have f20 : w2.frozen? ⟨w.heap.size + 1 + 1, 0, none⟩ = false := K2.out.frozen 0
      have f21 : w2.frozen? ⟨w.heap.size + 1 + 1, 1, none⟩ = false := K2.out.frozen 1
      have f22 : w2.frozen? ⟨w.heap.size + 1 + 1, 2, none⟩ = false := K2.out.frozen 2
      have l2 : w.heap.size + 1 + 1 < w2.heap.size := K2.out.lt
      clear hb2
      clear HT
      go_wp2_with fail
      refine (HM.out _).mono ?_
      rintro e w3 ⟨rfl, hb3⟩
      have K0 := Lib.hid (K0.out.on hb3)
      have K1 := Lib.hid (K1.out.on hb3)
      have K2 := Lib.hid (K2.out.on hb3)
      have HB := Lib.hid (HB.out.trans (hb3.mono HB.out.size))
      clear c00 c01 c02 f00 f01 f02 l0 c10 c11 c12 f10 f11 f12 l1 c20 c21 c22 f20 f21 f22 l2
      have c00 : w3.cell? ⟨w.heap.size, 0, none⟩ = some (.string (bs sf)) := K0.out.cell 0
      have c01 : w3.cell? ⟨w.heap.size, 1, none⟩ = some (.string (bs st)) := K0.out.cell 1
      have c02 : w3.cell? ⟨w.heap.size, 2, none⟩ = some (.bool sn) := K0.out.cell 2
      have f00 : w3.frozen? ⟨w.heap.size, 0, none⟩ = false := K0.out.frozen 0
      have f01 : w3.frozen? ⟨w.heap.size, 1, none⟩ = false := K0.out.frozen 1
      have f02 : w3.frozen? ⟨w.heap.size, 2, none⟩ = false := K0.out.frozen 2
      have l0 : w.heap.size < w3.heap.size := K0.out.lt
      have c10 : w3.cell? ⟨w.heap.size + 1, 0, none⟩ = some (.string (bs tf)) := K1.out.cell 0
      have c11 : w3.cell? ⟨w.heap.size + 1, 1, none⟩ = some (.string (bs tt)) := K1.out.cell 1
      have c12 : w3.cell? ⟨w.heap.size + 1, 2, none⟩ = some (.bool tn) := K1.out.cell 2
      have f10 : w3.frozen? ⟨w.heap.size + 1, 0, none⟩ = false := K1.out.frozen 0
      have f11 : w3.frozen? ⟨w.heap.size + 1, 1, none⟩ = false := K1.out.frozen 1
      have f12 : w3.frozen? ⟨w.heap.size + 1, 2, none⟩ = false := K1.out.frozen 2
      have l1 : w.heap.size + 1 < w3.heap.size := K1.out.lt
      have c20 : w3.cell? ⟨w.heap.size + 1 + 1, 0, none⟩ = some (.string ⟨#[]⟩) := K2.out.cell 0
      have c21 : w3.cell? ⟨w.heap.size + 1 + 1, 1, none⟩ = some (.string ⟨#[]⟩) := K2.out.cell 1
      have c22 : w3.cell? ⟨w.heap.size + 1 + 1, 2, none⟩ = some (.bool false) := K2.out.cell 2
      have f20 : w3.frozen? ⟨w.heap.size + 1 + 1, 0, none⟩ = false := K2.out.frozen 0
      have f21 : w3.frozen? ⟨w.heap.size + 1 + 1, 1, none⟩ = false := K2.out.frozen 1
      have f22 : w3.frozen? ⟨w.heap.size + 1 + 1, 2, none⟩ = false := K2.out.frozen 2
      have l2 : w.heap.size + 1 + 1 < w3.heap.size := K2.out.lt
      clear hb3
      clear HM
      go_wp2_with fail
      refine (HD.out _).mono ?_
      rintro e w4 ⟨rfl, hb4⟩
      have K0 := Lib.hid (K0.out.on hb4)
      have K1 := Lib.hid (K1.out.on hb4)
      have K2 := Lib.hid (K2.out.on hb4)
      have HB := Lib.hid (HB.out.trans (hb4.mono HB.out.size))
      clear c00 c01 c02 f00 f01 f02 l0 c10 c11 c12 f10 f11 f12 l1 c20 c21 c22 f20 f21 f22 l2
      have c00 : w4.cell? ⟨w.heap.size, 0, none⟩ = some (.string (bs sf)) := K0.out.cell 0
      have c01 : w4.cell? ⟨w.heap.size, 1, none⟩ = some (.string (bs st)) := K0.out.cell 1
      have c02 : w4.cell? ⟨w.heap.size, 2, none⟩ = some (.bool sn) := K0.out.cell 2
      have f00 : w4.frozen? ⟨w.heap.size, 0, none⟩ = false := K0.out.frozen 0
      have f01 : w4.frozen? ⟨w.heap.size, 1, none⟩ = false := K0.out.frozen 1
      have f02 : w4.frozen? ⟨w.heap.size, 2, none⟩ = false := K0.out.frozen 2
      have l0 : w.heap.size < w4.heap.size := K0.out.lt
      have c10 : w4.cell? ⟨w.heap.size + 1, 0, none⟩ = some (.string (bs tf)) := K1.out.cell 0
      have c11 : w4.cell? ⟨w.heap.size + 1, 1, none⟩ = some (.string (bs tt)) := K1.out.cell 1
      have c12 : w4.cell? ⟨w.heap.size + 1, 2, none⟩ = some (.bool tn) := K1.out.cell 2
      have f10 : w4.frozen? ⟨w.heap.size + 1, 0, none⟩ = false := K1.out.frozen 0
      have f11 : w4.frozen? ⟨w.heap.size + 1, 1, none⟩ = false := K1.out.frozen 1
      have f12 : w4.frozen? ⟨w.heap.size + 1, 2, none⟩ = false := K1.out.frozen 2
      have l1 : w.heap.size + 1 < w4.heap.size := K1.out.lt
      have c20 : w4.cell? ⟨w.heap.size + 1 + 1, 0, none⟩ = some (.string ⟨#[]⟩) := K2.out.cell 0
      have c21 : w4.cell? ⟨w.heap.size + 1 + 1, 1, none⟩ = some (.string ⟨#[]⟩) := K2.out.cell 1
      have c22 : w4.cell? ⟨w.heap.size + 1 + 1, 2, none⟩ = some (.bool false) := K2.out.cell 2
      have f20 : w4.frozen? ⟨w.heap.size + 1 + 1, 0, none⟩ = false := K2.out.frozen 0
      have f21 : w4.frozen? ⟨w.heap.size + 1 + 1, 1, none⟩ = false := K2.out.frozen 1
      have f22 : w4.frozen? ⟨w.heap.size + 1 + 1, 2, none⟩ = false := K2.out.frozen 2
      have l2 : w.heap.size + 1 + 1 < w4.heap.size := K2.out.lt
      clear hb4
      clear HD
      go_wp2
      exact bodyPost_ret (v := .tuple #[.agg #[.string df, .string dt, .bool dn], .bool db]) (by simp [results, Tryd.results29, go_sem, c20, c21, c22]) rfl ⟨rfl, (((HB.out.setCell (by show w.heap.size ≤ w.heap.size + 1 + 1; omega) _).setCell (by show w.heap.size ≤ w.heap.size + 1 + 1; omega) _).setCell (by show w.heap.size ≤ w.heap.size + 1 + 1; omega) _)⟩
set_option maxHeartbeats 1000000 in
theorem l6pBelow_any (sf st tf tt : List UInt8) (sn tn : Bool) (w : World) :
    Calls Tryd.prog 64 #[.agg #[.string (bs sf), .string (bs st), .bool sn], .agg #[.string (bs tf), .string (bs tt), .bool tn]] w fun e w' => e = .returned (.bool (belS ⟨sf, st, sn⟩ ⟨tf, tt, tn⟩)) ∧ Below w.heap.size w w' := by
  have HE : Hid (belS ⟨sf, st, sn⟩ ⟨tf, tt, tn⟩ = if (sn || tn) = true then sn else beg sf tf && beg st tt && sf.drop tf.length == st.drop tt.length) := rfl
  cases sn with
  | false =>
    cases tn with
    | false =>
      rw [HE.out, Bool.false_or, if_neg (by decide)]
      clear HE
      have hle1 : beg sf tf = true → (tf.length : Int) ≤ (sf.length : Int) := fun h => by obtain ⟨e, rfl⟩ := beg_iff.1 h; rw [List.length_append]; omega
      have hle2 : beg st tt = true → (tt.length : Int) ≤ (st.length : Int) := fun h => by obtain ⟨e, rfl⟩ := beg_iff.1 h; rw [List.length_append]; omega
      have HB1 := Lib.hid (fun W => l6pBegins_any sf tf W)
      have HB2 := Lib.hid (fun W => l6pBegins_any st tt W)
      have z1 := bs_size sf
      have z2 := bs_size st
      have z3 := bs_size tf
      have z4 := bs_size tt
      have x1 := sub_bs sf tf
      have x2 := sub_bs st tt
      have e1 := bs_list (sf.drop tf.length)
      have e2 := bs_list (st.drop tt.length)
      cases hb : beg sf tf with
      | false =>
        rw [hb] at HB1
        rw [Bool.false_and, Bool.false_and]
        clear hle1 hle2 x1 x2 e1 e2 HB2 hb
        go_enter Tryd.func64, Tryd.ntmps64
        go_wp2_with fail
        go_quiet ((go_at_call 63; exact Calls.quiet_of_same (HB1.out _)))
        go_wp2
        go_ret
        exact ⟨by try rfl, below_drewN (bel2 w _ _) _⟩
      | true =>
        rw [hb] at HB1
        cases hb2 : beg st tt with
        | false =>
          rw [hb2] at HB2
          rw [Bool.and_false, Bool.false_and]
          clear hle1 hle2 x1 x2 e1 e2 hb hb2
          go_enter Tryd.func64, Tryd.ntmps64
          go_wp2_with fail
          go_quiet ((go_at_call 63; first | with_reducible exact Calls.quiet_of_same (HB1.out _) | with_reducible exact Calls.quiet_of_same (HB2.out _)))
          go_wp2
          go_ret
          exact ⟨by try rfl, below_drewN (bel2 w _ _) _⟩
        | true =>
          rw [hb2] at HB2
          rw [Bool.true_and, Bool.true_and]
          have hl1 := hle1 hb
          have hl2 := hle2 hb2
          clear hle1 hle2 hb hb2
          go_enter Tryd.func64, Tryd.ntmps64
          go_wp2_with fail
          go_quiet ((go_at_call 63; first | with_reducible exact Calls.quiet_of_same (HB1.out _) | with_reducible exact Calls.quiet_of_same (HB2.out _)))
          go_wp2
          go_ret
          exact ⟨by try rfl, below_drewN (bel2 w _ _) _⟩
    | true =>
      rw [HE.out, Bool.or_true, if_pos rfl]
      clear HE
      go_enter Tryd.func64, Tryd.ntmps64
      go_wp2
      go_ret
      exact ⟨by try rfl, (bel2 w _ _)⟩
  | true =>
    rw [HE.out, Bool.true_or, if_pos rfl]
    clear HE
    go_enter Tryd.func64, Tryd.ntmps64
    go_wp2
    go_ret
    exact ⟨by try rfl, (bel2 w _ _)⟩
set_option maxHeartbeats 1000000 in
theorem specBelow_any (sf st tf tt : List UInt8) (sn tn : Bool) (h1 : sf.length ≤ 4000000) (h2 : st.length ≤ 4000000) (h3 : tf.length ≤ 4000000) (h4 : tt.length ≤ 4000000) (w : World) :
    Calls Tryd.prog 40 #[.agg #[.string (bs sf), .string (bs st), .bool sn], .agg #[.string (bs tf), .string (bs tt), .bool tn]] w fun e w' => e = .returned (.bool (belowS ⟨sf, st, sn⟩ ⟨tf, tt, tn⟩)) ∧ Below w.heap.size w w' := by
  have HS := Lib.hid (fun W => specIn_any sf st sn (by omega) (by omega) W)
  have HT := Lib.hid (fun W => specIn_any tf tt tn (by omega) (by omega) W)
  have HM := Lib.hid (fun W => l6pBelow_any sf st tf tt sn tn W)
  have HE : Hid (belowS ⟨sf, st, sn⟩ ⟨tf, tt, tn⟩ = (inS ⟨sf, st, sn⟩ && inS ⟨tf, tt, tn⟩ && belS ⟨sf, st, sn⟩ ⟨tf, tt, tn⟩)) := rfl
  rw [HE.out]
  clear HE
  generalize inS ⟨sf, st, sn⟩ = x at *
  generalize inS ⟨tf, tt, tn⟩ = y at *
  generalize belS ⟨sf, st, sn⟩ ⟨tf, tt, tn⟩ = z at *
  clear h1 h2 h3 h4
  cases x with
  | false =>
    go_enter Tryd.func40, Tryd.ntmps40
    go_wp2_with fail
    refine (HS.out _).mono ?_
    rintro e w1 ⟨rfl, hb1⟩
    have K0 := Lib.hid ((blk2_0 w #[.string (bs sf), .string (bs st), .bool sn] #[.string (bs tf), .string (bs tt), .bool tn]).on hb1)
    have K1 := Lib.hid ((blk2_1 w #[.string (bs sf), .string (bs st), .bool sn] #[.string (bs tf), .string (bs tt), .bool tn]).on hb1)
    have HB := Lib.hid ((bel2 w #[.string (bs sf), .string (bs st), .bool sn] #[.string (bs tf), .string (bs tt), .bool tn]).trans (hb1.mono (bel2 w #[.string (bs sf), .string (bs st), .bool sn] #[.string (bs tf), .string (bs tt), .bool tn]).size))
    have c00 : w1.cell? ⟨w.heap.size, 0, none⟩ = some (.string (bs sf)) := K0.out.cell 0
    have c01 : w1.cell? ⟨w.heap.size, 1, none⟩ = some (.string (bs st)) := K0.out.cell 1
    have c02 : w1.cell? ⟨w.heap.size, 2, none⟩ = some (.bool sn) := K0.out.cell 2
    have f00 : w1.frozen? ⟨w.heap.size, 0, none⟩ = false := K0.out.frozen 0
    have f01 : w1.frozen? ⟨w.heap.size, 1, none⟩ = false := K0.out.frozen 1
    have f02 : w1.frozen? ⟨w.heap.size, 2, none⟩ = false := K0.out.frozen 2
    have l0 : w.heap.size < w1.heap.size := K0.out.lt
    have c10 : w1.cell? ⟨w.heap.size + 1, 0, none⟩ = some (.string (bs tf)) := K1.out.cell 0
    have c11 : w1.cell? ⟨w.heap.size + 1, 1, none⟩ = some (.string (bs tt)) := K1.out.cell 1
    have c12 : w1.cell? ⟨w.heap.size + 1, 2, none⟩ = some (.bool tn) := K1.out.cell 2
    have f10 : w1.frozen? ⟨w.heap.size + 1, 0, none⟩ = false := K1.out.frozen 0
    have f11 : w1.frozen? ⟨w.heap.size + 1, 1, none⟩ = false := K1.out.frozen 1
    have f12 : w1.frozen? ⟨w.heap.size + 1, 2, none⟩ = false := K1.out.frozen 2
    have l1 : w.heap.size + 1 < w1.heap.size := K1.out.lt
    clear hb1
    clear HS
    go_wp2
    go_ret
    exact ⟨by try rfl, HB.out⟩
  | true =>
    cases y with
    | false =>
      go_enter Tryd.func40, Tryd.ntmps40
      go_wp2_with fail
      refine (HS.out _).mono ?_
      rintro e w1 ⟨rfl, hb1⟩
      have K0 := Lib.hid ((blk2_0 w #[.string (bs sf), .string (bs st), .bool sn] #[.string (bs tf), .string (bs tt), .bool tn]).on hb1)
      have K1 := Lib.hid ((blk2_1 w #[.string (bs sf), .string (bs st), .bool sn] #[.string (bs tf), .string (bs tt), .bool tn]).on hb1)
      have HB := Lib.hid ((bel2 w #[.string (bs sf), .string (bs st), .bool sn] #[.string (bs tf), .string (bs tt), .bool tn]).trans (hb1.mono (bel2 w #[.string (bs sf), .string (bs st), .bool sn] #[.string (bs tf), .string (bs tt), .bool tn]).size))
      have c00 : w1.cell? ⟨w.heap.size, 0, none⟩ = some (.string (bs sf)) := K0.out.cell 0
      have c01 : w1.cell? ⟨w.heap.size, 1, none⟩ = some (.string (bs st)) := K0.out.cell 1
      have c02 : w1.cell? ⟨w.heap.size, 2, none⟩ = some (.bool sn) := K0.out.cell 2
      have f00 : w1.frozen? ⟨w.heap.size, 0, none⟩ = false := K0.out.frozen 0
      have f01 : w1.frozen? ⟨w.heap.size, 1, none⟩ = false := K0.out.frozen 1
      have f02 : w1.frozen? ⟨w.heap.size, 2, none⟩ = false := K0.out.frozen 2
      have l0 : w.heap.size < w1.heap.size := K0.out.lt
      have c10 : w1.cell? ⟨w.heap.size + 1, 0, none⟩ = some (.string (bs tf)) := K1.out.cell 0
      have c11 : w1.cell? ⟨w.heap.size + 1, 1, none⟩ = some (.string (bs tt)) := K1.out.cell 1
      have c12 : w1.cell? ⟨w.heap.size + 1, 2, none⟩ = some (.bool tn) := K1.out.cell 2
      have f10 : w1.frozen? ⟨w.heap.size + 1, 0, none⟩ = false := K1.out.frozen 0
      have f11 : w1.frozen? ⟨w.heap.size + 1, 1, none⟩ = false := K1.out.frozen 1
      have f12 : w1.frozen? ⟨w.heap.size + 1, 2, none⟩ = false := K1.out.frozen 2
      have l1 : w.heap.size + 1 < w1.heap.size := K1.out.lt
      clear hb1
      clear HS
      go_wp2_with fail
      refine (HT.out _).mono ?_
      rintro e w2 ⟨rfl, hb2⟩
      have K0 := Lib.hid (K0.out.on hb2)
      have K1 := Lib.hid (K1.out.on hb2)
      have HB := Lib.hid (HB.out.trans (hb2.mono HB.out.size))
      clear c00 c01 c02 f00 f01 f02 l0 c10 c11 c12 f10 f11 f12 l1
      have c00 : w2.cell? ⟨w.heap.size, 0, none⟩ = some (.string (bs sf)) := K0.out.cell 0
      have c01 : w2.cell? ⟨w.heap.size, 1, none⟩ = some (.string (bs st)) := K0.out.cell 1
      have c02 : w2.cell? ⟨w.heap.size, 2, none⟩ = some (.bool sn) := K0.out.cell 2
      have f00 : w2.frozen? ⟨w.heap.size, 0, none⟩ = false := K0.out.frozen 0
      have f01 : w2.frozen? ⟨w.heap.size, 1, none⟩ = false := K0.out.frozen 1
      have f02 : w2.frozen? ⟨w.heap.size, 2, none⟩ = false := K0.out.frozen 2
      have l0 : w.heap.size < w2.heap.size := K0.out.lt
      have c10 : w2.cell? ⟨w.heap.size + 1, 0, none⟩ = some (.string (bs tf)) := K1.out.cell 0
      have c11 : w2.cell? ⟨w.heap.size + 1, 1, none⟩ = some (.string (bs tt)) := K1.out.cell 1
      have c12 : w2.cell? ⟨w.heap.size + 1, 2, none⟩ = some (.bool tn) := K1.out.cell 2
      have f10 : w2.frozen? ⟨w.heap.size + 1, 0, none⟩ = false := K1.out.frozen 0
      have f11 : w2.frozen? ⟨w.heap.size + 1, 1, none⟩ = false := K1.out.frozen 1
      have f12 : w2.frozen? ⟨w.heap.size + 1, 2, none⟩ = false := K1.out.frozen 2
      have l1 : w.heap.size + 1 < w2.heap.size := K1.out.lt
      clear hb2
      clear HT
      go_wp2
      go_ret
      exact ⟨by try rfl, HB.out⟩
    | true =>
      go_enter Tryd.func40, Tryd.ntmps40
      go_wp2_with fail
      refine (HS.out _).mono ?_
      rintro e w1 ⟨rfl, hb1⟩
      have K0 := Lib.hid ((blk2_0 w #[.string (bs sf), .string (bs st), .bool sn] #[.string (bs tf), .string (bs tt), .bool tn]).on hb1)
      have K1 := Lib.hid ((blk2_1 w #[.string (bs sf), .string (bs st), .bool sn] #[.string (bs tf), .string (bs tt), .bool tn]).on hb1)
      have HB := Lib.hid ((bel2 w #[.string (bs sf), .string (bs st), .bool sn] #[.string (bs tf), .string (bs tt), .bool tn]).trans (hb1.mono (bel2 w #[.string (bs sf), .string (bs st), .bool sn] #[.string (bs tf), .string (bs tt), .bool tn]).size))
      have c00 : w1.cell? ⟨w.heap.size, 0, none⟩ = some (.string (bs sf)) := K0.out.cell 0
      have c01 : w1.cell? ⟨w.heap.size, 1, none⟩ = some (.string (bs st)) := K0.out.cell 1
      have c02 : w1.cell? ⟨w.heap.size, 2, none⟩ = some (.bool sn) := K0.out.cell 2
      have f00 : w1.frozen? ⟨w.heap.size, 0, none⟩ = false := K0.out.frozen 0
      have f01 : w1.frozen? ⟨w.heap.size, 1, none⟩ = false := K0.out.frozen 1
      have f02 : w1.frozen? ⟨w.heap.size, 2, none⟩ = false := K0.out.frozen 2
      have l0 : w.heap.size < w1.heap.size := K0.out.lt
      have c10 : w1.cell? ⟨w.heap.size + 1, 0, none⟩ = some (.string (bs tf)) := K1.out.cell 0
      have c11 : w1.cell? ⟨w.heap.size + 1, 1, none⟩ = some (.string (bs tt)) := K1.out.cell 1
      have c12 : w1.cell? ⟨w.heap.size + 1, 2, none⟩ = some (.bool tn) := K1.out.cell 2
      have f10 : w1.frozen? ⟨w.heap.size + 1, 0, none⟩ = false := K1.out.frozen 0
      have f11 : w1.frozen? ⟨w.heap.size + 1, 1, none⟩ = false := K1.out.frozen 1
      have f12 : w1.frozen? ⟨w.heap.size + 1, 2, none⟩ = false := K1.out.frozen 2
      have l1 : w.heap.size + 1 < w1.heap.size := K1.out.lt
      clear hb1
      clear HS
      go_wp2_with fail
      refine (HT.out _).mono ?_
      rintro e w2 ⟨rfl, hb2⟩
      have K0 := Lib.hid (K0.out.on hb2)
      have K1 := Lib.hid (K1.out.on hb2)
      have HB := Lib.hid (HB.out.trans (hb2.mono HB.out.size))
      clear c00 c01 c02 f00 f01 f02 l0 c10 c11 c12 f10 f11 f12 l1
      have c00 : w2.cell? ⟨w.heap.size, 0, none⟩ = some (.string (bs sf)) := K0.out.cell 0
      have c01 : w2.cell? ⟨w.heap.size, 1, none⟩ = some (.string (bs st)) := K0.out.cell 1
      have c02 : w2.cell? ⟨w.heap.size, 2, none⟩ = some (.bool sn) := K0.out.cell 2
      have f00 : w2.frozen? ⟨w.heap.size, 0, none⟩ = false := K0.out.frozen 0
      have f01 : w2.frozen? ⟨w.heap.size, 1, none⟩ = false := K0.out.frozen 1
      have f02 : w2.frozen? ⟨w.heap.size, 2, none⟩ = false := K0.out.frozen 2
      have l0 : w.heap.size < w2.heap.size := K0.out.lt
      have c10 : w2.cell? ⟨w.heap.size + 1, 0, none⟩ = some (.string (bs tf)) := K1.out.cell 0
      have c11 : w2.cell? ⟨w.heap.size + 1, 1, none⟩ = some (.string (bs tt)) := K1.out.cell 1
      have c12 : w2.cell? ⟨w.heap.size + 1, 2, none⟩ = some (.bool tn) := K1.out.cell 2
      have f10 : w2.frozen? ⟨w.heap.size + 1, 0, none⟩ = false := K1.out.frozen 0
      have f11 : w2.frozen? ⟨w.heap.size + 1, 1, none⟩ = false := K1.out.frozen 1
      have f12 : w2.frozen? ⟨w.heap.size + 1, 2, none⟩ = false := K1.out.frozen 2
      have l1 : w.heap.size + 1 < w2.heap.size := K1.out.lt
      clear hb2
      clear HT
      go_wp2_with fail
      refine (HM.out _).mono ?_
      rintro e w3 ⟨rfl, hb3⟩
      have K0 := Lib.hid (K0.out.on hb3)
      have K1 := Lib.hid (K1.out.on hb3)
      have HB := Lib.hid (HB.out.trans (hb3.mono HB.out.size))
      clear c00 c01 c02 f00 f01 f02 l0 c10 c11 c12 f10 f11 f12 l1
      have c00 : w3.cell? ⟨w.heap.size, 0, none⟩ = some (.string (bs sf)) := K0.out.cell 0
      have c01 : w3.cell? ⟨w.heap.size, 1, none⟩ = some (.string (bs st)) := K0.out.cell 1
      have c02 : w3.cell? ⟨w.heap.size, 2, none⟩ = some (.bool sn) := K0.out.cell 2
      have f00 : w3.frozen? ⟨w.heap.size, 0, none⟩ = false := K0.out.frozen 0
      have f01 : w3.frozen? ⟨w.heap.size, 1, none⟩ = false := K0.out.frozen 1
      have f02 : w3.frozen? ⟨w.heap.size, 2, none⟩ = false := K0.out.frozen 2
      have l0 : w.heap.size < w3.heap.size := K0.out.lt
      have c10 : w3.cell? ⟨w.heap.size + 1, 0, none⟩ = some (.string (bs tf)) := K1.out.cell 0
      have c11 : w3.cell? ⟨w.heap.size + 1, 1, none⟩ = some (.string (bs tt)) := K1.out.cell 1
      have c12 : w3.cell? ⟨w.heap.size + 1, 2, none⟩ = some (.bool tn) := K1.out.cell 2
      have f10 : w3.frozen? ⟨w.heap.size + 1, 0, none⟩ = false := K1.out.frozen 0
      have f11 : w3.frozen? ⟨w.heap.size + 1, 1, none⟩ = false := K1.out.frozen 1
      have f12 : w3.frozen? ⟨w.heap.size + 1, 2, none⟩ = false := K1.out.frozen 2
      have l1 : w.heap.size + 1 < w3.heap.size := K1.out.lt
      clear hb3
      clear HM
      go_wp2
      go_ret
      exact ⟨by try rfl, HB.out⟩
set_option maxHeartbeats 1000000 in
theorem specMeet_any (sf st tf tt : List UInt8) (sn tn : Bool) (h1 : sf.length ≤ 4000000) (h2 : st.length ≤ 4000000) (h3 : tf.length ≤ 4000000) (h4 : tt.length ≤ 4000000) (w : World) :
    Calls Tryd.prog 43 #[.agg #[.string (bs sf), .string (bs st), .bool sn], .agg #[.string (bs tf), .string (bs tt), .bool tn]] w fun e w' => e = .returned (.tuple #[swV (meetS ⟨sf, st, sn⟩ ⟨tf, tt, tn⟩).1, .bool (meetS ⟨sf, st, sn⟩ ⟨tf, tt, tn⟩).2]) ∧ Below w.heap.size w w' := by
  have HS := Lib.hid (fun W => specIn_any sf st sn (by omega) (by omega) W)
  have HT := Lib.hid (fun W => specIn_any tf tt tn (by omega) (by omega) W)
  have HM := Lib.hid (fun W => l6pBelow_any sf st tf tt sn tn W)
  have HD := Lib.hid (fun W => l6pBelow_any tf tt sf st tn sn W)
  have HE : Hid (meetS ⟨sf, st, sn⟩ ⟨tf, tt, tn⟩ = if (inS ⟨sf, st, sn⟩ && inS ⟨tf, tt, tn⟩) = false then (.zero, false) else if belS ⟨sf, st, sn⟩ ⟨tf, tt, tn⟩ = true then (⟨sf, st, sn⟩, true) else if belS ⟨tf, tt, tn⟩ ⟨sf, st, sn⟩ = true then (⟨tf, tt, tn⟩, true) else (.none, true)) := rfl
  rw [HE.out]
  clear HE
  generalize inS ⟨sf, st, sn⟩ = x at *
  generalize inS ⟨tf, tt, tn⟩ = y at *
  generalize belS ⟨sf, st, sn⟩ ⟨tf, tt, tn⟩ = z at *
  generalize belS ⟨tf, tt, tn⟩ ⟨sf, st, sn⟩ = u at *
  clear h1 h2 h3 h4
  cases x with
  | false =>
    rw [Bool.false_and, if_pos rfl, swV_zero]
    go_enter Tryd.func43, Tryd.ntmps43
    go_wp2_with fail
    refine (HS.out _).mono ?_
    rintro e w1 ⟨rfl, hb1⟩
    have K0 := Lib.hid ((blk3_0 w #[.string (bs sf), .string (bs st), .bool sn] #[.string (bs tf), .string (bs tt), .bool tn] #[.string ⟨#[]⟩, .string ⟨#[]⟩, .bool false]).on hb1)
    have K1 := Lib.hid ((blk3_1 w #[.string (bs sf), .string (bs st), .bool sn] #[.string (bs tf), .string (bs tt), .bool tn] #[.string ⟨#[]⟩, .string ⟨#[]⟩, .bool false]).on hb1)
    have K2 := Lib.hid ((blk3_2 w #[.string (bs sf), .string (bs st), .bool sn] #[.string (bs tf), .string (bs tt), .bool tn] #[.string ⟨#[]⟩, .string ⟨#[]⟩, .bool false]).on hb1)
    have HB := Lib.hid ((bel3 w #[.string (bs sf), .string (bs st), .bool sn] #[.string (bs tf), .string (bs tt), .bool tn] #[.string ⟨#[]⟩, .string ⟨#[]⟩, .bool false]).trans (hb1.mono (bel3 w #[.string (bs sf), .string (bs st), .bool sn] #[.string (bs tf), .string (bs tt), .bool tn] #[.string ⟨#[]⟩, .string ⟨#[]⟩, .bool false]).size))
    have c00 : w1.cell? ⟨w.heap.size, 0, none⟩ = some (.string (bs sf)) := K0.out.cell 0
    have c01 : w1.cell? ⟨w.heap.size, 1, none⟩ = some (.string (bs st)) := K0.out.cell 1
    have c02 : w1.cell? ⟨w.heap.size, 2, none⟩ = some (.bool sn) := K0.out.cell 2
    have f00 : w1.frozen? ⟨w.heap.size, 0, none⟩ = false := K0.out.frozen 0
    have f01 : w1.frozen? ⟨w.heap.size, 1, none⟩ = false := K0.out.frozen 1
    have f02 : w1.frozen? ⟨w.heap.size, 2, none⟩ = false := K0.out.frozen 2
    have l0 : w.heap.size < w1.heap.size := K0.out.lt
    have c10 : w1.cell? ⟨w.heap.size + 1, 0, none⟩ = some (.string (bs tf)) := K1.out.cell 0
    have c11 : w1.cell? ⟨w.heap.size + 1, 1, none⟩ = some (.string (bs tt)) := K1.out.cell 1
    have c12 : w1.cell? ⟨w.heap.size + 1, 2, none⟩ = some (.bool tn) := K1.out.cell 2
    have f10 : w1.frozen? ⟨w.heap.size + 1, 0, none⟩ = false := K1.out.frozen 0
    have f11 : w1.frozen? ⟨w.heap.size + 1, 1, none⟩ = false := K1.out.frozen 1
    have f12 : w1.frozen? ⟨w.heap.size + 1, 2, none⟩ = false := K1.out.frozen 2
    have l1 : w.heap.size + 1 < w1.heap.size := K1.out.lt
    have c20 : w1.cell? ⟨w.heap.size + 1 + 1, 0, none⟩ = some (.string ⟨#[]⟩) := K2.out.cell 0
    have c21 : w1.cell? ⟨w.heap.size + 1 + 1, 1, none⟩ = some (.string ⟨#[]⟩) := K2.out.cell 1
    have c22 : w1.cell? ⟨w.heap.size + 1 + 1, 2, none⟩ = some (.bool false) := K2.out.cell 2
    have f20 : w1.frozen? ⟨w.heap.size + 1 + 1, 0, none⟩ = false := K2.out.frozen 0
    have f21 : w1.frozen? ⟨w.heap.size + 1 + 1, 1, none⟩ = false := K2.out.frozen 1
    have f22 : w1.frozen? ⟨w.heap.size + 1 + 1, 2, none⟩ = false := K2.out.frozen 2
    have l2 : w.heap.size + 1 + 1 < w1.heap.size := K2.out.lt
    clear hb1
    clear HS
    go_wp2
    exact bodyPost_ret (v := .tuple #[.agg #[.string ⟨#[]⟩, .string ⟨#[]⟩, .bool false], .bool false]) (by simp [results, Tryd.results43, go_sem, c20, c21, c22]) rfl ⟨rfl, (((HB.out.setCell (by show w.heap.size ≤ w.heap.size + 1 + 1; omega) _).setCell (by show w.heap.size ≤ w.heap.size + 1 + 1; omega) _).setCell (by show w.heap.size ≤ w.heap.size + 1 + 1; omega) _)⟩
  | true =>
    cases y with
    | false =>
      rw [Bool.and_false, if_pos rfl, swV_zero]
      go_enter Tryd.func43, Tryd.ntmps43
      go_wp2_with fail
      refine (HS.out _).mono ?_
      rintro e w1 ⟨rfl, hb1⟩
      have K0 := Lib.hid ((blk3_0 w #[.string (bs sf), .string (bs st), .bool sn] #[.string (bs tf), .string (bs tt), .bool tn] #[.string ⟨#[]⟩, .string ⟨#[]⟩, .bool false]).on hb1)
      have K1 := Lib.hid ((blk3_1 w #[.string (bs sf), .string (bs st), .bool sn] #[.string (bs tf), .string (bs tt), .bool tn] #[.string ⟨#[]⟩, .string ⟨#[]⟩, .bool false]).on hb1)
      have K2 := Lib.hid ((blk3_2 w #[.string (bs sf), .string (bs st), .bool sn] #[.string (bs tf), .string (bs tt), .bool tn] #[.string ⟨#[]⟩, .string ⟨#[]⟩, .bool false]).on hb1)
      have HB := Lib.hid ((bel3 w #[.string (bs sf), .string (bs st), .bool sn] #[.string (bs tf), .string (bs tt), .bool tn] #[.string ⟨#[]⟩, .string ⟨#[]⟩, .bool false]).trans (hb1.mono (bel3 w #[.string (bs sf), .string (bs st), .bool sn] #[.string (bs tf), .string (bs tt), .bool tn] #[.string ⟨#[]⟩, .string ⟨#[]⟩, .bool false]).size))
      have c00 : w1.cell? ⟨w.heap.size, 0, none⟩ = some (.string (bs sf)) := K0.out.cell 0
      have c01 : w1.cell? ⟨w.heap.size, 1, none⟩ = some (.string (bs st)) := K0.out.cell 1
      have c02 : w1.cell? ⟨w.heap.size, 2, none⟩ = some (.bool sn) := K0.out.cell 2
      have f00 : w1.frozen? ⟨w.heap.size, 0, none⟩ = false := K0.out.frozen 0
      have f01 : w1.frozen? ⟨w.heap.size, 1, none⟩ = false := K0.out.frozen 1
      have f02 : w1.frozen? ⟨w.heap.size, 2, none⟩ = false := K0.out.frozen 2
      have l0 : w.heap.size < w1.heap.size := K0.out.lt
      have c10 : w1.cell? ⟨w.heap.size + 1, 0, none⟩ = some (.string (bs tf)) := K1.out.cell 0
      have c11 : w1.cell? ⟨w.heap.size + 1, 1, none⟩ = some (.string (bs tt)) := K1.out.cell 1
      have c12 : w1.cell? ⟨w.heap.size + 1, 2, none⟩ = some (.bool tn) := K1.out.cell 2
      have f10 : w1.frozen? ⟨w.heap.size + 1, 0, none⟩ = false := K1.out.frozen 0
      have f11 : w1.frozen? ⟨w.heap.size + 1, 1, none⟩ = false := K1.out.frozen 1
      have f12 : w1.frozen? ⟨w.heap.size + 1, 2, none⟩ = false := K1.out.frozen 2
      have l1 : w.heap.size + 1 < w1.heap.size := K1.out.lt
      have c20 : w1.cell? ⟨w.heap.size + 1 + 1, 0, none⟩ = some (.string ⟨#[]⟩) := K2.out.cell 0
      have c21 : w1.cell? ⟨w.heap.size + 1 + 1, 1, none⟩ = some (.string ⟨#[]⟩) := K2.out.cell 1
      have c22 : w1.cell? ⟨w.heap.size + 1 + 1, 2, none⟩ = some (.bool false) := K2.out.cell 2
      have f20 : w1.frozen? ⟨w.heap.size + 1 + 1, 0, none⟩ = false := K2.out.frozen 0
      have f21 : w1.frozen? ⟨w.heap.size + 1 + 1, 1, none⟩ = false := K2.out.frozen 1
      have f22 : w1.frozen? ⟨w.heap.size + 1 + 1, 2, none⟩ = false := K2.out.frozen 2
      have l2 : w.heap.size + 1 + 1 < w1.heap.size := K2.out.lt
      clear hb1
      clear HS
      go_wp2_with fail
      refine (HT.out _).mono ?_
      rintro e w2 ⟨rfl, hb2⟩
      have K0 := Lib.hid (K0.out.on hb2)
      have K1 := Lib.hid (K1.out.on hb2)
      have K2 := Lib.hid (K2.out.on hb2)
      have HB := Lib.hid (HB.out.trans (hb2.mono HB.out.size))
      clear c00 c01 c02 f00 f01 f02 l0 c10 c11 c12 f10 f11 f12 l1 c20 c21 c22 f20 f21 f22 l2
      have c00 : w2.cell? ⟨w.heap.size, 0, none⟩ = some (.string (bs sf)) := K0.out.cell 0
      have c01 : w2.cell? ⟨w.heap.size, 1, none⟩ = some (.string (bs st)) := K0.out.cell 1
      have c02 : w2.cell? ⟨w.heap.size, 2, none⟩ = some (.bool sn) := K0.out.cell 2
      have f00 : w2.frozen? ⟨w.heap.size, 0, none⟩ = false := K0.out.frozen 0
      have f01 : w2.frozen? ⟨w.heap.size, 1, none⟩ = false := K0.out.frozen 1
      have f02 : w2.frozen? ⟨w.heap.size, 2, none⟩ = false := K0.out.frozen 2
      have l0 : w.heap.size < w2.heap.size := K0.out.lt
      have c10 : w2.cell? ⟨w.heap.size + 1, 0, none⟩ = some (.string (bs tf)) := K1.out.cell 0
      have c11 : w2.cell? ⟨w.heap.size + 1, 1, none⟩ = some (.string (bs tt)) := K1.out.cell 1
      have c12 : w2.cell? ⟨w.heap.size + 1, 2, none⟩ = some (.bool tn) := K1.out.cell 2
      have f10 : w2.frozen? ⟨w.heap.size + 1, 0, none⟩ = false := K1.out.frozen 0
      have f11 : w2.frozen? ⟨w.heap.size + 1, 1, none⟩ = false := K1.out.frozen 1
      have f12 : w2.frozen? ⟨w.heap.size + 1, 2, none⟩ = false := K1.out.frozen 2
      have l1 : w.heap.size + 1 < w2.heap.size := K1.out.lt
      have c20 : w2.cell? ⟨w.heap.size + 1 + 1, 0, none⟩ = some (.string ⟨#[]⟩) := K2.out.cell 0
      have c21 : w2.cell? ⟨w.heap.size + 1 + 1, 1, none⟩ = some (.string ⟨#[]⟩) := K2.out.cell 1
      have c22 : w2.cell? ⟨w.heap.size + 1 + 1, 2, none⟩ = some (.bool false) := K2.out.cell 2
      have f20 : w2.frozen? ⟨w.heap.size + 1 + 1, 0, none⟩ = false := K2.out.frozen 0
      have f21 : w2.frozen? ⟨w.heap.size + 1 + 1, 1, none⟩ = false := K2.out.frozen 1
      have f22 : w2.frozen? ⟨w.heap.size + 1 + 1, 2, none⟩ = false := K2.out.frozen 2
      have l2 : w.heap.size + 1 + 1 < w2.heap.size := K2.out.lt
      clear hb2
      clear HT
      go_wp2
      exact bodyPost_ret (v := .tuple #[.agg #[.string ⟨#[]⟩, .string ⟨#[]⟩, .bool false], .bool false]) (by simp [results, Tryd.results43, go_sem, c20, c21, c22]) rfl ⟨rfl, (((HB.out.setCell (by show w.heap.size ≤ w.heap.size + 1 + 1; omega) _).setCell (by show w.heap.size ≤ w.heap.size + 1 + 1; omega) _).setCell (by show w.heap.size ≤ w.heap.size + 1 + 1; omega) _)⟩
    | true =>
      cases z with
      | false =>
        cases u with
        | false =>
          rw [Bool.and_true, if_neg (by decide), if_neg (by decide), if_neg (by decide), swV_none]
          go_enter Tryd.func43, Tryd.ntmps43
          go_wp2_with fail
          refine (HS.out _).mono ?_
          rintro e w1 ⟨rfl, hb1⟩
          have K0 := Lib.hid ((blk3_0 w #[.string (bs sf), .string (bs st), .bool sn] #[.string (bs tf), .string (bs tt), .bool tn] #[.string ⟨#[]⟩, .string ⟨#[]⟩, .bool false]).on hb1)
          have K1 := Lib.hid ((blk3_1 w #[.string (bs sf), .string (bs st), .bool sn] #[.string (bs tf), .string (bs tt), .bool tn] #[.string ⟨#[]⟩, .string ⟨#[]⟩, .bool false]).on hb1)
          have K2 := Lib.hid ((blk3_2 w #[.string (bs sf), .string (bs st), .bool sn] #[.string (bs tf), .string (bs tt), .bool tn] #[.string ⟨#[]⟩, .string ⟨#[]⟩, .bool false]).on hb1)
          have HB := Lib.hid ((bel3 w #[.string (bs sf), .string (bs st), .bool sn] #[.string (bs tf), .string (bs tt), .bool tn] #[.string ⟨#[]⟩, .string ⟨#[]⟩, .bool false]).trans (hb1.mono (bel3 w #[.string (bs sf), .string (bs st), .bool sn] #[.string (bs tf), .string (bs tt), .bool tn] #[.string ⟨#[]⟩, .string ⟨#[]⟩, .bool false]).size))
          have c00 : w1.cell? ⟨w.heap.size, 0, none⟩ = some (.string (bs sf)) := K0.out.cell 0
          have c01 : w1.cell? ⟨w.heap.size, 1, none⟩ = some (.string (bs st)) := K0.out.cell 1
          have c02 : w1.cell? ⟨w.heap.size, 2, none⟩ = some (.bool sn) := K0.out.cell 2
          have f00 : w1.frozen? ⟨w.heap.size, 0, none⟩ = false := K0.out.frozen 0
          have f01 : w1.frozen? ⟨w.heap.size, 1, none⟩ = false := K0.out.frozen 1
          have f02 : w1.frozen? ⟨w.heap.size, 2, none⟩ = false := K0.out.frozen 2
          have l0 : w.heap.size < w1.heap.size := K0.out.lt
          have c10 : w1.cell? ⟨w.heap.size + 1, 0, none⟩ = some (.string (bs tf)) := K1.out.cell 0
          have c11 : w1.cell? ⟨w.heap.size + 1, 1, none⟩ = some (.string (bs tt)) := K1.out.cell 1
          have c12 : w1.cell? ⟨w.heap.size + 1, 2, none⟩ = some (.bool tn) := K1.out.cell 2
          have f10 : w1.frozen? ⟨w.heap.size + 1, 0, none⟩ = false := K1.out.frozen 0
          have f11 : w1.frozen? ⟨w.heap.size + 1, 1, none⟩ = false := K1.out.frozen 1
          have f12 : w1.frozen? ⟨w.heap.size + 1, 2, none⟩ = false := K1.out.frozen 2
          have l1 : w.heap.size + 1 < w1.heap.size := K1.out.lt
          have c20 : w1.cell? ⟨w.heap.size + 1 + 1, 0, none⟩ = some (.string ⟨#[]⟩) := K2.out.cell 0
          have c21 : w1.cell? ⟨w.heap.size + 1 + 1, 1, none⟩ = some (.string ⟨#[]⟩) := K2.out.cell 1
          have c22 : w1.cell? ⟨w.heap.size + 1 + 1, 2, none⟩ = some (.bool false) := K2.out.cell 2
          have f20 : w1.frozen? ⟨w.heap.size + 1 + 1, 0, none⟩ = false := K2.out.frozen 0
          have f21 : w1.frozen? ⟨w.heap.size + 1 + 1, 1, none⟩ = false := K2.out.frozen 1
          have f22 : w1.frozen? ⟨w.heap.size + 1 + 1, 2, none⟩ = false := K2.out.frozen 2
          have l2 : w.heap.size + 1 + 1 < w1.heap.size := K2.out.lt
          clear hb1
          clear HS
          go_wp2_with fail
          refine (HT.out _).mono ?_
          rintro e w2 ⟨rfl, hb2⟩
          have K0 := Lib.hid (K0.out.on hb2)
          have K1 := Lib.hid (K1.out.on hb2)
          have K2 := Lib.hid (K2.out.on hb2)
          have HB := Lib.hid (HB.out.trans (hb2.mono HB.out.size))
          clear c00 c01 c02 f00 f01 f02 l0 c10 c11 c12 f10 f11 f12 l1 c20 c21 c22 f20 f21 f22 l2
          have c00 : w2.cell? ⟨w.heap.size, 0, none⟩ = some (.string (bs sf)) := K0.out.cell 0
          have c01 : w2.cell? ⟨w.heap.size, 1, none⟩ = some (.string (bs st)) := K0.out.cell 1
          have c02 : w2.cell? ⟨w.heap.size, 2, none⟩ = some (.bool sn) := K0.out.cell 2
          have f00 : w2.frozen? ⟨w.heap.size, 0, none⟩ = false := K0.out.frozen 0
          have f01 : w2.frozen? ⟨w.heap.size, 1, none⟩ = false := K0.out.frozen 1
          have f02 : w2.frozen? ⟨w.heap.size, 2, none⟩ = false := K0.out.frozen 2
          have l0 : w.heap.size < w2.heap.size := K0.out.lt
          have c10 : w2.cell? ⟨w.heap.size + 1, 0, none⟩ = some (.string (bs tf)) := K1.out.cell 0
          have c11 : w2.cell? ⟨w.heap.size + 1, 1, none⟩ = some (.string (bs tt)) := K1.out.cell 1
          have c12 : w2.cell? ⟨w.heap.size + 1, 2, none⟩ = some (.bool tn) := K1.out.cell 2
          have f10 : w2.frozen? ⟨w.heap.size + 1, 0, none⟩ = false := K1.out.frozen 0
          have f11 : w2.frozen? ⟨w.heap.size + 1, 1, none⟩ = false := K1.out.frozen 1
          have f12 : w2.frozen? ⟨w.heap.size + 1, 2, none⟩ = false := K1.out.frozen 2
          have l1 : w.heap.size + 1 < w2.heap.size := K1.out.lt
          have c20 : w2.cell? ⟨w.heap.size + 1 + 1, 0, none⟩ = some (.string ⟨#[]⟩) := K2.out.cell 0
          have c21 : w2.cell? ⟨w.heap.size + 1 + 1, 1, none⟩ = some (.string ⟨#[]⟩) := K2.out.cell 1
          have c22 : w2.cell? ⟨w.heap.size + 1 + 1, 2, none⟩ = some (.bool false) := K2.out.cell 2
          have f20 : w2.frozen? ⟨w.heap.size + 1 + 1, 0, none⟩ = false := K2.out.frozen 0
          have f21 : w2.frozen? ⟨w.heap.size + 1 + 1, 1, none⟩ = false := K2.out.frozen 1
          have f22 : w2.frozen? ⟨w.heap.size + 1 + 1, 2, none⟩ = false := K2.out.frozen 2
          have l2 : w.heap.size + 1 + 1 < w2.heap.size := K2.out.lt
          clear hb2
          clear HT
          go_wp2_with fail
          refine (HM.out _).mono ?_
          rintro e w3 ⟨rfl, hb3⟩
          have K0 := Lib.hid (K0.out.on hb3)
          have K1 := Lib.hid (K1.out.on hb3)
          have K2 := Lib.hid (K2.out.on hb3)
          have HB := Lib.hid (HB.out.trans (hb3.mono HB.out.size))
          clear c00 c01 c02 f00 f01 f02 l0 c10 c11 c12 f10 f11 f12 l1 c20 c21 c22 f20 f21 f22 l2
          have c00 : w3.cell? ⟨w.heap.size, 0, none⟩ = some (.string (bs sf)) := K0.out.cell 0
          have c01 : w3.cell? ⟨w.heap.size, 1, none⟩ = some (.string (bs st)) := K0.out.cell 1
          have c02 : w3.cell? ⟨w.heap.size, 2, none⟩ = some (.bool sn) := K0.out.cell 2
          have f00 : w3.frozen? ⟨w.heap.size, 0, none⟩ = false := K0.out.frozen 0
          have f01 : w3.frozen? ⟨w.heap.size, 1, none⟩ = false := K0.out.frozen 1
          have f02 : w3.frozen? ⟨w.heap.size, 2, none⟩ = false := K0.out.frozen 2
          have l0 : w.heap.size < w3.heap.size := K0.out.lt
          have c10 : w3.cell? ⟨w.heap.size + 1, 0, none⟩ = some (.string (bs tf)) := K1.out.cell 0
          have c11 : w3.cell? ⟨w.heap.size + 1, 1, none⟩ = some (.string (bs tt)) := K1.out.cell 1
          have c12 : w3.cell? ⟨w.heap.size + 1, 2, none⟩ = some (.bool tn) := K1.out.cell 2
          have f10 : w3.frozen? ⟨w.heap.size + 1, 0, none⟩ = false := K1.out.frozen 0
          have f11 : w3.frozen? ⟨w.heap.size + 1, 1, none⟩ = false := K1.out.frozen 1
          have f12 : w3.frozen? ⟨w.heap.size + 1, 2, none⟩ = false := K1.out.frozen 2
          have l1 : w.heap.size + 1 < w3.heap.size := K1.out.lt
          have c20 : w3.cell? ⟨w.heap.size + 1 + 1, 0, none⟩ = some (.string ⟨#[]⟩) := K2.out.cell 0
          have c21 : w3.cell? ⟨w.heap.size + 1 + 1, 1, none⟩ = some (.string ⟨#[]⟩) := K2.out.cell 1
          have c22 : w3.cell? ⟨w.heap.size + 1 + 1, 2, none⟩ = some (.bool false) := K2.out.cell 2
          have f20 : w3.frozen? ⟨w.heap.size + 1 + 1, 0, none⟩ = false := K2.out.frozen 0
          have f21 : w3.frozen? ⟨w.heap.size + 1 + 1, 1, none⟩ = false := K2.out.frozen 1
          have f22 : w3.frozen? ⟨w.heap.size + 1 + 1, 2, none⟩ = false := K2.out.frozen 2
          have l2 : w.heap.size + 1 + 1 < w3.heap.size := K2.out.lt
          clear hb3
          clear HM
          go_wp2_with fail
          refine (HD.out _).mono ?_
          rintro e w4 ⟨rfl, hb4⟩
          have K0 := Lib.hid (K0.out.on hb4)
          have K1 := Lib.hid (K1.out.on hb4)
          have K2 := Lib.hid (K2.out.on hb4)
          have HB := Lib.hid (HB.out.trans (hb4.mono HB.out.size))
          clear c00 c01 c02 f00 f01 f02 l0 c10 c11 c12 f10 f11 f12 l1 c20 c21 c22 f20 f21 f22 l2
          have c00 : w4.cell? ⟨w.heap.size, 0, none⟩ = some (.string (bs sf)) := K0.out.cell 0
          have c01 : w4.cell? ⟨w.heap.size, 1, none⟩ = some (.string (bs st)) := K0.out.cell 1
          have c02 : w4.cell? ⟨w.heap.size, 2, none⟩ = some (.bool sn) := K0.out.cell 2
          have f00 : w4.frozen? ⟨w.heap.size, 0, none⟩ = false := K0.out.frozen 0
          have f01 : w4.frozen? ⟨w.heap.size, 1, none⟩ = false := K0.out.frozen 1
          have f02 : w4.frozen? ⟨w.heap.size, 2, none⟩ = false := K0.out.frozen 2
          have l0 : w.heap.size < w4.heap.size := K0.out.lt
          have c10 : w4.cell? ⟨w.heap.size + 1, 0, none⟩ = some (.string (bs tf)) := K1.out.cell 0
          have c11 : w4.cell? ⟨w.heap.size + 1, 1, none⟩ = some (.string (bs tt)) := K1.out.cell 1
          have c12 : w4.cell? ⟨w.heap.size + 1, 2, none⟩ = some (.bool tn) := K1.out.cell 2
          have f10 : w4.frozen? ⟨w.heap.size + 1, 0, none⟩ = false := K1.out.frozen 0
          have f11 : w4.frozen? ⟨w.heap.size + 1, 1, none⟩ = false := K1.out.frozen 1
          have f12 : w4.frozen? ⟨w.heap.size + 1, 2, none⟩ = false := K1.out.frozen 2
          have l1 : w.heap.size + 1 < w4.heap.size := K1.out.lt
          have c20 : w4.cell? ⟨w.heap.size + 1 + 1, 0, none⟩ = some (.string ⟨#[]⟩) := K2.out.cell 0
          have c21 : w4.cell? ⟨w.heap.size + 1 + 1, 1, none⟩ = some (.string ⟨#[]⟩) := K2.out.cell 1
          have c22 : w4.cell? ⟨w.heap.size + 1 + 1, 2, none⟩ = some (.bool false) := K2.out.cell 2
          have f20 : w4.frozen? ⟨w.heap.size + 1 + 1, 0, none⟩ = false := K2.out.frozen 0
          have f21 : w4.frozen? ⟨w.heap.size + 1 + 1, 1, none⟩ = false := K2.out.frozen 1
          have f22 : w4.frozen? ⟨w.heap.size + 1 + 1, 2, none⟩ = false := K2.out.frozen 2
          have l2 : w.heap.size + 1 + 1 < w4.heap.size := K2.out.lt
          clear hb4
          clear HD
          go_wp2
          exact bodyPost_ret (v := .tuple #[.agg #[.string ⟨#[]⟩, .string ⟨#[]⟩, .bool true], .bool true]) (by simp [results, Tryd.results43, go_sem, c20, c21, c22]) rfl ⟨rfl, (((HB.out.setCell (by show w.heap.size ≤ w.heap.size + 1 + 1; omega) _).setCell (by show w.heap.size ≤ w.heap.size + 1 + 1; omega) _).setCell (by show w.heap.size ≤ w.heap.size + 1 + 1; omega) _)⟩
        | true =>
          rw [Bool.and_true, if_neg (by decide), if_neg (by decide), if_pos rfl, swV_mk]
          go_enter Tryd.func43, Tryd.ntmps43
          go_wp2_with fail
          refine (HS.out _).mono ?_
          rintro e w1 ⟨rfl, hb1⟩
          have K0 := Lib.hid ((blk3_0 w #[.string (bs sf), .string (bs st), .bool sn] #[.string (bs tf), .string (bs tt), .bool tn] #[.string ⟨#[]⟩, .string ⟨#[]⟩, .bool false]).on hb1)
          have K1 := Lib.hid ((blk3_1 w #[.string (bs sf), .string (bs st), .bool sn] #[.string (bs tf), .string (bs tt), .bool tn] #[.string ⟨#[]⟩, .string ⟨#[]⟩, .bool false]).on hb1)
          have K2 := Lib.hid ((blk3_2 w #[.string (bs sf), .string (bs st), .bool sn] #[.string (bs tf), .string (bs tt), .bool tn] #[.string ⟨#[]⟩, .string ⟨#[]⟩, .bool false]).on hb1)
          have HB := Lib.hid ((bel3 w #[.string (bs sf), .string (bs st), .bool sn] #[.string (bs tf), .string (bs tt), .bool tn] #[.string ⟨#[]⟩, .string ⟨#[]⟩, .bool false]).trans (hb1.mono (bel3 w #[.string (bs sf), .string (bs st), .bool sn] #[.string (bs tf), .string (bs tt), .bool tn] #[.string ⟨#[]⟩, .string ⟨#[]⟩, .bool false]).size))
          have c00 : w1.cell? ⟨w.heap.size, 0, none⟩ = some (.string (bs sf)) := K0.out.cell 0
          have c01 : w1.cell? ⟨w.heap.size, 1, none⟩ = some (.string (bs st)) := K0.out.cell 1
          have c02 : w1.cell? ⟨w.heap.size, 2, none⟩ = some (.bool sn) := K0.out.cell 2
          have f00 : w1.frozen? ⟨w.heap.size, 0, none⟩ = false := K0.out.frozen 0
          have f01 : w1.frozen? ⟨w.heap.size, 1, none⟩ = false := K0.out.frozen 1
          have f02 : w1.frozen? ⟨w.heap.size, 2, none⟩ = false := K0.out.frozen 2
          have l0 : w.heap.size < w1.heap.size := K0.out.lt
          have c10 : w1.cell? ⟨w.heap.size + 1, 0, none⟩ = some (.string (bs tf)) := K1.out.cell 0
          have c11 : w1.cell? ⟨w.heap.size + 1, 1, none⟩ = some (.string (bs tt)) := K1.out.cell 1
          have c12 : w1.cell? ⟨w.heap.size + 1, 2, none⟩ = some (.bool tn) := K1.out.cell 2
          have f10 : w1.frozen? ⟨w.heap.size + 1, 0, none⟩ = false := K1.out.frozen 0
          have f11 : w1.frozen? ⟨w.heap.size + 1, 1, none⟩ = false := K1.out.frozen 1
          have f12 : w1.frozen? ⟨w.heap.size + 1, 2, none⟩ = false := K1.out.frozen 2
          have l1 : w.heap.size + 1 < w1.heap.size := K1.out.lt
          have c20 : w1.cell? ⟨w.heap.size + 1 + 1, 0, none⟩ = some (.string ⟨#[]⟩) := K2.out.cell 0
          have c21 : w1.cell? ⟨w.heap.size + 1 + 1, 1, none⟩ = some (.string ⟨#[]⟩) := K2.out.cell 1
          have c22 : w1.cell? ⟨w.heap.size + 1 + 1, 2, none⟩ = some (.bool false) := K2.out.cell 2
          have f20 : w1.frozen? ⟨w.heap.size + 1 + 1, 0, none⟩ = false := K2.out.frozen 0
          have f21 : w1.frozen? ⟨w.heap.size + 1 + 1, 1, none⟩ = false := K2.out.frozen 1
          have f22 : w1.frozen? ⟨w.heap.size + 1 + 1, 2, none⟩ = false := K2.out.frozen 2
          have l2 : w.heap.size + 1 + 1 < w1.heap.size := K2.out.lt
          clear hb1
          clear HS
          go_wp2_with fail
          refine (HT.out _).mono ?_
          rintro e w2 ⟨rfl, hb2⟩
          have K0 := Lib.hid (K0.out.on hb2)
          have K1 := Lib.hid (K1.out.on hb2)
          have K2 := Lib.hid (K2.out.on hb2)
          have HB := Lib.hid (HB.out.trans (hb2.mono HB.out.size))
          clear c00 c01 c02 f00 f01 f02 l0 c10 c11 c12 f10 f11 f12 l1 c20 c21 c22 f20 f21 f22 l2
          have c00 : w2.cell? ⟨w.heap.size, 0, none⟩ = some (.string (bs sf)) := K0.out.cell 0
          have c01 : w2.cell? ⟨w.heap.size, 1, none⟩ = some (.string (bs st)) := K0.out.cell 1
          have c02 : w2.cell? ⟨w.heap.size, 2, none⟩ = some (.bool sn) := K0.out.cell 2
          have f00 : w2.frozen? ⟨w.heap.size, 0, none⟩ = false := K0.out.frozen 0
          have f01 : w2.frozen? ⟨w.heap.size, 1, none⟩ = false := K0.out.frozen 1
          have f02 : w2.frozen? ⟨w.heap.size, 2, none⟩ = false := K0.out.frozen 2
          have l0 : w.heap.size < w2.heap.size := K0.out.lt
          have c10 : w2.cell? ⟨w.heap.size + 1, 0, none⟩ = some (.string (bs tf)) := K1.out.cell 0
          have c11 : w2.cell? ⟨w.heap.size + 1, 1, none⟩ = some (.string (bs tt)) := K1.out.cell 1
          have c12 : w2.cell? ⟨w.heap.size + 1, 2, none⟩ = some (.bool tn) := K1.out.cell 2
          have f10 : w2.frozen? ⟨w.heap.size + 1, 0, none⟩ = false := K1.out.frozen 0
          have f11 : w2.frozen? ⟨w.heap.size + 1, 1, none⟩ = false := K1.out.frozen 1
          have f12 : w2.frozen? ⟨w.heap.size + 1, 2, none⟩ = false := K1.out.frozen 2
          have l1 : w.heap.size + 1 < w2.heap.size := K1.out.lt
          have c20 : w2.cell? ⟨w.heap.size + 1 + 1, 0, none⟩ = some (.string ⟨#[]⟩) := K2.out.cell 0
          have c21 : w2.cell? ⟨w.heap.size + 1 + 1, 1, none⟩ = some (.string ⟨#[]⟩) := K2.out.cell 1
          have c22 : w2.cell? ⟨w.heap.size + 1 + 1, 2, none⟩ = some (.bool false) := K2.out.cell 2
          have f20 : w2.frozen? ⟨w.heap.size + 1 + 1, 0, none⟩ = false := K2.out.frozen 0
          have f21 : w2.frozen? ⟨w.heap.size + 1 + 1, 1, none⟩ = false := K2.out.frozen 1
          have f22 : w2.frozen? ⟨w.heap.size + 1 + 1, 2, none⟩ = false := K2.out.frozen 2
          have l2 : w.heap.size + 1 + 1 < w2.heap.size := K2.out.lt
          clear hb2
          clear HT
          go_wp2_with fail
          refine (HM.out _).mono ?_
          rintro e w3 ⟨rfl, hb3⟩
          have K0 := Lib.hid (K0.out.on hb3)
          have K1 := Lib.hid (K1.out.on hb3)
          have K2 := Lib.hid (K2.out.on hb3)
          have HB := Lib.hid (HB.out.trans (hb3.mono HB.out.size))
          clear c00 c01 c02 f00 f01 f02 l0 c10 c11 c12 f10 f11 f12 l1 c20 c21 c22 f20 f21 f22 l2
          have c00 : w3.cell? ⟨w.heap.size, 0, none⟩ = some (.string (bs sf)) := K0.out.cell 0
          have c01 : w3.cell? ⟨w.heap.size, 1, none⟩ = some (.string (bs st)) := K0.out.cell 1
          have c02 : w3.cell? ⟨w.heap.size, 2, none⟩ = some (.bool sn) := K0.out.cell 2
          have f00 : w3.frozen? ⟨w.heap.size, 0, none⟩ = false := K0.out.frozen 0
          have f01 : w3.frozen? ⟨w.heap.size, 1, none⟩ = false := K0.out.frozen 1
          have f02 : w3.frozen? ⟨w.heap.size, 2, none⟩ = false := K0.out.frozen 2
          have l0 : w.heap.size < w3.heap.size := K0.out.lt
          have c10 : w3.cell? ⟨w.heap.size + 1, 0, none⟩ = some (.string (bs tf)) := K1.out.cell 0
          have c11 : w3.cell? ⟨w.heap.size + 1, 1, none⟩ = some (.string (bs tt)) := K1.out.cell 1
          have c12 : w3.cell? ⟨w.heap.size + 1, 2, none⟩ = some (.bool tn) := K1.out.cell 2
          have f10 : w3.frozen? ⟨w.heap.size + 1, 0, none⟩ = false := K1.out.frozen 0
          have f11 : w3.frozen? ⟨w.heap.size + 1, 1, none⟩ = false := K1.out.frozen 1
          have f12 : w3.frozen? ⟨w.heap.size + 1, 2, none⟩ = false := K1.out.frozen 2
          have l1 : w.heap.size + 1 < w3.heap.size := K1.out.lt
          have c20 : w3.cell? ⟨w.heap.size + 1 + 1, 0, none⟩ = some (.string ⟨#[]⟩) := K2.out.cell 0
          have c21 : w3.cell? ⟨w.heap.size + 1 + 1, 1, none⟩ = some (.string ⟨#[]⟩) := K2.out.cell 1
          have c22 : w3.cell? ⟨w.heap.size + 1 + 1, 2, none⟩ = some (.bool false) := K2.out.cell 2
          have f20 : w3.frozen? ⟨w.heap.size + 1 + 1, 0, none⟩ = false := K2.out.frozen 0
          have f21 : w3.frozen? ⟨w.heap.size + 1 + 1, 1, none⟩ = false := K2.out.frozen 1
          have f22 : w3.frozen? ⟨w.heap.size + 1 + 1, 2, none⟩ = false := K2.out.frozen 2
          have l2 : w.heap.size + 1 + 1 < w3.heap.size := K2.out.lt
          clear hb3
          clear HM
          go_wp2_with fail
          refine (HD.out _).mono ?_
          rintro e w4 ⟨rfl, hb4⟩
          have K0 := Lib.hid (K0.out.on hb4)
          have K1 := Lib.hid (K1.out.on hb4)
          have K2 := Lib.hid (K2.out.on hb4)
          have HB := Lib.hid (HB.out.trans (hb4.mono HB.out.size))
          clear c00 c01 c02 f00 f01 f02 l0 c10 c11 c12 f10 f11 f12 l1 c20 c21 c22 f20 f21 f22 l2
          have c00 : w4.cell? ⟨w.heap.size, 0, none⟩ = some (.string (bs sf)) := K0.out.cell 0
          have c01 : w4.cell? ⟨w.heap.size, 1, none⟩ = some (.string (bs st)) := K0.out.cell 1
          have c02 : w4.cell? ⟨w.heap.size, 2, none⟩ = some (.bool sn) := K0.out.cell 2
          have f00 : w4.frozen? ⟨w.heap.size, 0, none⟩ = false := K0.out.frozen 0
          have f01 : w4.frozen? ⟨w.heap.size, 1, none⟩ = false := K0.out.frozen 1
          have f02 : w4.frozen? ⟨w.heap.size, 2, none⟩ = false := K0.out.frozen 2
          have l0 : w.heap.size < w4.heap.size := K0.out.lt
          have c10 : w4.cell? ⟨w.heap.size + 1, 0, none⟩ = some (.string (bs tf)) := K1.out.cell 0
          have c11 : w4.cell? ⟨w.heap.size + 1, 1, none⟩ = some (.string (bs tt)) := K1.out.cell 1
          have c12 : w4.cell? ⟨w.heap.size + 1, 2, none⟩ = some (.bool tn) := K1.out.cell 2
          have f10 : w4.frozen? ⟨w.heap.size + 1, 0, none⟩ = false := K1.out.frozen 0
          have f11 : w4.frozen? ⟨w.heap.size + 1, 1, none⟩ = false := K1.out.frozen 1
          have f12 : w4.frozen? ⟨w.heap.size + 1, 2, none⟩ = false := K1.out.frozen 2
          have l1 : w.heap.size + 1 < w4.heap.size := K1.out.lt
          have c20 : w4.cell? ⟨w.heap.size + 1 + 1, 0, none⟩ = some (.string ⟨#[]⟩) := K2.out.cell 0
          have c21 : w4.cell? ⟨w.heap.size + 1 + 1, 1, none⟩ = some (.string ⟨#[]⟩) := K2.out.cell 1
          have c22 : w4.cell? ⟨w.heap.size + 1 + 1, 2, none⟩ = some (.bool false) := K2.out.cell 2
          have f20 : w4.frozen? ⟨w.heap.size + 1 + 1, 0, none⟩ = false := K2.out.frozen 0
          have f21 : w4.frozen? ⟨w.heap.size + 1 + 1, 1, none⟩ = false := K2.out.frozen 1
          have f22 : w4.frozen? ⟨w.heap.size + 1 + 1, 2, none⟩ = false := K2.out.frozen 2
          have l2 : w.heap.size + 1 + 1 < w4.heap.size := K2.out.lt
          clear hb4
          clear HD
          go_wp2
          exact bodyPost_ret (v := .tuple #[.agg #[.string (bs tf), .string (bs tt), .bool tn], .bool true]) (by simp [results, Tryd.results43, go_sem, c20, c21, c22]) rfl ⟨rfl, (((HB.out.setCell (by show w.heap.size ≤ w.heap.size + 1 + 1; omega) _).setCell (by show w.heap.size ≤ w.heap.size + 1 + 1; omega) _).setCell (by show w.heap.size ≤ w.heap.size + 1 + 1; omega) _)⟩
      | true =>
        rw [Bool.and_true, if_neg (by decide), if_pos rfl, swV_mk]
        go_enter Tryd.func43, Tryd.ntmps43
        go_wp2_with fail
        refine (HS.out _).mono ?_
        rintro e w1 ⟨rfl, hb1⟩
        have K0 := Lib.hid ((blk3_0 w #[.string (bs sf), .string (bs st), .bool sn] #[.string (bs tf), .string (bs tt), .bool tn] #[.string ⟨#[]⟩, .string ⟨#[]⟩, .bool false]).on hb1)
        have K1 := Lib.hid ((blk3_1 w #[.string (bs sf), .string (bs st), .bool sn] #[.string (bs tf), .string (bs tt), .bool tn] #[.string ⟨#[]⟩, .string ⟨#[]⟩, .bool false]).on hb1)
        have K2 := Lib.hid ((blk3_2 w #[.string (bs sf), .string (bs st), .bool sn] #[.string (bs tf), .string (bs tt), .bool tn] #[.string ⟨#[]⟩, .string ⟨#[]⟩, .bool false]).on hb1)
        have HB := Lib.hid ((bel3 w #[.string (bs sf), .string (bs st), .bool sn] #[.string (bs tf), .string (bs tt), .bool tn] #[.string ⟨#[]⟩, .string ⟨#[]⟩, .bool false]).trans (hb1.mono (bel3 w #[.string (bs sf), .string (bs st), .bool sn] #[.string (bs tf), .string (bs tt), .bool tn] #[.string ⟨#[]⟩, .string ⟨#[]⟩, .bool false]).size))
        have c00 : w1.cell? ⟨w.heap.size, 0, none⟩ = some (.string (bs sf)) := K0.out.cell 0
        have c01 : w1.cell? ⟨w.heap.size, 1, none⟩ = some (.string (bs st)) := K0.out.cell 1
        have c02 : w1.cell? ⟨w.heap.size, 2, none⟩ = some (.bool sn) := K0.out.cell 2
        have f00 : w1.frozen? ⟨w.heap.size, 0, none⟩ = false := K0.out.frozen 0
        have f01 : w1.frozen? ⟨w.heap.size, 1, none⟩ = false := K0.out.frozen 1
        have f02 : w1.frozen? ⟨w.heap.size, 2, none⟩ = false := K0.out.frozen 2
        have l0 : w.heap.size < w1.heap.size := K0.out.lt
        have c10 : w1.cell? ⟨w.heap.size + 1, 0, none⟩ = some (.string (bs tf)) := K1.out.cell 0
        have c11 : w1.cell? ⟨w.heap.size + 1, 1, none⟩ = some (.string (bs tt)) := K1.out.cell 1
        have c12 : w1.cell? ⟨w.heap.size + 1, 2, none⟩ = some (.bool tn) := K1.out.cell 2
        have f10 : w1.frozen? ⟨w.heap.size + 1, 0, none⟩ = false := K1.out.frozen 0
        have f11 : w1.frozen? ⟨w.heap.size + 1, 1, none⟩ = false := K1.out.frozen 1
        have f12 : w1.frozen? ⟨w.heap.size + 1, 2, none⟩ = false := K1.out.frozen 2
        have l1 : w.heap.size + 1 < w1.heap.size := K1.out.lt
        have c20 : w1.cell? ⟨w.heap.size + 1 + 1, 0, none⟩ = some (.string ⟨#[]⟩) := K2.out.cell 0
        have c21 : w1.cell? ⟨w.heap.size + 1 + 1, 1, none⟩ = some (.string ⟨#[]⟩) := K2.out.cell 1
        have c22 : w1.cell? ⟨w.heap.size + 1 + 1, 2, none⟩ = some (.bool false) := K2.out.cell 2
        have f20 : w1.frozen? ⟨w.heap.size + 1 + 1, 0, none⟩ = false := K2.out.frozen 0
        have f21 : w1.frozen? ⟨w.heap.size + 1 + 1, 1, none⟩ = false := K2.out.frozen 1
        have f22 : w1.frozen? ⟨w.heap.size + 1 + 1, 2, none⟩ = false := K2.out.frozen 2
        have l2 : w.heap.size + 1 + 1 < w1.heap.size := K2.out.lt
        clear hb1
        clear HS
        go_wp2_with fail
        refine (HT.out _).mono ?_
        rintro e w2 ⟨rfl, hb2⟩
        have K0 := Lib.hid (K0.out.on hb2)
        have K1 := Lib.hid (K1.out.on hb2)
        have K2 := Lib.hid (K2.out.on hb2)
        have HB := Lib.hid (HB.out.trans (hb2.mono HB.out.size))
        clear c00 c01 c02 f00 f01 f02 l0 c10 c11 c12 f10 f11 f12 l1 c20 c21 c22 f20 f21 f22 l2
        have c00 : w2.cell? ⟨w.heap.size, 0, none⟩ = some (.string (bs sf)) := K0.out.cell 0
        have c01 : w2.cell? ⟨w.heap.size, 1, none⟩ = some (.string (bs st)) := K0.out.cell 1
        have c02 : w2.cell? ⟨w.heap.size, 2, none⟩ = some (.bool sn) := K0.out.cell 2
        have f00 : w2.frozen? ⟨w.heap.size, 0, none⟩ = false := K0.out.frozen 0
        have f01 : w2.frozen? ⟨w.heap.size, 1, none⟩ = false := K0.out.frozen 1
        have f02 : w2.frozen? ⟨w.heap.size, 2, none⟩ = false := K0.out.frozen 2
        have l0 : w.heap.size < w2.heap.size := K0.out.lt
        have c10 : w2.cell? ⟨w.heap.size + 1, 0, none⟩ = some (.string (bs tf)) := K1.out.cell 0
        have c11 : w2.cell? ⟨w.heap.size + 1, 1, none⟩ = some (.string (bs tt)) := K1.out.cell 1
        have c12 : w2.cell? ⟨w.heap.size + 1, 2, none⟩ = some (.bool tn) := K1.out.cell 2
        have f10 : w2.frozen? ⟨w.heap.size + 1, 0, none⟩ = false := K1.out.frozen 0
        have f11 : w2.frozen? ⟨w.heap.size + 1, 1, none⟩ = false := K1.out.frozen 1
        have f12 : w2.frozen? ⟨w.heap.size + 1, 2, none⟩ = false := K1.out.frozen 2
        have l1 : w.heap.size + 1 < w2.heap.size := K1.out.lt
        have c20 : w2.cell? ⟨w.heap.size + 1 + 1, 0, none⟩ = some (.string ⟨#[]⟩) := K2.out.cell 0
        have c21 : w2.cell? ⟨w.heap.size + 1 + 1, 1, none⟩ = some (.string ⟨#[]⟩) := K2.out.cell 1
        have c22 : w2.cell? ⟨w.heap.size + 1 + 1, 2, none⟩ = some (.bool false) := K2.out.cell 2
        have f20 : w2.frozen? ⟨w.heap.size + 1 + 1, 0, none⟩ = false := K2.out.frozen 0
        have f21 : w2.frozen? ⟨w.heap.size + 1 + 1, 1, none⟩ = false := K2.out.frozen 1
        have f22 : w2.frozen? ⟨w.heap.size + 1 + 1, 2, none⟩ = false := K2.out.frozen 2
        have l2 : w.heap.size + 1 + 1 < w2.heap.size := K2.out.lt
        clear hb2
        clear HT
        go_wp2_with fail
        refine (HM.out _).mono ?_
        rintro e w3 ⟨rfl, hb3⟩
        have K0 := Lib.hid (K0.out.on hb3)
        have K1 := Lib.hid (K1.out.on hb3)
        have K2 := Lib.hid (K2.out.on hb3)
        have HB := Lib.hid (HB.out.trans (hb3.mono HB.out.size))
        clear c00 c01 c02 f00 f01 f02 l0 c10 c11 c12 f10 f11 f12 l1 c20 c21 c22 f20 f21 f22 l2
        have c00 : w3.cell? ⟨w.heap.size, 0, none⟩ = some (.string (bs sf)) := K0.out.cell 0
        have c01 : w3.cell? ⟨w.heap.size, 1, none⟩ = some (.string (bs st)) := K0.out.cell 1
        have c02 : w3.cell? ⟨w.heap.size, 2, none⟩ = some (.bool sn) := K0.out.cell 2
        have f00 : w3.frozen? ⟨w.heap.size, 0, none⟩ = false := K0.out.frozen 0
        have f01 : w3.frozen? ⟨w.heap.size, 1, none⟩ = false := K0.out.frozen 1
        have f02 : w3.frozen? ⟨w.heap.size, 2, none⟩ = false := K0.out.frozen 2
        have l0 : w.heap.size < w3.heap.size := K0.out.lt
        have c10 : w3.cell? ⟨w.heap.size + 1, 0, none⟩ = some (.string (bs tf)) := K1.out.cell 0
        have c11 : w3.cell? ⟨w.heap.size + 1, 1, none⟩ = some (.string (bs tt)) := K1.out.cell 1
        have c12 : w3.cell? ⟨w.heap.size + 1, 2, none⟩ = some (.bool tn) := K1.out.cell 2
        have f10 : w3.frozen? ⟨w.heap.size + 1, 0, none⟩ = false := K1.out.frozen 0
        have f11 : w3.frozen? ⟨w.heap.size + 1, 1, none⟩ = false := K1.out.frozen 1
        have f12 : w3.frozen? ⟨w.heap.size + 1, 2, none⟩ = false := K1.out.frozen 2
        have l1 : w.heap.size + 1 < w3.heap.size := K1.out.lt
        have c20 : w3.cell? ⟨w.heap.size + 1 + 1, 0, none⟩ = some (.string ⟨#[]⟩) := K2.out.cell 0
        have c21 : w3.cell? ⟨w.heap.size + 1 + 1, 1, none⟩ = some (.string ⟨#[]⟩) := K2.out.cell 1
        have c22 : w3.cell? ⟨w.heap.size + 1 + 1, 2, none⟩ = some (.bool false) := K2.out.cell 2
        have f20 : w3.frozen? ⟨w.heap.size + 1 + 1, 0, none⟩ = false := K2.out.frozen 0
        have f21 : w3.frozen? ⟨w.heap.size + 1 + 1, 1, none⟩ = false := K2.out.frozen 1
        have f22 : w3.frozen? ⟨w.heap.size + 1 + 1, 2, none⟩ = false := K2.out.frozen 2
        have l2 : w.heap.size + 1 + 1 < w3.heap.size := K2.out.lt
        clear hb3
        clear HM
        go_wp2
        exact bodyPost_ret (v := .tuple #[.agg #[.string (bs sf), .string (bs st), .bool sn], .bool true]) (by simp [results, Tryd.results43, go_sem, c20, c21, c22]) rfl ⟨rfl, (((HB.out.setCell (by show w.heap.size ≤ w.heap.size + 1 + 1; omega) _).setCell (by show w.heap.size ≤ w.heap.size + 1 + 1; omega) _).setCell (by show w.heap.size ≤ w.heap.size + 1 + 1; omega) _)⟩
end Go.Proofs.YtdljndpobklkjaaDoor
