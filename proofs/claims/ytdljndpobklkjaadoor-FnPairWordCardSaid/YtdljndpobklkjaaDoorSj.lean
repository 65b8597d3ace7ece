/-
  Swaps by the specification: products, turned swaps, moved texts, order, meets.
-/
import Derived.Test.YtdljndpobklkjaaDoorSx
import Derived.Test.YtdljndpobklkjaaDoorSi
import Derived.RegionTactic
import Derived.BigRegion
import Derived.Deep.QuietTactic
import Derived.BigQuiet
namespace Go.Proofs.YtdljndpobklkjaaDoor
set_option maxRecDepth 100000
set_option linter.unusedVariables false
open Go.RowKit

theorem Blk.on {w w' : World} {g : Nat} {t : TypeId} {cs : Array Value} (h : Blk w g t cs) (hb : Below w.heap.size w w') : Blk w' g t cs := h.below hb h.lt
abbrev bx (w : World) (a : Array Value) : World := w.alloc (.cells a 32)
theorem bx_size (w : World) (a : Array Value) : (bx w a).heap.size = w.heap.size + 1 := by unfold bx; simp
theorem bel1 (w : World) (a : Array Value) : Below w.heap.size w (w.alloc (.cells a 32)) := (Below.refl _ _).alloc (Nat.le_refl _) _
theorem bel2 (w : World) (a b : Array Value) : Below w.heap.size w ((w.alloc (.cells a 32)).alloc (.cells b 32)) := (bel1 w a).alloc (bel1 w a).size _
theorem bel3 (w : World) (a b c : Array Value) : Below w.heap.size w (((w.alloc (.cells a 32)).alloc (.cells b 32)).alloc (.cells c 32)) := (bel2 w a b).alloc (bel2 w a b).size _
theorem blk1_0 (w : World) (a : Array Value) : Blk (w.alloc (.cells a 32)) w.heap.size 32 a := Blk.new w _ _
theorem blk2_0 (w : World) (a b : Array Value) : Blk ((w.alloc (.cells a 32)).alloc (.cells b 32)) w.heap.size 32 a := (blk1_0 w a).alloc _
theorem blk2_1 (w : World) (a b : Array Value) : Blk ((w.alloc (.cells a 32)).alloc (.cells b 32)) (w.heap.size + 1) 32 b := by
  have h := Blk.new (w.alloc (.cells a 32)) 32 b
  rwa [show (w.alloc (.cells a 32)).heap.size = w.heap.size + 1 from bx_size w a] at h
theorem blk3_0 (w : World) (a b c : Array Value) : Blk (((w.alloc (.cells a 32)).alloc (.cells b 32)).alloc (.cells c 32)) w.heap.size 32 a := (blk2_0 w a b).alloc _
theorem blk3_1 (w : World) (a b c : Array Value) : Blk (((w.alloc (.cells a 32)).alloc (.cells b 32)).alloc (.cells c 32)) (w.heap.size + 1) 32 b := (blk2_1 w a b).alloc _
theorem blk3_2 (w : World) (a b c : Array Value) : Blk (((w.alloc (.cells a 32)).alloc (.cells b 32)).alloc (.cells c 32)) (w.heap.size + 1 + 1) 32 c := by
  have h := Blk.new ((w.alloc (.cells a 32)).alloc (.cells b 32)) 32 c
  rwa [show ((w.alloc (.cells a 32)).alloc (.cells b 32)).heap.size = w.heap.size + 1 + 1 from (bx_size _ b).trans (by rw [show (w.alloc (.cells a 32)).heap.size = w.heap.size + 1 from bx_size w a])] at h
theorem sub_bs (a b : List UInt8) : (bs a).extract b.length a.length = bs (a.drop b.length) := bs_tail a b.length
theorem swV_zero : swV .zero = .agg #[.string ⟨#[]⟩, .string ⟨#[]⟩, .bool false] := rfl
theorem swV_none : swV .none = .agg #[.string ⟨#[]⟩, .string ⟨#[]⟩, .bool true] := rfl
theorem swV_mk (f t : List UInt8) (n : Bool) : swV ⟨f, t, n⟩ = .agg #[.string (bs f), .string (bs t), .bool n] := rfl
theorem mul_len (s t : SW) : (mulS s t).f.length ≤ s.f.length + t.f.length ∧ (mulS s t).t.length ≤ s.t.length + t.t.length := by
  unfold mulS
  split
  · exact ⟨Nat.zero_le _, Nat.zero_le _⟩
  · split
    · refine ⟨?_, Nat.le_add_left _ _⟩
      simp only [List.length_append, List.length_drop]; omega
    · split
      · refine ⟨Nat.le_add_right _ _, ?_⟩
        simp only [List.length_append, List.length_drop]; omega
      · exact ⟨Nat.zero_le _, Nat.zero_le _⟩
theorem in_len {s : SW} (h : inS s = true) : s.f.length ≤ 20 ∧ s.t.length ≤ 20 := ⟨sgB_len (inS_iff.1 h).1, sgB_len (inS_iff.1 h).2.1⟩
def doneS (s : SW) : SW × Bool := if inS s = true then (s, true) else (.zero, false)
set_option maxHeartbeats 1000000 in
theorem l6pTimes_any (sf st tf tt : List UInt8) (sn tn : Bool) (h1 : sf.length ≤ 4000000) (h2 : st.length ≤ 4000000) (h3 : tf.length ≤ 4000000) (h4 : tt.length ≤ 4000000) (w : World) :
    Calls Tryd.prog 59 #[.agg #[.string (bs sf), .string (bs st), .bool sn], .agg #[.string (bs tf), .string (bs tt), .bool tn]] w fun e w' => e = .returned (swV (mulS ⟨sf, st, sn⟩ ⟨tf, tt, tn⟩)) ∧ Below w.heap.size w w' := by
  have z1 := bs_size sf
  have z2 := bs_size st
  have z3 := bs_size tf
  have z4 := bs_size tt
  have z5 := bs_size (tf.drop st.length)
  have z6 := bs_size (st.drop tf.length)
  rw [List.length_drop] at z5 z6
  by_cases hn : (sn || tn) = true
  · have hR : mulS ⟨sf, st, sn⟩ ⟨tf, tt, tn⟩ = .none := by unfold mulS; rw [if_pos hn]
    rw [hR, swV_none]
    clear hR
    cases sn with
    | false =>
      have hn : tn = true := by simpa using hn
      subst hn
      go_enter Tryd.func59, Tryd.ntmps59
      go_wp2
      exact bodyPost_ret (v := .agg #[.string ⟨#[]⟩, .string ⟨#[]⟩, .bool true]) (by simp [results, Tryd.results59, go_sem]) rfl ⟨rfl, (bel3 w _ _ _)⟩
    | true =>
      clear hn
      go_enter Tryd.func59, Tryd.ntmps59
      go_wp2
      exact bodyPost_ret (v := .agg #[.string ⟨#[]⟩, .string ⟨#[]⟩, .bool true]) (by simp [results, Tryd.results59, go_sem]) rfl ⟨rfl, (bel3 w _ _ _)⟩
  · obtain ⟨rfl, rfl⟩ : sn = false ∧ tn = false := by simpa using hn
    clear hn
    have HB1 := Lib.hid (fun W => l6pBegins_any tf st W)
    have HB2 := Lib.hid (fun W => l6pBegins_any st tf W)
    have HM : Hid (mulS ⟨sf, st, false⟩ ⟨tf, tt, false⟩ = if beg tf st = true then ⟨sf ++ tf.drop st.length, tt, false⟩ else if beg st tf = true then ⟨sf, tt ++ st.drop tf.length, false⟩ else .none) := rfl
    have hle1 : beg tf st = true → (st.length : Int) ≤ (tf.length : Int) := fun h => by obtain ⟨e, rfl⟩ := beg_iff.1 h; rw [List.length_append]; omega
    have hle2 : beg st tf = true → (tf.length : Int) ≤ (st.length : Int) := fun h => by obtain ⟨e, rfl⟩ := beg_iff.1 h; rw [List.length_append]; omega
    have x1 := sub_bs tf st
    have x2 := sub_bs st tf
    have y1 := bs_app sf (tf.drop st.length)
    have y2 := bs_app tt (st.drop tf.length)
    rw [HM.out]
    cases hb : beg tf st with
    | false =>
      rw [if_neg (by decide)]
      rw [hb] at HB1
      cases hb2 : beg st tf with
      | false =>
        rw [if_neg (by decide), swV_none]
        rw [hb2] at HB2
        clear hle1 hle2 x1 y1 x2 y2 HM hb hb2
        go_enter Tryd.func59, Tryd.ntmps59
        go_wp2_with fail
        refine (HB1.out _).mono ?_
        rintro e v1 ⟨rfl, hw⟩
        subst hw
        clear HB1
        go_wp2_with fail
        refine (HB2.out _).mono ?_
        rintro e v2 ⟨rfl, hw⟩
        subst hw
        clear HB2
        go_wp2
        exact bodyPost_ret (v := .agg #[.string ⟨#[]⟩, .string ⟨#[]⟩, .bool true]) (by simp [results, Tryd.results59, go_sem]) rfl ⟨rfl, (bel3 w _ _ _)⟩
      | true =>
        rw [if_pos rfl]
        rw [hb2] at HB2
        have hle := hle2 hb2
        clear hle1 hle2 x1 y1 HM hb hb2 z5
        rw [swV_mk, ← y2]
        clear y2
        go_enter Tryd.func59, Tryd.ntmps59
        go_wp2_with fail
        refine (HB1.out _).mono ?_
        rintro e v1 ⟨rfl, hw⟩
        subst hw
        clear HB1
        go_wp2_with fail
        refine (HB2.out _).mono ?_
        rintro e v2 ⟨rfl, hw⟩
        subst hw
        clear HB2
        go_wp2_with fail
        go_region
        go_wp2
        exact bodyPost_ret (v := .agg #[.string (bs sf), .string (bs tt ++ bs (st.drop tf.length)), .bool false]) (by simp [results, Tryd.results59, go_sem]) rfl ⟨rfl, (bel3 w _ _ _).drew⟩
    | true =>
      rw [if_pos rfl]
      rw [hb] at HB1
      have hle := hle1 hb
      clear hle1 hle2 HB2 x2 y2 HM hb z6
      rw [swV_mk, ← y1]
      clear y1
      go_enter Tryd.func59, Tryd.ntmps59
      go_wp2_with fail
      refine (HB1.out _).mono ?_
      rintro e v1 ⟨rfl, hw⟩
      subst hw
      clear HB1
      go_wp2_with fail
      go_region
      go_wp2
      exact bodyPost_ret (v := .agg #[.string (bs sf ++ bs (tf.drop st.length)), .string (bs tt), .bool false]) (by simp [results, Tryd.results59, go_sem]) rfl ⟨rfl, (bel3 w _ _ _).drew⟩
set_option maxHeartbeats 1000000 in
theorem l6pDone_any (f t : List UInt8) (n : Bool) (hf : f.length ≤ 4000000000) (ht : t.length ≤ 4000000000) (w : World) :
    Calls Tryd.prog 58 #[.agg #[.string (bs f), .string (bs t), .bool n]] w fun e w' => e = .returned (.tuple #[swV (doneS ⟨f, t, n⟩).1, .bool (doneS ⟨f, t, n⟩).2]) ∧ Below w.heap.size w w' := by
  have HC := Lib.hid (fun W => specIn_any f t n (by omega) (by omega) W)
  cases hi : inS ⟨f, t, n⟩ with
  | false =>
    rw [show doneS ⟨f, t, n⟩ = (.zero, false) by unfold doneS; rw [hi]; rfl, swV_zero]
    rw [hi] at HC
    clear hi hf ht
    go_enter Tryd.func58, Tryd.ntmps58
    go_wp2_with fail
    refine (HC.out _).mono ?_
    rintro e w1 ⟨rfl, hb1⟩
    have K0 := Lib.hid ((blk2_0 w #[.string (bs f), .string (bs t), .bool n] #[.string ⟨#[]⟩, .string ⟨#[]⟩, .bool false]).on hb1)
    have K1 := Lib.hid ((blk2_1 w #[.string (bs f), .string (bs t), .bool n] #[.string ⟨#[]⟩, .string ⟨#[]⟩, .bool false]).on hb1)
    have HB := Lib.hid ((bel2 w #[.string (bs f), .string (bs t), .bool n] #[.string ⟨#[]⟩, .string ⟨#[]⟩, .bool false]).trans (hb1.mono (bel2 w #[.string (bs f), .string (bs t), .bool n] #[.string ⟨#[]⟩, .string ⟨#[]⟩, .bool false]).size))
    have c00 : w1.cell? ⟨w.heap.size, 0, none⟩ = some (.string (bs f)) := K0.out.cell 0
    have c01 : w1.cell? ⟨w.heap.size, 1, none⟩ = some (.string (bs t)) := K0.out.cell 1
    have c02 : w1.cell? ⟨w.heap.size, 2, none⟩ = some (.bool n) := K0.out.cell 2
    have f00 : w1.frozen? ⟨w.heap.size, 0, none⟩ = false := K0.out.frozen 0
    have f01 : w1.frozen? ⟨w.heap.size, 1, none⟩ = false := K0.out.frozen 1
    have f02 : w1.frozen? ⟨w.heap.size, 2, none⟩ = false := K0.out.frozen 2
    have l0 : w.heap.size < w1.heap.size := K0.out.lt
    have c10 : w1.cell? ⟨w.heap.size + 1, 0, none⟩ = some (.string ⟨#[]⟩) := K1.out.cell 0
    have c11 : w1.cell? ⟨w.heap.size + 1, 1, none⟩ = some (.string ⟨#[]⟩) := K1.out.cell 1
    have c12 : w1.cell? ⟨w.heap.size + 1, 2, none⟩ = some (.bool false) := K1.out.cell 2
    have f10 : w1.frozen? ⟨w.heap.size + 1, 0, none⟩ = false := K1.out.frozen 0
    have f11 : w1.frozen? ⟨w.heap.size + 1, 1, none⟩ = false := K1.out.frozen 1
    have f12 : w1.frozen? ⟨w.heap.size + 1, 2, none⟩ = false := K1.out.frozen 2
    have l1 : w.heap.size + 1 < w1.heap.size := K1.out.lt
    clear hb1
    clear HC
    go_wp2
    exact bodyPost_ret (v := .tuple #[.agg #[.string ⟨#[]⟩, .string ⟨#[]⟩, .bool false], .bool false]) (by simp [results, Tryd.results58, go_sem, c10, c11, c12]) rfl ⟨rfl, (((HB.out.setCell (by show w.heap.size ≤ w.heap.size + 1; omega) _).setCell (by show w.heap.size ≤ w.heap.size + 1; omega) _).setCell (by show w.heap.size ≤ w.heap.size + 1; omega) _)⟩
  | true =>
    rw [show doneS ⟨f, t, n⟩ = (⟨f, t, n⟩, true) by unfold doneS; rw [hi]; rfl, swV_mk]
    rw [hi] at HC
    clear hi hf ht
    go_enter Tryd.func58, Tryd.ntmps58
    go_wp2_with fail
    refine (HC.out _).mono ?_
    rintro e w1 ⟨rfl, hb1⟩
    have K0 := Lib.hid ((blk2_0 w #[.string (bs f), .string (bs t), .bool n] #[.string ⟨#[]⟩, .string ⟨#[]⟩, .bool false]).on hb1)
    have K1 := Lib.hid ((blk2_1 w #[.string (bs f), .string (bs t), .bool n] #[.string ⟨#[]⟩, .string ⟨#[]⟩, .bool false]).on hb1)
    have HB := Lib.hid ((bel2 w #[.string (bs f), .string (bs t), .bool n] #[.string ⟨#[]⟩, .string ⟨#[]⟩, .bool false]).trans (hb1.mono (bel2 w #[.string (bs f), .string (bs t), .bool n] #[.string ⟨#[]⟩, .string ⟨#[]⟩, .bool false]).size))
    have c00 : w1.cell? ⟨w.heap.size, 0, none⟩ = some (.string (bs f)) := K0.out.cell 0
    have c01 : w1.cell? ⟨w.heap.size, 1, none⟩ = some (.string (bs t)) := K0.out.cell 1
    have c02 : w1.cell? ⟨w.heap.size, 2, none⟩ = some (.bool n) := K0.out.cell 2
    have f00 : w1.frozen? ⟨w.heap.size, 0, none⟩ = false := K0.out.frozen 0
    have f01 : w1.frozen? ⟨w.heap.size, 1, none⟩ = false := K0.out.frozen 1
    have f02 : w1.frozen? ⟨w.heap.size, 2, none⟩ = false := K0.out.frozen 2
    have l0 : w.heap.size < w1.heap.size := K0.out.lt
    have c10 : w1.cell? ⟨w.heap.size + 1, 0, none⟩ = some (.string ⟨#[]⟩) := K1.out.cell 0
    have c11 : w1.cell? ⟨w.heap.size + 1, 1, none⟩ = some (.string ⟨#[]⟩) := K1.out.cell 1
    have c12 : w1.cell? ⟨w.heap.size + 1, 2, none⟩ = some (.bool false) := K1.out.cell 2
    have f10 : w1.frozen? ⟨w.heap.size + 1, 0, none⟩ = false := K1.out.frozen 0
    have f11 : w1.frozen? ⟨w.heap.size + 1, 1, none⟩ = false := K1.out.frozen 1
    have f12 : w1.frozen? ⟨w.heap.size + 1, 2, none⟩ = false := K1.out.frozen 2
    have l1 : w.heap.size + 1 < w1.heap.size := K1.out.lt
    clear hb1
    clear HC
    go_wp2
    exact bodyPost_ret (v := .tuple #[.agg #[.string (bs f), .string (bs t), .bool n], .bool true]) (by simp [results, Tryd.results58, go_sem, c10, c11, c12]) rfl ⟨rfl, (((HB.out.setCell (by show w.heap.size ≤ w.heap.size + 1; omega) _).setCell (by show w.heap.size ≤ w.heap.size + 1; omega) _).setCell (by show w.heap.size ≤ w.heap.size + 1; omega) _)⟩
set_option maxHeartbeats 1000000 in
theorem specTurned_any (f t : List UInt8) (n : Bool) (hf : f.length ≤ 4000000000) (ht : t.length ≤ 4000000000) (w : World) :
    Calls Tryd.prog 32 #[.agg #[.string (bs f), .string (bs t), .bool n]] w fun e w' => e = .returned (.tuple #[swV (turnedS ⟨f, t, n⟩).1, .bool (turnedS ⟨f, t, n⟩).2]) ∧ Below w.heap.size w w' := by
  have HC := Lib.hid (fun W => specIn_any f t n (by omega) (by omega) W)
  cases hi : inS ⟨f, t, n⟩ with
  | false =>
    rw [show turnedS ⟨f, t, n⟩ = (.zero, false) by unfold turnedS; rw [hi]; rfl, swV_zero]
    rw [hi] at HC
    clear hi hf ht
    go_enter Tryd.func32, Tryd.ntmps32
    go_wp2_with fail
    refine (HC.out _).mono ?_
    rintro e w1 ⟨rfl, hb1⟩
    have K0 := Lib.hid ((blk2_0 w #[.string (bs f), .string (bs t), .bool n] #[.string ⟨#[]⟩, .string ⟨#[]⟩, .bool false]).on hb1)
    have K1 := Lib.hid ((blk2_1 w #[.string (bs f), .string (bs t), .bool n] #[.string ⟨#[]⟩, .string ⟨#[]⟩, .bool false]).on hb1)
    have HB := Lib.hid ((bel2 w #[.string (bs f), .string (bs t), .bool n] #[.string ⟨#[]⟩, .string ⟨#[]⟩, .bool false]).trans (hb1.mono (bel2 w #[.string (bs f), .string (bs t), .bool n] #[.string ⟨#[]⟩, .string ⟨#[]⟩, .bool false]).size))
    have c00 : w1.cell? ⟨w.heap.size, 0, none⟩ = some (.string (bs f)) := K0.out.cell 0
    have c01 : w1.cell? ⟨w.heap.size, 1, none⟩ = some (.string (bs t)) := K0.out.cell 1
    have c02 : w1.cell? ⟨w.heap.size, 2, none⟩ = some (.bool n) := K0.out.cell 2
    have f00 : w1.frozen? ⟨w.heap.size, 0, none⟩ = false := K0.out.frozen 0
    have f01 : w1.frozen? ⟨w.heap.size, 1, none⟩ = false := K0.out.frozen 1
    have f02 : w1.frozen? ⟨w.heap.size, 2, none⟩ = false := K0.out.frozen 2
    have l0 : w.heap.size < w1.heap.size := K0.out.lt
    have c10 : w1.cell? ⟨w.heap.size + 1, 0, none⟩ = some (.string ⟨#[]⟩) := K1.out.cell 0
    have c11 : w1.cell? ⟨w.heap.size + 1, 1, none⟩ = some (.string ⟨#[]⟩) := K1.out.cell 1
    have c12 : w1.cell? ⟨w.heap.size + 1, 2, none⟩ = some (.bool false) := K1.out.cell 2
    have f10 : w1.frozen? ⟨w.heap.size + 1, 0, none⟩ = false := K1.out.frozen 0
    have f11 : w1.frozen? ⟨w.heap.size + 1, 1, none⟩ = false := K1.out.frozen 1
    have f12 : w1.frozen? ⟨w.heap.size + 1, 2, none⟩ = false := K1.out.frozen 2
    have l1 : w.heap.size + 1 < w1.heap.size := K1.out.lt
    clear hb1
    clear HC
    go_wp2
    exact bodyPost_ret (v := .tuple #[.agg #[.string ⟨#[]⟩, .string ⟨#[]⟩, .bool false], .bool false]) (by simp [results, Tryd.results32, go_sem, c10, c11, c12]) rfl ⟨rfl, (((HB.out.setCell (by show w.heap.size ≤ w.heap.size + 1; omega) _).setCell (by show w.heap.size ≤ w.heap.size + 1; omega) _).setCell (by show w.heap.size ≤ w.heap.size + 1; omega) _)⟩
  | true =>
    rw [show turnedS ⟨f, t, n⟩ = (⟨t, f, n⟩, true) by unfold turnedS; rw [hi]; rfl, swV_mk]
    rw [hi] at HC
    clear hi hf ht
    go_enter Tryd.func32, Tryd.ntmps32
    go_wp2_with fail
    refine (HC.out _).mono ?_
    rintro e w1 ⟨rfl, hb1⟩
    have K0 := Lib.hid ((blk2_0 w #[.string (bs f), .string (bs t), .bool n] #[.string ⟨#[]⟩, .string ⟨#[]⟩, .bool false]).on hb1)
    have K1 := Lib.hid ((blk2_1 w #[.string (bs f), .string (bs t), .bool n] #[.string ⟨#[]⟩, .string ⟨#[]⟩, .bool false]).on hb1)
    have HB := Lib.hid ((bel2 w #[.string (bs f), .string (bs t), .bool n] #[.string ⟨#[]⟩, .string ⟨#[]⟩, .bool false]).trans (hb1.mono (bel2 w #[.string (bs f), .string (bs t), .bool n] #[.string ⟨#[]⟩, .string ⟨#[]⟩, .bool false]).size))
    have c00 : w1.cell? ⟨w.heap.size, 0, none⟩ = some (.string (bs f)) := K0.out.cell 0
    have c01 : w1.cell? ⟨w.heap.size, 1, none⟩ = some (.string (bs t)) := K0.out.cell 1
    have c02 : w1.cell? ⟨w.heap.size, 2, none⟩ = some (.bool n) := K0.out.cell 2
    have f00 : w1.frozen? ⟨w.heap.size, 0, none⟩ = false := K0.out.frozen 0
    have f01 : w1.frozen? ⟨w.heap.size, 1, none⟩ = false := K0.out.frozen 1
    have f02 : w1.frozen? ⟨w.heap.size, 2, none⟩ = false := K0.out.frozen 2
    have l0 : w.heap.size < w1.heap.size := K0.out.lt
    have c10 : w1.cell? ⟨w.heap.size + 1, 0, none⟩ = some (.string ⟨#[]⟩) := K1.out.cell 0
    have c11 : w1.cell? ⟨w.heap.size + 1, 1, none⟩ = some (.string ⟨#[]⟩) := K1.out.cell 1
    have c12 : w1.cell? ⟨w.heap.size + 1, 2, none⟩ = some (.bool false) := K1.out.cell 2
    have f10 : w1.frozen? ⟨w.heap.size + 1, 0, none⟩ = false := K1.out.frozen 0
    have f11 : w1.frozen? ⟨w.heap.size + 1, 1, none⟩ = false := K1.out.frozen 1
    have f12 : w1.frozen? ⟨w.heap.size + 1, 2, none⟩ = false := K1.out.frozen 2
    have l1 : w.heap.size + 1 < w1.heap.size := K1.out.lt
    clear hb1
    clear HC
    go_wp2
    exact bodyPost_ret (v := .tuple #[.agg #[.string (bs t), .string (bs f), .bool n], .bool true]) (by simp [results, Tryd.results32, go_sem, c10, c11, c12]) rfl ⟨rfl, (((HB.out.setCell (by show w.heap.size ≤ w.heap.size + 1; omega) _).setCell (by show w.heap.size ≤ w.heap.size + 1; omega) _).setCell (by show w.heap.size ≤ w.heap.size + 1; omega) _)⟩
set_option maxHeartbeats 1000000 in
theorem specIdem_any (f t : List UInt8) (n : Bool) (hf : f.length ≤ 4000000000) (ht : t.length ≤ 4000000000) (w : World) :
    Calls Tryd.prog 35 #[.agg #[.string (bs f), .string (bs t), .bool n]] w fun e w' => e = .returned (.bool (idemS ⟨f, t, n⟩)) ∧ Below w.heap.size w w' := by
  have HC := Lib.hid (fun W => specIn_any f t n (by omega) (by omega) W)
  have HE : Hid (idemS ⟨f, t, n⟩ = (inS ⟨f, t, n⟩ && f == t)) := rfl
  have e1 := bs_list f
  have e2 := bs_list t
  rw [HE.out]
  clear HE
  generalize inS ⟨f, t, n⟩ = R at *
  generalize bs f = fb at *
  generalize bs t = tb at *
  cases R with
  | false =>
    go_enter Tryd.func35, Tryd.ntmps35
    go_wp2_with fail
    refine (HC.out _).mono ?_
    rintro e w1 ⟨rfl, hb1⟩
    have K0 := Lib.hid ((blk1_0 w #[.string fb, .string tb, .bool n]).on hb1)
    have HB := Lib.hid ((bel1 w #[.string fb, .string tb, .bool n]).trans (hb1.mono (bel1 w #[.string fb, .string tb, .bool n]).size))
    have c00 : w1.cell? ⟨w.heap.size, 0, none⟩ = some (.string fb) := K0.out.cell 0
    have c01 : w1.cell? ⟨w.heap.size, 1, none⟩ = some (.string tb) := K0.out.cell 1
    have c02 : w1.cell? ⟨w.heap.size, 2, none⟩ = some (.bool n) := K0.out.cell 2
    have f00 : w1.frozen? ⟨w.heap.size, 0, none⟩ = false := K0.out.frozen 0
    have f01 : w1.frozen? ⟨w.heap.size, 1, none⟩ = false := K0.out.frozen 1
    have f02 : w1.frozen? ⟨w.heap.size, 2, none⟩ = false := K0.out.frozen 2
    have l0 : w.heap.size < w1.heap.size := K0.out.lt
    clear hb1
    clear HC
    go_wp2
    go_ret
    exact ⟨by try rfl, HB.out⟩
  | true =>
    go_enter Tryd.func35, Tryd.ntmps35
    go_wp2_with fail
    refine (HC.out _).mono ?_
    rintro e w1 ⟨rfl, hb1⟩
    have K0 := Lib.hid ((blk1_0 w #[.string fb, .string tb, .bool n]).on hb1)
    have HB := Lib.hid ((bel1 w #[.string fb, .string tb, .bool n]).trans (hb1.mono (bel1 w #[.string fb, .string tb, .bool n]).size))
    have c00 : w1.cell? ⟨w.heap.size, 0, none⟩ = some (.string fb) := K0.out.cell 0
    have c01 : w1.cell? ⟨w.heap.size, 1, none⟩ = some (.string tb) := K0.out.cell 1
    have c02 : w1.cell? ⟨w.heap.size, 2, none⟩ = some (.bool n) := K0.out.cell 2
    have f00 : w1.frozen? ⟨w.heap.size, 0, none⟩ = false := K0.out.frozen 0
    have f01 : w1.frozen? ⟨w.heap.size, 1, none⟩ = false := K0.out.frozen 1
    have f02 : w1.frozen? ⟨w.heap.size, 2, none⟩ = false := K0.out.frozen 2
    have l0 : w.heap.size < w1.heap.size := K0.out.lt
    clear hb1
    clear HC
    go_wp2
    go_ret
    exact ⟨by rw [Bool.true_and]; try rfl, HB.out⟩
set_option maxHeartbeats 1000000 in
theorem specAct_any (f t : List UInt8) (n : Bool) (x : List UInt8) (hf : f.length ≤ 4000000) (ht : t.length ≤ 4000000) (hx : x.length ≤ 4000000) (w : World) :
    Calls Tryd.prog 37 #[.agg #[.string (bs f), .string (bs t), .bool n], .string (bs x)] w fun e w' => e = .returned (.tuple #[.string (bs (movS ⟨f, t, n⟩ x).1), .bool (movS ⟨f, t, n⟩ x).2]) ∧ Below w.heap.size w w' := by
  have HC := Lib.hid (fun W => specIn_any f t n (by omega) (by omega) W)
  have HT := Lib.hid (fun W => l6pText_any x 40 (by omega) W)
  have HG := Lib.hid (fun W => l6pBegins_any x f W)
  have z1 := bs_size f
  have z2 := bs_size t
  have z3 := bs_size x
  have z5 := bs_size (x.drop f.length)
  rw [List.length_drop] at z5
  have x1 := sub_bs x f
  have y1 := bs_app t (x.drop f.length)
  have hle : beg x f = true → (f.length : Int) ≤ (x.length : Int) := fun h => by obtain ⟨e, rfl⟩ := beg_iff.1 h; rw [List.length_append]; omega
  have HE : Hid (movS ⟨f, t, n⟩ x = if (inS ⟨f, t, n⟩ && sgB x 40) = true then match actS ⟨f, t, n⟩ x with | some y => (y, true) | .none => ([], false) else ([], false)) := rfl
  have HF : Hid (actS ⟨f, t, n⟩ x = if (!n && beg x f) = true then some (t ++ x.drop f.length) else Option.none) := rfl
  cases hi : inS ⟨f, t, n⟩ with
  | false =>
    rw [hi] at HC
    have hR : movS ⟨f, t, n⟩ x = ([], false) := by rw [HE.out, hi, Bool.false_and, if_neg (by decide)]; try rfl
    rw [hR]
    clear hR HE HF
    go_enter Tryd.func37, Tryd.ntmps37
    go_wp2_with fail
    refine (HC.out _).mono ?_
    rintro e w1 ⟨rfl, hb1⟩
    have K0 := Lib.hid ((blk1_0 w #[.string (bs f), .string (bs t), .bool n]).on hb1)
    have HB := Lib.hid ((bel1 w #[.string (bs f), .string (bs t), .bool n]).trans (hb1.mono (bel1 w #[.string (bs f), .string (bs t), .bool n]).size))
    have c00 : w1.cell? ⟨w.heap.size, 0, none⟩ = some (.string (bs f)) := K0.out.cell 0
    have c01 : w1.cell? ⟨w.heap.size, 1, none⟩ = some (.string (bs t)) := K0.out.cell 1
    have c02 : w1.cell? ⟨w.heap.size, 2, none⟩ = some (.bool n) := K0.out.cell 2
    have f00 : w1.frozen? ⟨w.heap.size, 0, none⟩ = false := K0.out.frozen 0
    have f01 : w1.frozen? ⟨w.heap.size, 1, none⟩ = false := K0.out.frozen 1
    have f02 : w1.frozen? ⟨w.heap.size, 2, none⟩ = false := K0.out.frozen 2
    have l0 : w.heap.size < w1.heap.size := K0.out.lt
    clear hb1
    clear HC
    go_wp2
    exact bodyPost_ret (v := .tuple #[.string ⟨#[]⟩, .bool false]) (by simp [results, Tryd.results37, go_sem]) rfl ⟨by try rfl, HB.out⟩
  | true =>
    rw [hi] at HC
    cases hs : sgB x 40 with
    | false =>
      rw [hs] at HT
      have hR : movS ⟨f, t, n⟩ x = ([], false) := by rw [HE.out, hi, hs, Bool.true_and, if_neg (by decide)]; try rfl
      rw [hR]
      clear hR HE HF
      go_enter Tryd.func37, Tryd.ntmps37
      go_wp2_with fail
      refine (HC.out _).mono ?_
      rintro e w1 ⟨rfl, hb1⟩
      have K0 := Lib.hid ((blk1_0 w #[.string (bs f), .string (bs t), .bool n]).on hb1)
      have HB := Lib.hid ((bel1 w #[.string (bs f), .string (bs t), .bool n]).trans (hb1.mono (bel1 w #[.string (bs f), .string (bs t), .bool n]).size))
      have c00 : w1.cell? ⟨w.heap.size, 0, none⟩ = some (.string (bs f)) := K0.out.cell 0
      have c01 : w1.cell? ⟨w.heap.size, 1, none⟩ = some (.string (bs t)) := K0.out.cell 1
      have c02 : w1.cell? ⟨w.heap.size, 2, none⟩ = some (.bool n) := K0.out.cell 2
      have f00 : w1.frozen? ⟨w.heap.size, 0, none⟩ = false := K0.out.frozen 0
      have f01 : w1.frozen? ⟨w.heap.size, 1, none⟩ = false := K0.out.frozen 1
      have f02 : w1.frozen? ⟨w.heap.size, 2, none⟩ = false := K0.out.frozen 2
      have l0 : w.heap.size < w1.heap.size := K0.out.lt
      clear hb1
      clear HC
      go_wp2_with fail
      refine (HT.out _).mono ?_
      rintro e v2 ⟨rfl, hw⟩
      subst v2
      clear HT
      go_wp2
      exact bodyPost_ret (v := .tuple #[.string ⟨#[]⟩, .bool false]) (by simp [results, Tryd.results37, go_sem]) rfl ⟨by try rfl, HB.out⟩
    | true =>
      rw [hs] at HT
      cases n with
      | false =>
        cases hg : beg x f with
        | false =>
          rw [hg] at HG
          have hR : movS ⟨f, t, false⟩ x = ([], false) := by rw [HE.out, hi, hs, HF.out, hg, Bool.true_and, if_pos rfl, Bool.and_false, if_neg (by decide)]; try rfl
          rw [hR]
          clear hR HE HF
          go_enter Tryd.func37, Tryd.ntmps37
          go_wp2_with fail
          refine (HC.out _).mono ?_
          rintro e w1 ⟨rfl, hb1⟩
          have K0 := Lib.hid ((blk1_0 w #[.string (bs f), .string (bs t), .bool false]).on hb1)
          have HB := Lib.hid ((bel1 w #[.string (bs f), .string (bs t), .bool false]).trans (hb1.mono (bel1 w #[.string (bs f), .string (bs t), .bool false]).size))
          have c00 : w1.cell? ⟨w.heap.size, 0, none⟩ = some (.string (bs f)) := K0.out.cell 0
          have c01 : w1.cell? ⟨w.heap.size, 1, none⟩ = some (.string (bs t)) := K0.out.cell 1
          have c02 : w1.cell? ⟨w.heap.size, 2, none⟩ = some (.bool false) := K0.out.cell 2
          have f00 : w1.frozen? ⟨w.heap.size, 0, none⟩ = false := K0.out.frozen 0
          have f01 : w1.frozen? ⟨w.heap.size, 1, none⟩ = false := K0.out.frozen 1
          have f02 : w1.frozen? ⟨w.heap.size, 2, none⟩ = false := K0.out.frozen 2
          have l0 : w.heap.size < w1.heap.size := K0.out.lt
          clear hb1
          clear HC
          go_wp2_with fail
          refine (HT.out _).mono ?_
          rintro e v2 ⟨rfl, hw⟩
          subst v2
          clear HT
          go_wp2_with fail
          refine (HG.out _).mono ?_
          rintro e v3 ⟨rfl, hw⟩
          subst v3
          clear HG
          go_wp2
          exact bodyPost_ret (v := .tuple #[.string ⟨#[]⟩, .bool false]) (by simp [results, Tryd.results37, go_sem]) rfl ⟨by try rfl, HB.out⟩
        | true =>
          rw [hg] at HG
          have hle := hle hg
          have hR : movS ⟨f, t, false⟩ x = (t ++ x.drop f.length, true) := by rw [HE.out, hi, hs, HF.out, hg, Bool.true_and, if_pos rfl, Bool.and_true, Bool.not_false, if_pos rfl]; try rfl
          rw [hR]
          clear hR HE HF
          rw [← y1]
          clear y1
          go_enter Tryd.func37, Tryd.ntmps37
          go_wp2_with fail
          refine (HC.out _).mono ?_
          rintro e w1 ⟨rfl, hb1⟩
          have K0 := Lib.hid ((blk1_0 w #[.string (bs f), .string (bs t), .bool false]).on hb1)
          have HB := Lib.hid ((bel1 w #[.string (bs f), .string (bs t), .bool false]).trans (hb1.mono (bel1 w #[.string (bs f), .string (bs t), .bool false]).size))
          have c00 : w1.cell? ⟨w.heap.size, 0, none⟩ = some (.string (bs f)) := K0.out.cell 0
          have c01 : w1.cell? ⟨w.heap.size, 1, none⟩ = some (.string (bs t)) := K0.out.cell 1
          have c02 : w1.cell? ⟨w.heap.size, 2, none⟩ = some (.bool false) := K0.out.cell 2
          have f00 : w1.frozen? ⟨w.heap.size, 0, none⟩ = false := K0.out.frozen 0
          have f01 : w1.frozen? ⟨w.heap.size, 1, none⟩ = false := K0.out.frozen 1
          have f02 : w1.frozen? ⟨w.heap.size, 2, none⟩ = false := K0.out.frozen 2
          have l0 : w.heap.size < w1.heap.size := K0.out.lt
          clear hb1
          clear HC
          go_wp2_with fail
          refine (HT.out _).mono ?_
          rintro e v2 ⟨rfl, hw⟩
          subst v2
          clear HT
          go_wp2_with fail
          refine (HG.out _).mono ?_
          rintro e v3 ⟨rfl, hw⟩
          subst v3
          clear HG
          go_wp2_with fail
          go_region
          go_wp2
          exact bodyPost_ret (v := .tuple #[.string (bs t ++ bs (x.drop f.length)), .bool true]) (by simp [results, Tryd.results37, go_sem]) rfl ⟨by try rfl, (HB.out).drew⟩
      | true =>
        have hR : movS ⟨f, t, true⟩ x = ([], false) := by rw [HE.out, hi, hs, HF.out, Bool.true_and, if_pos rfl, Bool.not_true, Bool.false_and, if_neg (by decide)]; try rfl
        rw [hR]
        clear hR HE HF
        go_enter Tryd.func37, Tryd.ntmps37
        go_wp2_with fail
        refine (HC.out _).mono ?_
        rintro e w1 ⟨rfl, hb1⟩
        have K0 := Lib.hid ((blk1_0 w #[.string (bs f), .string (bs t), .bool true]).on hb1)
        have HB := Lib.hid ((bel1 w #[.string (bs f), .string (bs t), .bool true]).trans (hb1.mono (bel1 w #[.string (bs f), .string (bs t), .bool true]).size))
        have c00 : w1.cell? ⟨w.heap.size, 0, none⟩ = some (.string (bs f)) := K0.out.cell 0
        have c01 : w1.cell? ⟨w.heap.size, 1, none⟩ = some (.string (bs t)) := K0.out.cell 1
        have c02 : w1.cell? ⟨w.heap.size, 2, none⟩ = some (.bool true) := K0.out.cell 2
        have f00 : w1.frozen? ⟨w.heap.size, 0, none⟩ = false := K0.out.frozen 0
        have f01 : w1.frozen? ⟨w.heap.size, 1, none⟩ = false := K0.out.frozen 1
        have f02 : w1.frozen? ⟨w.heap.size, 2, none⟩ = false := K0.out.frozen 2
        have l0 : w.heap.size < w1.heap.size := K0.out.lt
        clear hb1
        clear HC
        go_wp2_with fail
        refine (HT.out _).mono ?_
        rintro e v2 ⟨rfl, hw⟩
        subst v2
        clear HT
        go_wp2
        exact bodyPost_ret (v := .tuple #[.string ⟨#[]⟩, .bool false]) (by simp [results, Tryd.results37, go_sem]) rfl ⟨by try rfl, HB.out⟩
end Go.Proofs.YtdljndpobklkjaaDoor
