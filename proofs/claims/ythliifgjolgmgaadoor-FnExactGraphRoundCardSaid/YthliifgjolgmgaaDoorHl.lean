/-
  spec.GraphRound, impl.GraphRound.
-/
import Derived.Test.YthliifgjolgmgaaDoorHk
import Derived.Test.YthliifgjolgmgaaDoorHe
namespace Go.Proofs.YthliifgjolgmgaaDoor
set_option maxRecDepth 100000
set_option linter.unusedVariables false
open Go.RowKit Go.Lib

/-- a word goes round in a graph as told -/
def RndQ (k : Int) (zs ys : List Int) (s : ByteArray) : Prop := GT k zs ys ∧ wordB5 s = true ∧ rdW (nxG zs ys k.toNat) s.data.toList = some 0
theorem enc_zero {o : Option Nat} : (enc o == 0) = true ↔ o = some 0 := by
  cases o with
  | none => exact ⟨(fun h => by cases h), fun h => by cases h⟩
  | some v =>
    rw [show enc (some v) = (v : Int) from rfl, beq_iff_eq]
    exact ⟨fun h => by rw [show v = 0 by omega], fun h => by injection h with h; omega⟩
set_option maxHeartbeats 2000000 in
theorem specRound5_any (k : Int) (a b : Option Addr) (p m c d : Nat) (zs ys : List Int) (s : ByteArray) (w : World) (h : RI w a p zs) (h' : RI w b m ys) (hp : p ≤ 1048576) (hm : m ≤ 1048576) (hs : s.size ≤ 1048576) :
    Calls Tryd.prog 16 #[.agg #[.int .i64 k, .slice a p c, .slice b m d], .string s] w fun e w' => ∃ r : Bool, e = .returned (.bool r) ∧ (r = true ↔ RndQ k zs ys s) ∧ Below w.heap.size w w' := by
  have hB0 : Below w.heap.size w (w.alloc (.cells #[.int .i64 k, .slice a p c, .slice b m d] 26)) := (Below.refl _ w).alloc (Nat.le_refl _) _
  have hA0 : Blk (w.alloc (.cells #[.int .i64 k, .slice a p c, .slice b m d] 26)) w.heap.size 26 #[.int .i64 k, .slice a p c, .slice b m d] := Blk.new w _ _
  have HIN := Lib.hid (specGraphIn_any k a b p m c d zs ys _ (h.below hB0) (h'.below hB0) hp hm)
  have HRI : Hid (∀ W : World, Below w.heap.size w W → RI W a p zs ∧ RI W b m ys) := fun W hW => ⟨h.below hW, h'.below hW⟩
  have HPL : Hid (zs.length = p ∧ ys.length = m) := ⟨h.len, h'.len⟩
  have HW := Lib.hid (fun W : World => l4Word5_any s hs W)
  have HWQ : Hid (RndQ k zs ys s → wordB5 s = true) := fun h => h.2.1
  have HWE : Hid (GT k zs ys → wordB5 s = true → rdW (nxG zs ys k.toNat) s.data.toList = some 0 → RndQ k zs ys s) := fun a b c => ⟨a, b, c⟩
  have HWR : Hid (RndQ k zs ys s → rdW (nxG zs ys k.toNat) s.data.toList = some 0) := fun h => h.2.2
  have HWG : Hid (RndQ k zs ys s → GT k zs ys) := fun h => h.1
  have HB0 := Lib.hid hB0
  have HA0 := Lib.hid hA0
  clear h h' hB0 hA0
  generalize RndQ k zs ys s = RQ at *
  generalize wordB5 s = wb at *
  go_enter Tryd.func16, Tryd.ntmps16
  go_wp2_with fail
  refine HIN.out.mono ?_
  rintro e w1 ⟨r1, rfl, hr1, hb⟩
  have HA1 := Lib.hid (HA0.out.below hb HA0.out.lt)
  have HB1 := Lib.hid (HB0.out.trans (hb.mono HB0.out.size))
  have HR1 := Lib.hid hr1
  clear hb hr1 HIN HA0 HB0
  cases r1 with
  | false =>
    have HNO : Hid (¬ RQ) := fun h => Bool.noConfusion (HR1.out.2 (HWG.out h))
    clear HWQ HWE HWR HWG HR1
    go_wp2
    go_ret
    exact ⟨false, rfl, ⟨(fun h => by cases h), fun h => absurd h HNO.out⟩, HB1.out⟩
  | true =>
    have HG := Lib.hid (HR1.out.1 rfl)
    clear HR1
    go_wp2_with fail
    refine (HW.out _).mono ?_
    rintro e w2 ⟨rfl, hw2⟩
    subst hw2
    cases wb with
    | false =>
      have HNO : Hid (¬ RQ) := fun h => Bool.noConfusion (HWQ.out h)
      clear HWQ HWE HWR HWG
      go_wp2
      go_ret
      exact ⟨false, rfl, ⟨(fun h => by cases h), fun h => absurd h HNO.out⟩, HB1.out⟩
    | true =>
      have HQ : Hid (rdW (nxG zs ys k.toNat) s.data.toList = some 0 ↔ RQ) := ⟨fun h => HWE.out HG.out rfl h, HWR.out⟩
      clear HWQ HWE HWR HWG HW
      obtain ⟨n, rfl, hn1, hn2, _⟩ := HG.out
      obtain ⟨l1, l2, _⟩ := gt_n HG.out
      obtain rfl : p = n := by rw [← HPL.out.1]; exact l1.1
      obtain rfl : m = p := by rw [← HPL.out.2]; exact l2.1
      rw [show (m : Int).toNat = m by omega] at HQ
      have HRD := Lib.hid (l5Read_any a b m c d zs ys s w2 (HRI.out _ HB1.out).1 (HRI.out _ HB1.out).2 l1 l2 (by omega) hn1 hs)
      clear l1 l2
      have HZ : Hid ((enc (rdW (nxG zs ys m) s.data.toList) == 0) = true ↔ RQ) := enc_zero.trans HQ.out
      generalize enc (rdW (nxG zs ys m) s.data.toList) = z at *
      have g0 : w2.cell? ⟨w.heap.size, 0, none⟩ = some (.int .i64 (m : Int)) := HA1.out.cell 0
      have g1 : w2.cell? ⟨w.heap.size, 1, none⟩ = some (.slice a m c) := HA1.out.cell 1
      have g2 : w2.cell? ⟨w.heap.size, 2, none⟩ = some (.slice b m d) := HA1.out.cell 2
      clear HQ
      go_wp2_with fail
      refine HRD.out.mono ?_
      rintro e w3 ⟨rfl, hb3⟩
      have HB3 := Lib.hid (HB1.out.trans (hb3.mono HB1.out.size))
      clear hb3 HRD g0 g1 g2
      by_cases hz : (z == 0) = true
      · have HY : Hid RQ := HZ.out.1 hz
        clear HZ
        go_wp2
        go_ret
        exact ⟨true, rfl, ⟨fun _ => HY.out, fun _ => rfl⟩, HB3.out⟩
      · have hz2 : (z == 0) = false := by simpa using hz
        have HNO : Hid (¬ RQ) := fun h => hz (HZ.out.2 h)
        clear HZ hz
        go_wp2
        go_ret
        exact ⟨false, rfl, ⟨(fun h => by cases h), fun h => absurd h HNO.out⟩, HB3.out⟩
set_option maxHeartbeats 2000000 in
theorem implRound5_any (k : Int) (a b : Option Addr) (p m c d : Nat) (zs ys : List Int) (s : ByteArray) (w : World) (h : RI w a p zs) (h' : RI w b m ys) (hp : p ≤ 1048576) (hm : m ≤ 1048576) (hs : s.size ≤ 1048576) :
    Calls Tryd.prog 18 #[.agg #[.int .i64 k, .slice a p c, .slice b m d], .string s] w fun e w' => ∃ r : Bool, e = .returned (.bool r) ∧ (r = true ↔ RndQ k zs ys s) ∧ Below w.heap.size w w' := by
  have hB0 : Below w.heap.size w (w.alloc (.cells #[.int .i64 k, .slice a p c, .slice b m d] 26)) := (Below.refl _ w).alloc (Nat.le_refl _) _
  have HGF := Lib.hid (graphFrom_any k a b p m c d zs ys _ (h.below hB0) (h'.below hB0) hp hm)
  have HW := Lib.hid (fun W : World => isWord5_any s hs W)
  have HWD : Hid (wordB5 s = true → ∀ b ∈ s.data.toList, isLt b) := word_is
  have HWQ : Hid (RndQ k zs ys s → wordB5 s = true) := fun h => h.2.1
  have HWE : Hid (GT k zs ys → wordB5 s = true → rdW (nxG zs ys k.toNat) s.data.toList = some 0 → RndQ k zs ys s) := fun a b c => ⟨a, b, c⟩
  have HWR : Hid (RndQ k zs ys s → rdW (nxG zs ys k.toNat) s.data.toList = some 0) := fun h => h.2.2
  have HWG : Hid (RndQ k zs ys s → GT k zs ys) := fun h => h.1
  have HB0 := Lib.hid hB0
  clear h h' hB0
  generalize RndQ k zs ys s = RQ at *
  generalize wordB5 s = wb at *
  go_enter Tryd.func18, Tryd.ntmps18
  go_wp2_with fail
  refine HGF.out.mono ?_
  rintro e w1 ⟨hb, hcase⟩
  have HB1 := Lib.hid (HB0.out.trans (hb.mono (by simp)))
  clear hb HGF HB0
  rcases hcase with ⟨rfl, hno⟩ | ⟨n, v, rfl, rfl, hg, ho⟩
  · have HNO : Hid (¬ RQ) := fun h => hno (HWG.out h)
    clear hno HWQ HWE HWR HWG HWD
    go_wp2
    go_ret
    exact ⟨false, rfl, ⟨(fun h => by cases h), fun h => absurd h HNO.out⟩, HB1.out.alloc HB1.out.size _⟩
  · have HG := Lib.hid hg
    obtain ⟨n', e0, hn1, hn2, l1, l2, _⟩ := hg
    obtain rfl : n = n' := by omega
    rw [show (n : Int).toNat = n by omega] at HWE HWR
    have HNL : Hid (∀ c v u, nxG zs ys n c v = some u → u < n) := nxG_lt l1 l2
    have HTG : Hid (∀ l v, l < 4 → v < n → (tabG zs ys n)[l * n + v]? = some (enc (nxG zs ys n l v))) := fun l v => tabG_get
    obtain ⟨A, cc, rfl⟩ := own_sl5 ho
    have hri := RI.of_own ho
    have hb2 : Below w1.heap.size w1 (w1.alloc (.cells #[.int .i64 (n : Int), .slice A (tabG zs ys n).length cc] 52)) := (Below.refl _ _).alloc (Nat.le_refl _) _
    have hP := Blk.new w1 52 #[.int .i64 (n : Int), .slice A (tabG zs ys n).length cc]
    have HR2 := Lib.hid (hri.below hb2)
    have HP2 := Lib.hid hP
    have HB2 := Lib.hid (HB1.out.trans (hb2.mono HB1.out.size))
    clear l1 l2 ho hri hb2 hP e0
    generalize tabG zs ys n = T at *
    generalize nxG zs ys n = nx at *
    go_wp2_with fail
    refine (HW.out _).mono ?_
    rintro e w3 ⟨rfl, hb3⟩
    have HR3 := Lib.hid (HR2.out.below hb3)
    have hP3 := HP2.out.below hb3 HP2.out.lt
    have p0 : w3.cell? ⟨w1.heap.size, 0, none⟩ = some (.int .i64 (n : Int)) := hP3.cell 0
    have p1 : w3.cell? ⟨w1.heap.size, 1, none⟩ = some (.slice A T.length cc) := hP3.cell 1
    have HB3 := Lib.hid (HB2.out.trans (hb3.mono HB2.out.size))
    clear hb3 hP3 HR2 HP2 HB2
    cases wb with
    | false =>
      have HNO : Hid (¬ RQ) := fun h => Bool.noConfusion (HWQ.out h)
      clear HWQ HWE HWR HWG HWD
      go_wp2
      go_ret
      exact ⟨false, rfl, ⟨(fun h => by cases h), fun h => absurd h HNO.out⟩, HB3.out⟩
    | true =>
      have HQ : Hid (rdW nx s.data.toList = some 0 ↔ RQ) := ⟨fun h => HWE.out HG.out rfl h, HWR.out⟩
      have HAL := Lib.hid (galong_any A n T.length cc T nx s w3 HR3.out (by omega) hn1 hs HTG.out HNL.out (HWD.out rfl))
      have HZ : Hid ((enc (rdW nx s.data.toList) == 0) = true ↔ RQ) := enc_zero.trans HQ.out
      generalize enc (rdW nx s.data.toList) = z at *
      clear HQ HWQ HWE HWR HWG HWD HW
      go_wp2_with fail
      refine HAL.out.mono ?_
      rintro e w4 ⟨rfl, hb4⟩
      have HB4 := Lib.hid (HB3.out.trans (hb4.mono HB3.out.size))
      clear hb4 HAL p0 p1
      by_cases hz : (z == 0) = true
      · have HY : Hid RQ := HZ.out.1 hz
        clear HZ
        go_wp2
        go_ret
        exact ⟨true, rfl, ⟨fun _ => HY.out, fun _ => rfl⟩, HB4.out⟩
      · have hz2 : (z == 0) = false := by simpa using hz
        have HNO : Hid (¬ RQ) := fun h => hz (HZ.out.2 h)
        clear HZ hz
        go_wp2
        go_ret
        exact ⟨false, rfl, ⟨(fun h => by cases h), fun h => absurd h HNO.out⟩, HB4.out⟩
end Go.Proofs.YthliifgjolgmgaaDoor
