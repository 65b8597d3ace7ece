/-
  Tfr.
-/
import Derived.Deep.RegionHeld3
import Derived.Test.YtlcjgppclclkoaaDoorTZ
namespace Go.Proofs.YtlcjgppclclkoaaDoor
set_option maxRecDepth 100000
set_option linter.unusedVariables false
set_option linter.unusedSimpArgs false
set_option linter.unusedSectionVars false

/-! impl.treeFrom. -/
section
open Go.RowKit Go.Lib Go.Sort

theorem far2 {w : World} {g g' i : Nat} {x y v : Value} (h : w.cell? ⟨g, i, none⟩ = some v) (hne : g ≠ g') : ((w.setCell ⟨g', 0, none⟩ x).setCell ⟨g', 1, none⟩ y).cell? ⟨g, i, none⟩ = some v := by
  rw [World.cell?_setCell_other _ _ _ _ (fun e => hne (congrArg Addr.block e).symm), World.cell?_setCell_other _ _ _ _ (fun e => hne (congrArg Addr.block e).symm)]; exact h
theorem below_drew7 {B : Nat} {w w' : World} (h : RowKit.Below B w w') : RowKit.Below B w w'.drew := h.drew
/-- a tree that has been taken from what is told -/
def FromPost (ss : List ByteArray) (e : ByteArray) (w : World) (e' : Ending) (w' : World) : Prop := RowKit.Below w.heap.size w w' ∧
  ((∃ (S : List (List (Fin 4))) (u : List (Fin 4)) (N : List (List (Fin 4))) (m : List (Fin 4) → Nat), TinS ss e S u ∧ e' = .returned (.tuple #[.agg #[.pointer (some ⟨m [], 0, none⟩), .pointer (some ⟨m u, 0, none⟩)], .bool true]) ∧ Gr w' w.heap.size N m ∧ ∀ x, x ∈ N ↔ x ∈ S) ∨
   (¬ TinQ ss e ∧ ∃ p q : Option Addr, e' = .returned (.tuple #[.agg #[.pointer p, .pointer q], .bool false])))
set_option maxHeartbeats 4000000 in
theorem treeFrom_any (A : Option Addr) (n c : Nat) (ss : List ByteArray) (e : ByteArray) (w : World) (h : RS w A n ss) (hn : n ≤ 1048576) (hl : ∀ s ∈ ss, s.size ≤ 1048576) (hle : e.size ≤ 1048576) :
    Calls Tryd.prog 59 #[.agg #[.slice A n c, .string e]] w (FromPost ss e w) := by
  have hB0 : RowKit.Below w.heap.size w ((w.alloc (.cells #[.slice A n c, .string e] 29)).alloc (.cells #[.pointer none, .pointer none] 54)) := ((RowKit.Below.refl _ w).alloc (Nat.le_refl _) _).alloc (by simp) _
  have hA0 : Blk ((w.alloc (.cells #[.slice A n c, .string e] 29)).alloc (.cells #[.pointer none, .pointer none] 54)) w.heap.size 29 #[.slice A n c, .string e] := (Blk.new w _ _).alloc _
  have hA1 : Blk ((w.alloc (.cells #[.slice A n c, .string e] 29)).alloc (.cells #[.pointer none, .pointer none] 54)) (w.heap.size + 1) 54 #[.pointer none, .pointer none] := by
    have := Blk.new (w.alloc (.cells #[.slice A n c, .string e] 29)) 54 #[.pointer none, .pointer none]
    rwa [World.size_alloc] at this
  have hRS := h.below hB0
  have hz2 : ((w.alloc (.cells #[.slice A n c, .string e] 29)).alloc (.cells #[.pointer none, .pointer none] 54)).heap.size = w.heap.size + 1 + 1 := by simp
  have hAW := areWords_any A n c ss _ hRS hn hl
  rw [hz2] at hAW
  have hnl := h.len
  have HAW := Lib.hid hAW
  have HIW : Hid (∀ W : World, Calls Tryd.prog 46 #[.string e] W fun e' w' => e' = .returned (.bool (wordB e)) ∧ RowKit.Below W.heap.size W w') := fun W => isWord_any e hle W
  have HB0 := Lib.hid hB0
  have HA0 := Lib.hid hA0
  have HA1 := Lib.hid hA1
  have HRS := Lib.hid hRS
  have HNL := Lib.hid hnl
  have HZ2 := Lib.hid hz2
  -- how it ends when the texts are none
  have HEND : Hid (∀ w1 : World, RowKit.Below (w.heap.size + 1 + 1) ((w.alloc (.cells #[.slice A n c, .string e] 29)).alloc (.cells #[.pointer none, .pointer none] 54)) w1 → RowKit.Below w.heap.size w ((w1.setCell ⟨w.heap.size + 1, 0, none⟩ (.pointer none)).setCell ⟨w.heap.size + 1, 1, none⟩ (.pointer none))) := fun w1 hb =>
    ((hB0.trans (hb.mono (by omega))).setCell (p := ⟨w.heap.size + 1, 0, none⟩) (by simp) _).setCell (p := ⟨w.heap.size + 1, 1, none⟩) (by simp) _
  have HC : Hid (∀ w1 : World, RowKit.Below (w.heap.size + 1 + 1) ((w.alloc (.cells #[.slice A n c, .string e] 29)).alloc (.cells #[.pointer none, .pointer none] 54)) w1 → Blk w1 w.heap.size 29 #[.slice A n c, .string e] ∧ Blk w1 (w.heap.size + 1) 54 #[.pointer none, .pointer none]) := fun w1 hb => ⟨hA0.below hb (by omega), hA1.below hb (by omega)⟩
  clear hB0 hA0 hA1 hRS hz2 hAW hnl h
  by_cases h60 : n ≤ 60
  · have h60i : ¬ ((60 : Int) < (n : Int)) := by omega
    cases hwa : ss.all wordB with
    | false =>
      have HNO : Hid (¬ TinQ ss e) := fun ⟨S, u, hT⟩ => by have := hT.words.1; rw [hwa] at this; cases this
      rw [hwa] at HAW
      clear hwa
      go_enter Tryd.func59, Tryd.ntmps59
      go_wp2_with fail
      refine HAW.out.mono ?_
      rintro e' w1 ⟨rfl, hb⟩
      have hT := (HC.out w1 hb).2
      have c0 : w1.cell? ⟨w.heap.size + 1, 0, none⟩ = some (.pointer none) := hT.cell 0
      have c1 : w1.cell? ⟨w.heap.size + 1, 1, none⟩ = some (.pointer none) := hT.cell 1
      have f0 := hT.frozen 0
      have f1 := hT.frozen 1
      have hlt := hT.lt
      have HB1 := Lib.hid (HEND.out w1 hb)
      clear hb hT
      go_wp2
      refine bodyPost_ret (v := .tuple #[.agg #[.pointer none, .pointer none], .bool false]) (by simp [results, Tryd.results59, go_sem, hlt, c0, c1]) rfl ⟨HB1.out, .inr ⟨HNO.out, none, none, rfl⟩⟩
    | true =>
    rw [hwa] at HAW
    obtain ⟨xs, hxs, hxl⟩ := words_txt hwa
    cases hwe : wordB e with
    | false =>
      have HNO : Hid (¬ TinQ ss e) := fun ⟨S, u, hT⟩ => by have := hT.words.2.1; rw [hwe] at this; cases this
      rw [hwe] at HIW
      clear hwa hwe hxs hxl
      go_enter Tryd.func59, Tryd.ntmps59
      go_wp2_with fail
      refine HAW.out.mono ?_
      rintro e' w1 ⟨rfl, hb⟩
      have hbx := (HC.out w1 hb).1.cell 1
      simp only [List.getElem?_toArray] at hbx
      have hs1 := hb.size
      rw [HZ2.out] at hs1
      go_wp2_with fail
      refine (HIW.out w1).mono ?_
      rintro e' w2 ⟨rfl, hb2⟩
      have hb := hb.trans (hb2.mono hs1)
      have hT := (HC.out w2 hb).2
      have c0 : w2.cell? ⟨w.heap.size + 1, 0, none⟩ = some (.pointer none) := hT.cell 0
      have c1 : w2.cell? ⟨w.heap.size + 1, 1, none⟩ = some (.pointer none) := hT.cell 1
      have f0 := hT.frozen 0
      have f1 := hT.frozen 1
      have hlt := hT.lt
      have HB1 := Lib.hid (HEND.out w2 hb)
      clear hb hT hb2
      go_wp2
      refine bodyPost_ret (v := .tuple #[.agg #[.pointer none, .pointer none], .bool false]) (by simp [results, Tryd.results59, go_sem, hlt, c0, c1]) rfl ⟨HB1.out, .inr ⟨HNO.out, none, none, rfl⟩⟩
    | true =>
    rw [hwe] at HIW
    obtain ⟨es, hes, hel⟩ := word_txt hwe
    clear hwa hwe
    have HXS := Lib.hid hxs
    have HES := Lib.hid hes
    have HXL := Lib.hid hxl
    have HEL := Lib.hid hel
    have HSP : Hid (∀ W : World, RowKit.Below (w.heap.size + 1 + 1) ((w.alloc (.cells #[.slice A n c, .string e] 29)).alloc (.cells #[.pointer none, .pointer none] 54)) W → Calls Tryd.prog 47 #[.slice A n c, .string e] W fun e w' => ∃ N' m', e = .returned (.agg #[.pointer (some ⟨m' [], 0, none⟩), .pointer (some ⟨m' (goW [] es), 0, none⟩)]) ∧ Gr w' W.heap.size N' m' ∧ goW [] es ∈ N' ∧ RowKit.Below W.heap.size W w' ∧ ∀ x, x ∈ N' ↔ Begs [] (xs ++ [es]) x) := fun W hW => by
      rw [hes]
      refine sprout_any xs es A n c W ?_ (fun x hx => by have := hxl x hx; omega) (by omega) (by omega)
      rw [txs_sv, ← hxs]
      exact (HRS.out.below (by rw [HZ2.out]; exact hW)).2
    clear hxs hes hxl hel
    go_enter Tryd.func59, Tryd.ntmps59
    go_wp2_with fail
    refine HAW.out.mono ?_
    rintro e' w1 ⟨rfl, hb⟩
    have hbx := (HC.out w1 hb).1.cell 1
    simp only [List.getElem?_toArray] at hbx
    have hs1 := hb.size
    rw [HZ2.out] at hs1
    go_wp2_with fail
    refine (HIW.out w1).mono ?_
    rintro e' w2 ⟨rfl, hb2⟩
    have hb := hb.trans (hb2.mono hs1)
    have hbx0 : w2.cell? ⟨w.heap.size, 0, none⟩ = some (.slice A n c) := (HC.out w2 hb).1.cell 0
    have hbx1 : w2.cell? ⟨w.heap.size, 1, none⟩ = some (.string e) := (HC.out w2 hb).1.cell 1
    have hs2 := hb.size
    rw [HZ2.out] at hs2
    have HCS := Lib.hid (HSP.out w2 hb)
    have HBB := Lib.hid hb
    clear hb2 hbx hs1 HAW HIW hb
    go_wp2_with fail
    refine HCS.out.mono ?_
    rintro e' w3 ⟨N, m, rfl, hG, hin, hb3, HX⟩
    have hN60 : N.length ≤ 400000 := by
      have hsub : N ⊆ (xs ++ [es]).flatMap (fun ws => (List.range 25).map (fun t => goW [] (ws.take t))) := fun x hx => by
        obtain ⟨ws, hws, t, ht, e⟩ := (HX x).1 hx
        refine List.mem_flatMap.2 ⟨ws, hws, List.mem_map.2 ⟨t, List.mem_range.2 ?_, e.symm⟩⟩
        have : ws.length ≤ 24 := by
          rcases List.mem_append.1 hws with h' | h'
          · exact HXL.out ws h'
          · rw [List.mem_singleton.1 h']; exact HEL.out
        omega
      have h1 := hG.tre.nd.length_le_of_subset hsub
      have h2 : ((xs ++ [es]).flatMap (fun ws => (List.range 25).map (fun t => goW [] (ws.take t)))).length = (xs.length + 1) * 25 := by
        rw [fm_len _ _ 25 (fun x => by simp)]; simp
      have h3 : xs.length = n := by
        have := congrArg List.length HXS.out
        rw [List.length_map, HNL.out] at this
        exact this.symm
      omega
    have HBB3 := Lib.hid (HBB.out.trans (hb3.mono hs2))
    have hs3 : w.heap.size + 1 + 1 ≤ w3.heap.size := Nat.le_trans hs2 hb3.size
    have hb4 : RowKit.Below w3.heap.size w3 (w3.alloc (.cells #[.pointer (some ⟨m [], 0, none⟩), .pointer (some ⟨m (goW [] es), 0, none⟩)] 54)) := (RowKit.Below.refl _ _).alloc (Nat.le_refl _) _
    have hT4 := Blk.new w3 54 #[.pointer (some ⟨m [], 0, none⟩), .pointer (some ⟨m (goW [] es), 0, none⟩)]
    have hG4 := hG.below hb4
    have hTO := told_any w2.heap.size N m (goW [] es) hin _ hG4 hN60
    have hz4 : (w3.alloc (.cells #[.pointer (some ⟨m [], 0, none⟩), .pointer (some ⟨m (goW [] es), 0, none⟩)] 54)).heap.size = w3.heap.size + 1 := by simp
    rw [hz4] at hTO
    have HTO := Lib.hid hTO
    have HG4 := Lib.hid hG4
    have HT4 := Lib.hid hT4
    have HB4 := Lib.hid (HBB3.out.trans (hb4.mono hs3))
    have HXX := Lib.hid HX
    have HIN := Lib.hid hin
    clear hG hin hb3 hb4 HX hTO hG4 hT4 HCS hN60 hz4
    go_wp2_with fail
    refine HTO.out.mono ?_
    rintro e' w5 ⟨S, hperm, hord, hb5, hcase⟩
    have hT5 := HT4.out.below hb5 (by omega)
    have HB5 := Lib.hid (HB4.out.trans (hb5.mono (by omega)))
    have HG5 := Lib.hid (HG4.out.below (hb5.mono (by simp)))
    have HIFF := Lib.hid (tin_iff HXS.out HES.out HG4.out.tre hperm hord HXX.out HIN.out)
    have HPM := Lib.hid hperm
    have HOR := Lib.hid hord
    rcases hcase with ⟨hsm, g, cp, rfl, hown⟩ | ⟨hsm, rfl⟩
    · have hB7 : RowKit.Below w5.heap.size w5 (w5.alloc (.cells #[.slice (some ⟨g, 0, none⟩) N.length cp, .string (strOf (goW [] es))] 29)) := (RowKit.Below.refl _ _).alloc (Nat.le_refl _) _
      have hD7 := Blk.new w5 29 #[.slice (some ⟨g, 0, none⟩) N.length cp, .string (strOf (goW [] es))]
      have ho7 := RS.of_own (ss := S.map strOf) (by rw [← wvL_sv]; exact hown.alloc (.cells #[.slice (some ⟨g, 0, none⟩) N.length cp, .string (strOf (goW [] es))] 29))
      have hl5 := hT5.lt
      clear hown
      go_wp2_with fail
      generalize w5.alloc (.cells #[.slice (some ⟨g, 0, none⟩) N.length cp, .string (strOf (goW [] es))] 29) = w7 at *
      have hs5 := hB7.size
      have hG7 := HG5.out.below hB7
      have hX7 := HB5.out.trans (hB7.mono (by omega))
      have ha := hT5.below hB7 hl5
      have a0 : w7.drew.cell? ⟨w3.heap.size, 0, none⟩ = some (.pointer (some ⟨m [], 0, none⟩)) := ha.cell 0
      have a1 : w7.drew.cell? ⟨w3.heap.size, 1, none⟩ = some (.pointer (some ⟨m (goW [] es), 0, none⟩)) := ha.cell 1
      have b0 : w7.drew.cell? ⟨w5.heap.size, 0, none⟩ = some (.slice (some ⟨g, 0, none⟩) N.length cp) := hD7.cell 0
      have b1 : w7.drew.cell? ⟨w5.heap.size, 1, none⟩ = some (.string (strOf (goW [] es))) := hD7.cell 1
      have d0 : w7.drew.cell? ⟨w.heap.size, 0, none⟩ = some (.slice A n c) := (HC.out w7 hX7).1.cell 0
      have d1 : w7.drew.cell? ⟨w.heap.size, 1, none⟩ = some (.string e) := (HC.out w7 hX7).1.cell 1
      have HR7 := Lib.hid (HC.out w7 hX7).2
      have hs7 : w5.heap.size < w7.heap.size := hD7.lt
      have hRS7 : RS w7 A n ss := HRS.out.below (by rw [HZ2.out]; exact hX7)
      have HG7 := Lib.hid hG7
      have HX7 := Lib.hid hX7
      have HQ : Hid ((decide (S.map strOf = ss) && decide (strOf (goW [] es) = e)) = true ↔ TinQ ss e) := by
        show _ ↔ _
        rw [HIFF.out, Bool.and_eq_true, decide_eq_true_eq, decide_eq_true_eq]
        exact ⟨fun h => ⟨hsm, h.2.symm, h.1.symm⟩, fun h => ⟨h.2.2.symm, h.2.1.symm⟩⟩
      have HSAME : Hid (∀ W : World, RowKit.Below w7.heap.size w7 W → Calls Tryd.prog 53 #[.agg #[.slice (some ⟨g, 0, none⟩) N.length cp, .string (strOf (goW [] es))], .agg #[.slice A n c, .string e]] W fun e' w' => e' = .returned (.bool (decide (S.map strOf = ss) && decide (strOf (goW [] es) = e))) ∧ RowKit.Below W.heap.size W w') := fun W hW => implSameT_any _ _ _ _ _ _ _ _ _ _ W (ho7.below hW) (hRS7.below hW) (by have := (sml_mem hsm).1; omega)
      have HSY : Hid (TinQ ss e → TinS ss e S (goW [] es)) := fun h => by
        have h2 := HIFF.out.1 h
        exact ⟨h2.2.2, h2.2.1, HPM.out.mem_iff.2 HIN.out, tin_of HG7.out.tre HPM.out HOR.out hsm⟩
      generalize (decide (S.map strOf = ss) && decide (strOf (goW [] es) = e)) = q at *
      have n1 : w3.heap.size ≠ w.heap.size + 1 := by omega
      have n2 : w5.heap.size ≠ w.heap.size + 1 := by omega
      have n3 : w.heap.size ≠ w.heap.size + 1 := by omega
      have HS2 := Lib.hid hs2
      have HFIN : Hid (∀ w8 : World, RowKit.Below w7.heap.size w7 w8 → RowKit.Below w.heap.size w ((w8.setCell ⟨w.heap.size + 1, 0, none⟩ (.pointer (some ⟨m [], 0, none⟩))).setCell ⟨w.heap.size + 1, 1, none⟩ (.pointer (some ⟨m (goW [] es), 0, none⟩))) ∧ Gr ((w8.setCell ⟨w.heap.size + 1, 0, none⟩ (.pointer (some ⟨m [], 0, none⟩))).setCell ⟨w.heap.size + 1, 1, none⟩ (.pointer (some ⟨m (goW [] es), 0, none⟩))) w.heap.size N m) := fun w8 hb8 => by
        have h8 := HX7.out.trans (hb8.mono (by omega))
        refine ⟨((HB0.out.trans (h8.mono (by omega))).setCell (p := ⟨w.heap.size + 1, 0, none⟩) (by simp) _).setCell (p := ⟨w.heap.size + 1, 1, none⟩) (by simp) _, ?_⟩
        refine ((HG7.out.below hb8).same fun x hx => ?_).down (by omega)
        have hlo := HG7.out.lo x hx
        rw [RowKit.Below.heap_setCell _ _ _ _ (fun e => by have e' : m x = w.heap.size + 1 := e; omega), RowKit.Below.heap_setCell _ _ _ _ (fun e => by have e' : m x = w.heap.size + 1 := e; omega)]
      clear hB7 hD7 ho7 hG7 hX7 ha hRS7 hT5 hperm hord
      refine wp_region_held_drew (S := (fun w' => w'.cell? ⟨w3.heap.size, 0, none⟩ = some (.pointer (some ⟨m [], 0, none⟩)) ∧ w'.cell? ⟨w3.heap.size, 1, none⟩ = some (.pointer (some ⟨m (goW [] es), 0, none⟩)) ∧ w'.cell? ⟨w5.heap.size, 0, none⟩ = some (.slice (some ⟨g, 0, none⟩) N.length cp) ∧ w'.cell? ⟨w5.heap.size, 1, none⟩ = some (.string (strOf (goW [] es))) ∧ w'.cell? ⟨w.heap.size, 0, none⟩ = some (.slice A n c) ∧ w'.cell? ⟨w.heap.size, 1, none⟩ = some (.string e))) (by kernel_rfl) ?_ (fun hHeld => ?_)
      · first | exact ⟨by assumption, by assumption, by assumption, by assumption, by assumption, by assumption⟩ | exact ⟨far2 a0 n1, far2 a1 n1, far2 b0 n2, far2 b1 n2, far2 d0 n3, far2 d1 n3⟩
      refine wpAnyH_take (i := 0) (v := .agg #[.pointer (some ⟨m [], 0, none⟩), .pointer (some ⟨m (goW [] es), 0, none⟩)]) (by rw [List.getElem?_toArray]; rfl) (by kernel_rfl) (by kernel_rfl) (by kernel_rfl) (by exact fun _ _ _ h => h) (Or.inl ⟨by rfl, fun w hSw => by (try dsimp only at hSw); go_simp⟩) (by assumption) ?_
      try simp only [Act.put, List.setIfInBounds_toArray, List.set_cons_zero, List.set_cons_succ]
      refine wpAnyH_take (i := 1) (v := .bool true) (by rw [List.getElem?_toArray]; rfl) (by kernel_rfl) (by kernel_rfl) (by kernel_rfl) (by exact fun _ _ _ h => h) (Or.inl ⟨by rfl, fun w hSw => by (try dsimp only at hSw); go_simp⟩) (by assumption) ?_
      try simp only [Act.put, List.setIfInBounds_toArray, List.set_cons_zero, List.set_cons_succ]
      refine wpAnyH_take (i := 2) (v := .bool true) (by rw [List.getElem?_toArray]; rfl) (by kernel_rfl) (by kernel_rfl) (by kernel_rfl) (by exact fun _ _ _ h => h) (Or.inl ⟨by rfl, fun w hSw => by (try dsimp only at hSw); go_simp⟩) (by assumption) ?_
      try simp only [Act.put, List.setIfInBounds_toArray, List.set_cons_zero, List.set_cons_succ]
      refine wpAnyH_take (i := 3) (v := .agg #[.slice (some ⟨g, 0, none⟩) N.length cp, .string (strOf (goW [] es))]) (by rw [List.getElem?_toArray]; rfl) (by kernel_rfl) (by kernel_rfl) (by kernel_rfl) (by exact fun _ _ _ h => h) (Or.inl ⟨by rfl, fun w hSw => by (try dsimp only at hSw); go_simp⟩) (by assumption) ?_
      try simp only [Act.put, List.setIfInBounds_toArray, List.set_cons_zero, List.set_cons_succ]
      refine wpAnyH_take (i := 4) (v := .agg #[.slice A n c, .string e]) (by rw [List.getElem?_toArray]; rfl) (by kernel_rfl) (by kernel_rfl) (by kernel_rfl) (by exact fun _ _ _ h => h) (Or.inl ⟨by rfl, fun w hSw => by (try dsimp only at hSw); go_simp⟩) (by assumption) ?_
      try simp only [Act.put, List.setIfInBounds_toArray, List.set_cons_zero, List.set_cons_succ]
      refine wpAnyH_ready (rs := [5]) (by kernel_rfl) (by simp) ?_
      refine AllReadyH.cons (o := _) (by rw [List.getElem?_toArray]; rfl) (fun K hK => ?_) AllReadyH.nil
      go_simp
      refine (HSAME.out _ ?_).mono ?_
      · exact below_drew7 (RowKit.Below.refl _ _)
      rintro e' w8 ⟨rfl, hb8⟩
      have hb8 : RowKit.Below w7.heap.size w7 w8 := ⟨hb8.os, hb8.tape, hb8.output, hb8.size, fun k hk => hb8.block k hk⟩
      have a0 := (hb8.cell (p := ⟨w3.heap.size, 0, none⟩) (by have e : (⟨w3.heap.size, 0, none⟩ : Addr).block = w3.heap.size := rfl; omega)).trans a0
      have a1 := (hb8.cell (p := ⟨w3.heap.size, 1, none⟩) (by have e : (⟨w3.heap.size, 1, none⟩ : Addr).block = w3.heap.size := rfl; omega)).trans a1
      have b0 := (hb8.cell (p := ⟨w5.heap.size, 0, none⟩) (by have e : (⟨w5.heap.size, 0, none⟩ : Addr).block = w5.heap.size := rfl; omega)).trans b0
      have b1 := (hb8.cell (p := ⟨w5.heap.size, 1, none⟩) (by have e : (⟨w5.heap.size, 1, none⟩ : Addr).block = w5.heap.size := rfl; omega)).trans b1
      have d0 := (hb8.cell (p := ⟨w.heap.size, 0, none⟩) (by have e : (⟨w.heap.size, 0, none⟩ : Addr).block = w.heap.size := rfl; omega)).trans d0
      have d1 := (hb8.cell (p := ⟨w.heap.size, 1, none⟩) (by have e : (⟨w.heap.size, 1, none⟩ : Addr).block = w.heap.size := rfl; omega)).trans d1
      have hR8 := HR7.out.below hb8 (by omega)
      have r0 : w8.cell? ⟨w.heap.size + 1, 0, none⟩ = some (.pointer none) := hR8.cell 0
      have r1 : w8.cell? ⟨w.heap.size + 1, 1, none⟩ = some (.pointer none) := hR8.cell 1
      have f0 := hR8.frozen 0
      have f1 := hR8.frozen 1
      have hlt := hR8.lt
      refine hK.out _ _ ?_ (fun hHeld5 => ?_)
      · first | exact ⟨by assumption, by assumption, by assumption, by assumption, by assumption, by assumption⟩ | exact ⟨far2 a0 n1, far2 a1 n1, far2 b0 n2, far2 b1 n2, far2 d0 n3, far2 d1 n3⟩
      clear hK K
      try simp only [Act.put, List.setIfInBounds_toArray, List.set_cons_zero, List.set_cons_succ]
      refine wpAnyH_take (i := 6) (v := .bool q) (by rw [List.getElem?_toArray]; rfl) (by kernel_rfl) (by kernel_rfl) (by kernel_rfl) (by exact fun _ _ _ h => h) (Or.inl ⟨by rfl, fun w hSw => by (try dsimp only at hSw); go_simp⟩) (by assumption) ?_
      try simp only [Act.put, List.setIfInBounds_toArray, List.set_cons_zero, List.set_cons_succ]
      refine wpAnyH_ready (rs := [7]) (by kernel_rfl) (by simp) ?_
      refine AllReadyH.cons (o := _) (by rw [List.getElem?_toArray]; rfl) (fun K hK => ?_) AllReadyH.nil
      go_simp
      refine hK.out _ _ ?_ (fun hHeld7 => ?_)
      · first | exact ⟨by assumption, by assumption, by assumption, by assumption, by assumption, by assumption⟩ | exact ⟨far2 a0 n1, far2 a1 n1, far2 b0 n2, far2 b1 n2, far2 d0 n3, far2 d1 n3⟩
      clear hK K
      try simp only [Act.put, List.setIfInBounds_toArray, List.set_cons_zero, List.set_cons_succ]
      refine wpAnyH_take (i := 8) (v := .bool q) (by rw [List.getElem?_toArray]; rfl) (by kernel_rfl) (by kernel_rfl) (by kernel_rfl) (by exact fun _ _ _ h => h) (Or.inl ⟨by rfl, fun w hSw => by (try dsimp only at hSw); go_simp⟩) (by assumption) ?_
      try simp only [Act.put, List.setIfInBounds_toArray, List.set_cons_zero, List.set_cons_succ]
      refine wpAnyH_done (by kernel_rfl) ?_ _
      clear hHeld
      obtain ⟨HF1, HF2⟩ := HFIN.out w8 hb8
      have HF1 := Lib.hid HF1
      have HF2 := Lib.hid HF2
      clear hb8 hR8 a0 a1 b0 b1 d0 d1
      go_wp2
      cases q with
      | true => refine bodyPost_ret (v := .tuple #[.agg #[.pointer (some ⟨m [], 0, none⟩), .pointer (some ⟨m (goW [] es), 0, none⟩)], .bool true]) (by simp [results, Tryd.results59, go_sem, hlt, r0, r1]) rfl ⟨HF1.out, .inl ⟨S, goW [] es, N, m, HSY.out (HQ.out.1 rfl), rfl, HF2.out, fun x => HPM.out.mem_iff.symm⟩⟩
      | false => refine bodyPost_ret (v := .tuple #[.agg #[.pointer (some ⟨m [], 0, none⟩), .pointer (some ⟨m (goW [] es), 0, none⟩)], .bool false]) (by simp [results, Tryd.results59, go_sem, hlt, r0, r1]) rfl ⟨HF1.out, .inr ⟨fun h => Bool.noConfusion (HQ.out.2 h), _, _, rfl⟩⟩
    · have HNO : Hid (¬ TinQ ss e) := fun h => by
        have := (HIFF.out.1 h).1
        rw [hsm] at this; cases this
      have hB7 : RowKit.Below w5.heap.size w5 (w5.alloc (.cells #[.slice none 0 0, .string ⟨#[]⟩] 29)) := (RowKit.Below.refl _ _).alloc (Nat.le_refl _) _
      have hl5 := hT5.lt
      go_wp2_with fail
      generalize w5.alloc (.cells #[.slice none 0 0, .string ⟨#[]⟩] 29) = w7 at *
      have hX7 := HB5.out.trans (hB7.mono (by omega))
      have ha := hT5.below hB7 hl5
      have a0 : w7.drew.cell? ⟨w3.heap.size, 0, none⟩ = some (.pointer (some ⟨m [], 0, none⟩)) := ha.cell 0
      have a1 : w7.drew.cell? ⟨w3.heap.size, 1, none⟩ = some (.pointer (some ⟨m (goW [] es), 0, none⟩)) := ha.cell 1
      have hR8 := (HC.out w7 hX7).2
      have r0 : w7.cell? ⟨w.heap.size + 1, 0, none⟩ = some (.pointer none) := hR8.cell 0
      have r1 : w7.cell? ⟨w.heap.size + 1, 1, none⟩ = some (.pointer none) := hR8.cell 1
      have f0 : w7.frozen? ⟨w.heap.size + 1, 0, none⟩ = false := hR8.frozen 0
      have f1 : w7.frozen? ⟨w.heap.size + 1, 1, none⟩ = false := hR8.frozen 1
      have hlt : w.heap.size + 1 < w7.heap.size := hR8.lt
      have n1 : w3.heap.size ≠ w.heap.size + 1 := by omega
      have HF1 : Hid (RowKit.Below w.heap.size w (((w7.setCell ⟨w.heap.size + 1, 0, none⟩ (.pointer (some ⟨m [], 0, none⟩))).setCell ⟨w.heap.size + 1, 1, none⟩ (.pointer (some ⟨m (goW [] es), 0, none⟩))).drew)) := (((HB0.out.trans (hX7.mono (by omega))).setCell (p := ⟨w.heap.size + 1, 0, none⟩) (by simp) _).setCell (p := ⟨w.heap.size + 1, 1, none⟩) (by simp) _).drew
      clear hB7 hX7 ha hR8 hT5 hperm hord
      refine wp_region_held_drew (S := (fun w' => w'.cell? ⟨w3.heap.size, 0, none⟩ = some (.pointer (some ⟨m [], 0, none⟩)) ∧ w'.cell? ⟨w3.heap.size, 1, none⟩ = some (.pointer (some ⟨m (goW [] es), 0, none⟩)))) (by kernel_rfl) ?_ (fun hHeld => ?_)
      · first | exact ⟨by assumption, by assumption⟩ | exact ⟨far2 a0 n1, far2 a1 n1⟩
      refine wpAnyH_take (i := 0) (v := .agg #[.pointer (some ⟨m [], 0, none⟩), .pointer (some ⟨m (goW [] es), 0, none⟩)]) (by rw [List.getElem?_toArray]; rfl) (by kernel_rfl) (by kernel_rfl) (by kernel_rfl) (by exact fun _ _ _ h => h) (Or.inl ⟨by rfl, fun w hSw => by (try dsimp only at hSw); go_simp⟩) (by assumption) ?_
      try simp only [Act.put, List.setIfInBounds_toArray, List.set_cons_zero, List.set_cons_succ]
      refine wpAnyH_take (i := 1) (v := .bool false) (by rw [List.getElem?_toArray]; rfl) (by kernel_rfl) (by kernel_rfl) (by kernel_rfl) (by exact fun _ _ _ h => h) (Or.inl ⟨by rfl, fun w hSw => by (try dsimp only at hSw); go_simp⟩) (by assumption) ?_
      try simp only [Act.put, List.setIfInBounds_toArray, List.set_cons_zero, List.set_cons_succ]
      refine wpAnyH_take (i := 2) (v := .bool false) (by rw [List.getElem?_toArray]; rfl) (by kernel_rfl) (by kernel_rfl) (by kernel_rfl) (by exact fun _ _ _ h => h) (Or.inl ⟨by rfl, fun w hSw => by (try dsimp only at hSw); go_simp⟩) (by assumption) ?_
      try simp only [Act.put, List.setIfInBounds_toArray, List.set_cons_zero, List.set_cons_succ]
      refine wpAnyH_take (i := 3) (v := undef) (by rw [List.getElem?_toArray]; rfl) (by kernel_rfl) (by kernel_rfl) (by kernel_rfl) (by exact fun _ _ _ h => h) (Or.inr ⟨by kernel_rfl, rfl⟩) (by assumption) ?_
      try simp only [Act.put, List.setIfInBounds_toArray, List.set_cons_zero, List.set_cons_succ]
      refine wpAnyH_take (i := 4) (v := undef) (by rw [List.getElem?_toArray]; rfl) (by kernel_rfl) (by kernel_rfl) (by kernel_rfl) (by exact fun _ _ _ h => h) (Or.inr ⟨by kernel_rfl, rfl⟩) (by assumption) ?_
      try simp only [Act.put, List.setIfInBounds_toArray, List.set_cons_zero, List.set_cons_succ]
      refine wpAnyH_take (i := 5) (v := undef) (by rw [List.getElem?_toArray]; rfl) (by kernel_rfl) (by kernel_rfl) (by kernel_rfl) (by exact fun _ _ _ h => h) (Or.inr ⟨by kernel_rfl, rfl⟩) (by assumption) ?_
      try simp only [Act.put, List.setIfInBounds_toArray, List.set_cons_zero, List.set_cons_succ]
      refine wpAnyH_take (i := 6) (v := .bool false) (by rw [List.getElem?_toArray]; rfl) (by kernel_rfl) (by kernel_rfl) (by kernel_rfl) (by exact fun _ _ _ h => h) (Or.inl ⟨by rfl, fun w hSw => by (try dsimp only at hSw); go_simp⟩) (by assumption) ?_
      try simp only [Act.put, List.setIfInBounds_toArray, List.set_cons_zero, List.set_cons_succ]
      refine wpAnyH_ready (rs := [7]) (by kernel_rfl) (by simp) ?_
      refine AllReadyH.cons (o := _) (by rw [List.getElem?_toArray]; rfl) (fun K hK => ?_) AllReadyH.nil
      go_simp
      refine hK.out _ _ ?_ (fun hHeld7 => ?_)
      · first | exact ⟨by assumption, by assumption⟩ | exact ⟨far2 a0 n1, far2 a1 n1⟩
      clear hK K
      try simp only [Act.put, List.setIfInBounds_toArray, List.set_cons_zero, List.set_cons_succ]
      refine wpAnyH_take (i := 8) (v := .bool false) (by rw [List.getElem?_toArray]; rfl) (by kernel_rfl) (by kernel_rfl) (by kernel_rfl) (by exact fun _ _ _ h => h) (Or.inl ⟨by rfl, fun w hSw => by (try dsimp only at hSw); go_simp⟩) (by assumption) ?_
      try simp only [Act.put, List.setIfInBounds_toArray, List.set_cons_zero, List.set_cons_succ]
      refine wpAnyH_done (by kernel_rfl) ?_ _
      clear hHeld
      go_wp2
      refine bodyPost_ret (v := .tuple #[.agg #[.pointer (some ⟨m [], 0, none⟩), .pointer (some ⟨m (goW [] es), 0, none⟩)], .bool false]) (by simp [results, Tryd.results59, go_sem, hlt, r0, r1]) rfl ⟨HF1.out, .inr ⟨HNO.out, _, _, rfl⟩⟩
  · have h60i : ((60 : Int) < (n : Int)) := by omega
    have HNO : Hid (¬ TinQ ss e) := no_len' (fun h => h60 (by rw [← HNL.out]; exact h))
    have hT := (HC.out _ (RowKit.Below.refl _ _)).2
    have HB1 := Lib.hid (HEND.out _ (RowKit.Below.refl _ _))
    clear hT
    go_enter Tryd.func59, Tryd.ntmps59
    go_wp2
    refine bodyPost_ret (v := .tuple #[.agg #[.pointer none, .pointer none], .bool false]) (by simp [results, Tryd.results59, go_sem]) rfl ⟨HB0.out, .inr ⟨HNO.out, none, none, rfl⟩⟩
end

end Go.Proofs.YtlcjgppclclkoaaDoor
