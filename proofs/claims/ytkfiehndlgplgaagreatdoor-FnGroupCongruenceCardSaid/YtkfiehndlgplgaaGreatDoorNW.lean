/-
  Abv.
-/
import Derived.Test.YtkfiehndlgplgaaGreatDoorNU
import Derived.Test.YtkfiehndlgplgaaGreatDoorNV
namespace Go.Proofs.YtkfiehndlgplgaaGreatDoor
set_option maxRecDepth 100000
set_option linter.unusedVariables false
set_option linter.unusedSimpArgs false
set_option linter.unusedSectionVars false

/-! SemigroupAbove, both sides; impl.toldWith. -/
section
open Go.RowKit Go.Maps

/-- a semigroup with this chart -/
def swhB (zs : List (List Int)) (f : List Int) : Bool := sgS zs && decide (f ∈ zs)
def abL (zs : List (List Int)) (f : List Int) : List (List Int) := if swhB zs f = true then zs.filter (beB f) else []
theorem swh_iff {zs : List (List Int)} {f : List Int} : swhB zs f = true ↔ sgS zs = true ∧ f ∈ zs := by unfold swhB; rw [Bool.and_eq_true, decide_eq_true_eq]
theorem abL_le (zs : List (List Int)) (f : List Int) : (abL zs f).length ≤ 400 ∧ totL (abL zs f) ≤ 2400 ∧ ∀ L ∈ abL zs f, L.length ≤ 1048576 := by
  unfold abL
  split
  · rename_i h; exact sub_le (swh_iff.1 h).1 (List.length_filter_le _ _) (fun L hL => (List.mem_filter.1 hL).1)
  · exact nil_le

theorem mapP_iff {H : Type} {zs : List (List Int)} (x : Lit) : Maps.has (mapP (H := H) klL zs zs.length) x = true ↔ ∃ L, L ∈ zs ∧ klL L = x := by
  rw [mapP_has klL_key zs.length (Nat.le_refl _)]
  constructor
  · rintro ⟨i, hi, e⟩; exact ⟨_, ent_mem hi, e⟩
  · rintro ⟨L, hL, e⟩
    obtain ⟨i, hi, e2⟩ := mem_ent hL
    exact ⟨i, hi, by rw [e2]; exact e⟩
theorem zero_key : keyOf Tryz.prog 58 (.agg #[.int .i64 (((0 : Nat) : Int)), .int .i64 ((fun _ => (0 : Int)) 0), .int .i64 ((fun _ => (0 : Int)) 1), .int .i64 ((fun _ => (0 : Int)) 2), .int .i64 ((fun _ => (0 : Int)) 3), .int .i64 ((fun _ => (0 : Int)) 4), .int .i64 ((fun _ => (0 : Int)) 5)]) = some (klT ((0 : Nat) : Int) (fun _ => 0)) := by
  have h : In64 0 := ⟨by omega, by omega⟩
  exact keyOf_ch ((0 : Nat) : Int) (fun _ => (0 : Int)) h (fun _ _ => h)
theorem zero_key0 : keyOf Tryz.prog 58 (.agg #[.int .i64 ((0 : Int)), .int .i64 ((fun _ => (0 : Int)) 0), .int .i64 ((fun _ => (0 : Int)) 1), .int .i64 ((fun _ => (0 : Int)) 2), .int .i64 ((fun _ => (0 : Int)) 3), .int .i64 ((fun _ => (0 : Int)) 4), .int .i64 ((fun _ => (0 : Int)) 5)]) = some (klT ((0 : Nat) : Int) (fun _ => 0)) := zero_key
theorem zero_not {zs : List (List Int)} (hz : ∀ L ∈ zs, isC L = true) : ¬ ∃ L, L ∈ zs ∧ klL L = klT ((0 : Nat) : Int) (fun _ => 0) := by
  rintro ⟨L, hL, e⟩
  have h1 := keyOf_L (hz L hL)
  have h2 := zero_key
  rw [← e] at h2
  have := (agg_inj (n := (L.length : Int)) (m := ((0 : Nat) : Int)) (S := ofL L) (T := fun _ => (0 : Int)) (ch_keyed.inj h1 h2)).1
  have := (isC_len (hz L hL)).1
  omega
set_option maxHeartbeats 1000000 in
theorem has_k {H : Type} (b n : Nat) (m : Int) (T : Nat → Int) (kl : Lit) (hkey : keyOf Tryz.prog 58 (.agg #[.int .i64 (m), .int .i64 (T 0), .int .i64 (T 1), .int .i64 (T 2), .int .i64 (T 3), .int .i64 (T 4), .int .i64 (T 5)]) = some kl) (D : DataW H) (w : World) (hown : w.ownsMap Tryz.prog 58 (plainElem Tryz.prog 3) b n D) :
    Calls Tryz.prog 64 #[.map (some b), .agg #[.int .i64 (m), .int .i64 (T 0), .int .i64 (T 1), .int .i64 (T 2), .int .i64 (T 3), .int .i64 (T 4), .int .i64 (T 5)]] w fun e w' => e = .returned (.bool (Maps.has D kl)) ∧ Below w.heap.size w w' := by
  have hown1 := hown.alloc (.cells #[.int .i64 (m), .int .i64 (T 0), .int .i64 (T 1), .int .i64 (T 2), .int .i64 (T 3), .int .i64 (T 4), .int .i64 (T 5)] 58)
  have hz : (zeroValue 3).run Tryz.prog (w.alloc (.cells #[.int .i64 (m), .int .i64 (T 0), .int .i64 (T 1), .int .i64 (T 2), .int .i64 (T 3), .int .i64 (T 4), .int .i64 (T 5)] 58)) = .ok (.int .i64 0) (w.alloc (.cells #[.int .i64 (m), .int .i64 (T 0), .int .i64 (T 1), .int .i64 (T 2), .int .i64 (T 3), .int .i64 (T 4), .int .i64 (T 5)] 58)) := by kernel_rfl
  have hB : Below w.heap.size w (w.alloc (.cells #[.int .i64 (m), .int .i64 (T 0), .int .i64 (T 1), .int .i64 (T 2), .int .i64 (T 3), .int .i64 (T 4), .int .i64 (T 5)] 58)) := (Below.refl _ w).alloc (Nat.le_refl _) _
  clear hown
  go_enter Tryz.func64, Tryz.ntmps64
  go_wp2_with (at_lookup; refine wpList_lookup_own_ok_int _ rfl _ _ 48 rfl 58 3 .i64 ch_keyed Tryz.underlying48 Tryz.underlying3 hz b n D rfl hown1 _ kl rfl hkey ?_; intro z hat hwc)
  go_ret
  exact ⟨rfl, hB⟩

theorem ownsMap_drew {H : Type} {P : Program} {K : TypeId} {R : Value → Option (DataW H × List MemPlace)} {w : World} {b n : Nat} {D : DataW H} (h : w.ownsMap P K R b n D) : w.drew.ownsMap P K R b n D := ownsMap_same h rfl
theorem mapP_mem {H : Type} {zs : List (List Int)} (hz : ∀ L ∈ zs, isC L = true) {f : List Int} (hf : isC f = true) : Maps.has (mapP (H := H) klL zs zs.length) (klL f) = decide (f ∈ zs) := by
  by_cases h : f ∈ zs
  · rw [decide_eq_true h]; exact (mapP_iff _).2 ⟨f, h, rfl⟩
  · rw [decide_eq_false h]
    cases hh : Maps.has (mapP (H := H) klL zs zs.length) (klL f)
    · rfl
    · obtain ⟨L, hL, e⟩ := (mapP_iff _).1 hh
      exact absurd (by rw [← klL_inj L f (hz L hL) hf e]; exact hL) h

/-- the map of a list's semigroup and the chart, or none -/
def TwPost (zs : List (List Int)) (f : List Int) (w : World) (v cv : Value) (w' : World) : Prop :=
  (swhB zs f = true → (∃ b, v = .map (some b) ∧ w.heap.size ≤ b ∧ w'.ownsMap Tryz.prog 58 (plainElem (H := Unit) Tryz.prog 3) b zs.length (mapP klL zs zs.length)) ∧ cv = .agg #[.int .i64 ((f.length : Int)), .int .i64 (ofL f 0), .int .i64 (ofL f 1), .int .i64 (ofL f 2), .int .i64 (ofL f 3), .int .i64 (ofL f 4), .int .i64 (ofL f 5)]) ∧ (swhB zs f = false → v = .map none ∧ cv = .agg #[.int .i64 (((0 : Nat) : Int)), .int .i64 ((fun _ => (0 : Int)) 0), .int .i64 ((fun _ => (0 : Int)) 1), .int .i64 ((fun _ => (0 : Int)) 2), .int .i64 ((fun _ => (0 : Int)) 3), .int .i64 ((fun _ => (0 : Int)) 4), .int .i64 ((fun _ => (0 : Int)) 5)]) ∧ Below w.heap.size w w'
set_option maxHeartbeats 1000000 in
theorem toldWith_any (A B : Option Addr) (n c m d : Nat) (zs : List (List Int)) (f : List Int) (w : World) (h : RSS w A n zs) (h' : RI w B m f) (hg : EtAt w) :
    Calls Tryz.prog 63 #[.slice A n c, .slice B m d] w fun e w' => ∃ v cv, e = .returned (.tuple #[v, cv, .bool (swhB zs f)]) ∧ TwPost zs f w v cv w' := by
  have hb0 : Below w.heap.size w (w.alloc (.cells #[.int .i64 ((0 : Int)), .int .i64 ((fun _ => (0 : Int)) 0), .int .i64 ((fun _ => (0 : Int)) 1), .int .i64 ((fun _ => (0 : Int)) 2), .int .i64 ((fun _ => (0 : Int)) 3), .int .i64 ((fun _ => (0 : Int)) 4), .int .i64 ((fun _ => (0 : Int)) 5)] 58)) := (Below.refl _ w).alloc (Nat.le_refl _) _
  have hsg := told_any A n c zs (w.alloc (.cells #[.int .i64 ((0 : Int)), .int .i64 ((fun _ => (0 : Int)) 0), .int .i64 ((fun _ => (0 : Int)) 1), .int .i64 ((fun _ => (0 : Int)) 2), .int .i64 ((fun _ => (0 : Int)) 3), .int .i64 ((fun _ => (0 : Int)) 4), .int .i64 ((fun _ => (0 : Int)) 5)] 58)) (h.below hb0) (hg.below hb0)
  have HR := Lib.hid h'
  have hR0 := Cb.new w 0 (fun _ => 0)
  clear h hg h'
  go_enter Tryz.func63, Tryz.ntmps63
  go_wp2_with fail
  refine hsg.mono ?_
  rintro e w1 ⟨v, rfl, hy, hno, hb⟩
  have hz1 : w.heap.size + 1 ≤ w1.heap.size := by have := hb.size; simpa using this
  have hB1 := hb0.trans (hb.mono hb0.size)
  have hR0 := hR0.below hb (by simp)
  have hR1 := HR.out.below hB1
  clear hsg hb hb0
  go_wp2_with fail
  refine (chartOf_c _ _ _ f _ hR1).mono ?_
  rintro e w2 ⟨hcy, hcn, hb2⟩
  have hz2 : w1.heap.size ≤ w2.heap.size := hb2.size
  have hq0 : w.heap.size < w2.heap.size := by omega
  have hB2 := hB1.trans (hb2.mono hB1.size)
  have hR0 := hR0.below hb2 (by omega)
  clear hR1
  cases hS : sgS zs
  · obtain rfl := hno hS
    have HF : Hid (swhB zs f = false) := by show _ = _; unfold swhB; rw [hS]; rfl
    clear hy hno hS hb2
    cases hC : isC f
    · obtain rfl := hcn hC
      have hB3 := hB2.alloc hB2.size (.cells #[.int .i64 ((0 : Int)), .int .i64 ((fun _ => (0 : Int)) 0), .int .i64 ((fun _ => (0 : Int)) 1), .int .i64 ((fun _ => (0 : Int)) 2), .int .i64 ((fun _ => (0 : Int)) 3), .int .i64 ((fun _ => (0 : Int)) 4), .int .i64 ((fun _ => (0 : Int)) 5)] 58)
      clear hcy hcn hC
      obtain ⟨a0, a1, a2, a3, a4, a5, a6⟩ := hR0.all
      obtain ⟨b0, b1, b2, b3, b4, b5, b6⟩ := hR0.frees
      go_wp2
      refine bodyPost_ret (v := .tuple #[.map none, .agg #[.int .i64 ((0 : Int)), .int .i64 ((fun _ => (0 : Int)) 0), .int .i64 ((fun _ => (0 : Int)) 1), .int .i64 ((fun _ => (0 : Int)) 2), .int .i64 ((fun _ => (0 : Int)) 3), .int .i64 ((fun _ => (0 : Int)) 4), .int .i64 ((fun _ => (0 : Int)) 5)], .bool false]) (by simp [results, Tryz.results63, go_sem, hq0, a0, a1, a2, a3, a4, a5, a6]) rfl ⟨_, _, by rw [HF.out]; rfl, fun e => (by rw [HF.out] at e; cases e), fun _ => ⟨rfl, rfl⟩, (below_set7 hB2 (Nat.le_refl _) _ _ _ _ _ _ _).alloc (below_set7 hB2 (Nat.le_refl _) _ _ _ _ _ _ _).size _⟩
    · obtain rfl := hcy hC
      have hB3 := hB2.alloc hB2.size (.cells #[.int .i64 ((f.length : Int)), .int .i64 (ofL f 0), .int .i64 (ofL f 1), .int .i64 (ofL f 2), .int .i64 (ofL f 3), .int .i64 (ofL f 4), .int .i64 (ofL f 5)] 58)
      clear hcy hcn hC
      obtain ⟨a0, a1, a2, a3, a4, a5, a6⟩ := hR0.all
      obtain ⟨b0, b1, b2, b3, b4, b5, b6⟩ := hR0.frees
      go_wp2
      refine bodyPost_ret (v := .tuple #[.map none, .agg #[.int .i64 ((0 : Int)), .int .i64 ((fun _ => (0 : Int)) 0), .int .i64 ((fun _ => (0 : Int)) 1), .int .i64 ((fun _ => (0 : Int)) 2), .int .i64 ((fun _ => (0 : Int)) 3), .int .i64 ((fun _ => (0 : Int)) 4), .int .i64 ((fun _ => (0 : Int)) 5)], .bool false]) (by simp [results, Tryz.results63, go_sem, hq0, a0, a1, a2, a3, a4, a5, a6]) rfl ⟨_, _, by rw [HF.out]; rfl, fun e => (by rw [HF.out] at e; cases e), fun _ => ⟨rfl, rfl⟩, (below_set7 hB2 (Nat.le_refl _) _ _ _ _ _ _ _).alloc (below_set7 hB2 (Nat.le_refl _) _ _ _ _ _ _ _).size _⟩
  · obtain ⟨b, rfl, hbl, hown⟩ := hy hS
    have S := sgS_iff.1 hS
    have hz : ∀ L ∈ zs, isC L = true := fun L hL => (S.ch L hL).1
    have hown2 := ownsMap_same hown (hb2.block b hown.lt)
    have HS : Hid (swhB zs f = decide (f ∈ zs)) := by show _ = _; unfold swhB; rw [hS, Bool.true_and]
    have HZN := Lib.hid (zero_not hz)
    have HMM : Hid (isC f = true → Maps.has (mapP (H := Unit) klL zs zs.length) (klL f) = decide (f ∈ zs)) := fun hf => mapP_mem hz hf
    have hbw : w.heap.size + 1 ≤ b := by simpa using hbl
    clear hy hno hS S hb2 hown hbl
    cases hC : isC f
    · obtain rfl := hcn hC
      have HF : Hid (swhB zs f = false) := by
        show _ = _
        rw [HS.out]
        exact decide_eq_false (fun hm => by rw [hz f hm] at hC; cases hC)
      have HH : Hid (Maps.has (mapP (H := Unit) klL zs zs.length) (klT ((0 : Nat) : Int) (fun _ => 0)) = false) := by
        show _ = _
        cases hh : Maps.has (mapP (H := Unit) klL zs zs.length) (klT ((0 : Nat) : Int) (fun _ => 0))
        · rfl
        · exact absurd ((mapP_iff _).1 hh) HZN.out
      have hR0 := hR0.alloc (.cells #[.int .i64 ((0 : Int)), .int .i64 ((fun _ => (0 : Int)) 0), .int .i64 ((fun _ => (0 : Int)) 1), .int .i64 ((fun _ => (0 : Int)) 2), .int .i64 ((fun _ => (0 : Int)) 3), .int .i64 ((fun _ => (0 : Int)) 4), .int .i64 ((fun _ => (0 : Int)) 5)] 58)
      have hB3 := hB2.alloc hB2.size (.cells #[.int .i64 ((0 : Int)), .int .i64 ((fun _ => (0 : Int)) 0), .int .i64 ((fun _ => (0 : Int)) 1), .int .i64 ((fun _ => (0 : Int)) 2), .int .i64 ((fun _ => (0 : Int)) 3), .int .i64 ((fun _ => (0 : Int)) 4), .int .i64 ((fun _ => (0 : Int)) 5)] 58)
      have hCn := Cb.new w2 (0 : Int) (fun _ => (0 : Int))
      have hown3 := hown2.alloc (.cells #[.int .i64 ((0 : Int)), .int .i64 ((fun _ => (0 : Int)) 0), .int .i64 ((fun _ => (0 : Int)) 1), .int .i64 ((fun _ => (0 : Int)) 2), .int .i64 ((fun _ => (0 : Int)) 3), .int .i64 ((fun _ => (0 : Int)) 4), .int .i64 ((fun _ => (0 : Int)) 5)] 58)
      have hhk := has_k b zs.length (0 : Int) (fun _ => (0 : Int)) _ zero_key0 _ _ hown3
      obtain ⟨e0, e1, e2, e3, e4, e5, e6⟩ := hCn.all
      clear hcy hcn hC hz hown2 hown3
      go_wp2_with fail
      refine hhk.mono ?_
      rintro e w4 ⟨rfl, hb4⟩
      rw [HH.out]
      have hR0 := hR0.below hb4 (by simp; omega)
      have hB4 := hB3.trans (hb4.mono hB3.size)
      clear hhk e0 e1 e2 e3 e4 e5 e6 hB3
      obtain ⟨a0, a1, a2, a3, a4, a5, a6⟩ := hR0.all
      obtain ⟨b0, b1, b2, b3, b4, b5, b6⟩ := hR0.frees
      go_wp2
      refine bodyPost_ret (v := .tuple #[.map none, .agg #[.int .i64 ((0 : Int)), .int .i64 ((fun _ => (0 : Int)) 0), .int .i64 ((fun _ => (0 : Int)) 1), .int .i64 ((fun _ => (0 : Int)) 2), .int .i64 ((fun _ => (0 : Int)) 3), .int .i64 ((fun _ => (0 : Int)) 4), .int .i64 ((fun _ => (0 : Int)) 5)], .bool false]) (by simp [results, Tryz.results63, go_sem, hq0, a0, a1, a2, a3, a4, a5, a6]) rfl ⟨_, _, by rw [HF.out]; rfl, fun e => (by rw [HF.out] at e; cases e), fun _ => ⟨rfl, rfl⟩, below_set7 hB4 (Nat.le_refl _) _ _ _ _ _ _ _⟩
    · obtain rfl := hcy hC
      have HHM := Lib.hid (HMM.out hC)
      have hR0 := hR0.alloc (.cells #[.int .i64 ((f.length : Int)), .int .i64 (ofL f 0), .int .i64 (ofL f 1), .int .i64 (ofL f 2), .int .i64 (ofL f 3), .int .i64 (ofL f 4), .int .i64 (ofL f 5)] 58)
      have hB3 := hB2.alloc hB2.size (.cells #[.int .i64 ((f.length : Int)), .int .i64 (ofL f 0), .int .i64 (ofL f 1), .int .i64 (ofL f 2), .int .i64 (ofL f 3), .int .i64 (ofL f 4), .int .i64 (ofL f 5)] 58)
      have hCn := Cb.new w2 (f.length : Int) (ofL f)
      have hown3 := hown2.alloc (.cells #[.int .i64 ((f.length : Int)), .int .i64 (ofL f 0), .int .i64 (ofL f 1), .int .i64 (ofL f 2), .int .i64 (ofL f 3), .int .i64 (ofL f 4), .int .i64 (ofL f 5)] 58)
      have hhk := has_k b zs.length _ _ _ (keyOf_L hC) _ _ hown3
      obtain ⟨e0, e1, e2, e3, e4, e5, e6⟩ := hCn.all
      clear hcy hcn hC hz hown2
      go_wp2_with fail
      refine hhk.mono ?_
      rintro e w4 ⟨rfl, hb4⟩
      rw [HHM.out]
      have hR0 := hR0.below hb4 (by simp; omega)
      have hCn := hCn.below hb4 (by simp)
      have hB4 := hB3.trans (hb4.mono hB3.size)
      have hown4 := ownsMap_same hown3 (hb4.block b hown3.lt)
      have hq2 : w2.heap.size < w4.heap.size := by have := hb4.size; simp at this; omega
      have hq4 : w.heap.size < w4.heap.size := by omega
      clear hhk e0 e1 e2 e3 e4 e5 e6 hB3 hown3 hb4
      obtain ⟨a0, a1, a2, a3, a4, a5, a6⟩ := hR0.all
      obtain ⟨b0, b1, b2, b3, b4, b5, b6⟩ := hR0.frees
      obtain ⟨e0, e1, e2, e3, e4, e5, e6⟩ := hCn.all
      by_cases hm : f ∈ zs
      · have HT : Hid (swhB zs f = true) := HS.out.trans (decide_eq_true hm)
        rw [decide_eq_true hm]
        have hne : ∀ j, b ≠ (⟨w.heap.size, j, none⟩ : Addr).block := fun j e => by have e' : b = w.heap.size := e; omega
        clear hm
        go_wp2
        go_region
        all_goals go_wp2
        refine bodyPost_ret (v := .tuple #[.map (some b), .agg #[.int .i64 ((f.length : Int)), .int .i64 (ofL f 0), .int .i64 (ofL f 1), .int .i64 (ofL f 2), .int .i64 (ofL f 3), .int .i64 (ofL f 4), .int .i64 (ofL f 5)], .bool true]) (by simp [results, Tryz.results63, go_sem, hq0, hq2, hq4, a0, a1, a2, a3, a4, a5, a6]) rfl ⟨_, _, by rw [HT.out], fun _ => ⟨⟨b, rfl, by omega, ?_⟩, rfl⟩, fun e => (by rw [HT.out] at e; cases e), (below_set7 hB4 (Nat.le_refl _) _ _ _ _ _ _ _).drew⟩
        have hown5 := ((((((hown4.setCell (a := ⟨w.heap.size, 0, none⟩) (hne 0) (.int .i64 (f.length : Int))).setCell (a := ⟨w.heap.size, 1, none⟩) (hne 1) (.int .i64 (ofL f 0))).setCell (a := ⟨w.heap.size, 2, none⟩) (hne 2) (.int .i64 (ofL f 1))).setCell (a := ⟨w.heap.size, 3, none⟩) (hne 3) (.int .i64 (ofL f 2))).setCell (a := ⟨w.heap.size, 4, none⟩) (hne 4) (.int .i64 (ofL f 3))).setCell (a := ⟨w.heap.size, 5, none⟩) (hne 5) (.int .i64 (ofL f 4))).setCell (a := ⟨w.heap.size, 6, none⟩) (hne 6) (.int .i64 (ofL f 5))
        exact ownsMap_drew hown5
      · have HF : Hid (swhB zs f = false) := HS.out.trans (decide_eq_false hm)
        rw [decide_eq_false hm]
        clear hm
        go_wp2
        refine bodyPost_ret (v := .tuple #[.map none, .agg #[.int .i64 ((0 : Int)), .int .i64 ((fun _ => (0 : Int)) 0), .int .i64 ((fun _ => (0 : Int)) 1), .int .i64 ((fun _ => (0 : Int)) 2), .int .i64 ((fun _ => (0 : Int)) 3), .int .i64 ((fun _ => (0 : Int)) 4), .int .i64 ((fun _ => (0 : Int)) 5)], .bool false]) (by simp [results, Tryz.results63, go_sem, hq0, a0, a1, a2, a3, a4, a5, a6]) rfl ⟨_, _, by rw [HF.out]; rfl, fun e => (by rw [HF.out] at e; cases e), fun _ => ⟨rfl, rfl⟩, below_set7 hB4 (Nat.le_refl _) _ _ _ _ _ _ _⟩
end

end Go.Proofs.YtkfiehndlgplgaaGreatDoor
