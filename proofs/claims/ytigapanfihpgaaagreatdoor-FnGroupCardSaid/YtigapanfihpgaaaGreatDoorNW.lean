/-
  Abv.
-/
import Derived.Test.YtigapanfihpgaaaGreatDoorNU
import Derived.Test.YtigapanfihpgaaaGreatDoorNV
namespace Go.Proofs.YtigapanfihpgaaaGreatDoor
set_option maxRecDepth 100000
set_option linter.unusedVariables false
set_option linter.unusedSimpArgs false
set_option linter.unusedSectionVars false

/-! SemigroupAbove, both sides; impl.toldWith. -/
section
open Go.RowKit Go.Maps

/-- a semigroup with this chart -/
def swhB (zs : List (List Int)) (f : List Int) : Bool := sgS zs && decide (f ∈ zs)
def abL (zs : List (List Int)) (f : List Int) : List (List Int) := if swhB zs f = true then zs.filter (beB f) else []
theorem swh_iff {zs : List (List Int)} {f : List Int} : swhB zs f = true ↔ sgS zs = true ∧ f ∈ zs := by unfold swhB; rw [Bool.and_eq_true, decide_eq_true_eq]
theorem abL_le (zs : List (List Int)) (f : List Int) : (abL zs f).length ≤ 400 ∧ totL (abL zs f) ≤ 2400 ∧ ∀ L ∈ abL zs f, L.length ≤ 1048576 := by
  unfold abL
  split
  · rename_i h; exact sub_le (swh_iff.1 h).1 (List.length_filter_le _ _) (fun L hL => (List.mem_filter.1 hL).1)
  · exact nil_le

theorem zero_key : keyOf Tryz.prog 53 (.agg #[.int .i64 (((0 : Nat) : Int)), .int .i64 ((fun _ => (0 : Int)) 0), .int .i64 ((fun _ => (0 : Int)) 1), .int .i64 ((fun _ => (0 : Int)) 2), .int .i64 ((fun _ => (0 : Int)) 3), .int .i64 ((fun _ => (0 : Int)) 4), .int .i64 ((fun _ => (0 : Int)) 5)]) = some (klT ((0 : Nat) : Int) (fun _ => 0)) := by
  have h : In64 0 := ⟨by omega, by omega⟩
  exact keyOf_ch ((0 : Nat) : Int) (fun _ => (0 : Int)) h (fun _ _ => h)
theorem zero_key0 : keyOf Tryz.prog 53 (.agg #[.int .i64 ((0 : Int)), .int .i64 ((fun _ => (0 : Int)) 0), .int .i64 ((fun _ => (0 : Int)) 1), .int .i64 ((fun _ => (0 : Int)) 2), .int .i64 ((fun _ => (0 : Int)) 3), .int .i64 ((fun _ => (0 : Int)) 4), .int .i64 ((fun _ => (0 : Int)) 5)]) = some (klT ((0 : Nat) : Int) (fun _ => 0)) := zero_key
theorem zero_not {zs : List (List Int)} (hz : ∀ L ∈ zs, isC L = true) : ¬ ∃ L, L ∈ zs ∧ klL L = klT ((0 : Nat) : Int) (fun _ => 0) := by
  rintro ⟨L, hL, e⟩
  have h1 := keyOf_L (hz L hL)
  have h2 := zero_key
  rw [← e] at h2
  have := (agg_inj (n := (L.length : Int)) (m := ((0 : Nat) : Int)) (S := ofL L) (T := fun _ => (0 : Int)) (ch_keyed.inj h1 h2)).1
  have := (isC_len (hz L hL)).1
  omega
set_option maxHeartbeats 1000000 in
theorem has_k {H : Type} (b n : Nat) (m : Int) (T : Nat → Int) (kl : Lit) (hkey : keyOf Tryz.prog 53 (.agg #[.int .i64 (m), .int .i64 (T 0), .int .i64 (T 1), .int .i64 (T 2), .int .i64 (T 3), .int .i64 (T 4), .int .i64 (T 5)]) = some kl) (D : DataW H) (w : World) (hown : w.ownsMap Tryz.prog 53 (plainElem Tryz.prog 3) b n D) :
    Calls Tryz.prog 109 #[.map (some b), .agg #[.int .i64 (m), .int .i64 (T 0), .int .i64 (T 1), .int .i64 (T 2), .int .i64 (T 3), .int .i64 (T 4), .int .i64 (T 5)]] w fun e w' => e = .returned (.bool (Maps.has D kl)) ∧ Below w.heap.size w w' := by
  have hown1 := hown.alloc (.cells #[.int .i64 (m), .int .i64 (T 0), .int .i64 (T 1), .int .i64 (T 2), .int .i64 (T 3), .int .i64 (T 4), .int .i64 (T 5)] 53)
  have hz : (zeroValue 3).run Tryz.prog (w.alloc (.cells #[.int .i64 (m), .int .i64 (T 0), .int .i64 (T 1), .int .i64 (T 2), .int .i64 (T 3), .int .i64 (T 4), .int .i64 (T 5)] 53)) = .ok (.int .i64 0) (w.alloc (.cells #[.int .i64 (m), .int .i64 (T 0), .int .i64 (T 1), .int .i64 (T 2), .int .i64 (T 3), .int .i64 (T 4), .int .i64 (T 5)] 53)) := by kernel_rfl
  have hB : Below w.heap.size w (w.alloc (.cells #[.int .i64 (m), .int .i64 (T 0), .int .i64 (T 1), .int .i64 (T 2), .int .i64 (T 3), .int .i64 (T 4), .int .i64 (T 5)] 53)) := (Below.refl _ w).alloc (Nat.le_refl _) _
  clear hown
  go_enter Tryz.func109, Tryz.ntmps109
  go_wp2_with (at_lookup; refine wpList_lookup_own_ok_int _ rfl _ _ 42 rfl 53 3 .i64 ch_keyed Tryz.underlying42 Tryz.underlying3 hz b n D rfl hown1 _ kl rfl hkey ?_; intro z hat hwc)
  go_ret
  exact ⟨rfl, hB⟩

theorem ownsMap_drew {H : Type} {P : Program} {K : TypeId} {R : Value → Option (DataW H × List MemPlace)} {w : World} {b n : Nat} {D : DataW H} (h : w.ownsMap P K R b n D) : w.drew.ownsMap P K R b n D := ownsMap_same h rfl
theorem mapP_iff {H : Type} {zs : List (List Int)} (x : Lit) : Maps.has (mapP (H := H) klL zs zs.length) x = true ↔ ∃ L, L ∈ zs ∧ klL L = x := by
  rw [mapP_has klL_key zs.length (Nat.le_refl _)]
  constructor
  · rintro ⟨i, hi, e⟩; exact ⟨_, ent_mem hi, e⟩
  · rintro ⟨L, hL, e⟩
    obtain ⟨i, hi, e2⟩ := mem_ent hL
    exact ⟨i, hi, by rw [e2]; exact e⟩
theorem mapP_mem {H : Type} {zs : List (List Int)} (hz : ∀ L ∈ zs, isC L = true) {f : List Int} (hf : isC f = true) : Maps.has (mapP (H := H) klL zs zs.length) (klL f) = decide (f ∈ zs) := by
  by_cases h : f ∈ zs
  · rw [decide_eq_true h]; exact (mapP_iff _).2 ⟨f, h, rfl⟩
  · rw [decide_eq_false h]
    cases hh : Maps.has (mapP (H := H) klL zs zs.length) (klL f)
    · rfl
    · obtain ⟨L, hL, e⟩ := (mapP_iff _).1 hh
      exact absurd (by rw [← klL_inj L f (hz L hL) hf e]; exact hL) h

/-- the map of a list's semigroup and the chart, or none -/
def TwPost (zs : List (List Int)) (f : List Int) (w : World) (v cv : Value) (w' : World) : Prop :=
  (swhB zs f = true → (∃ b, v = .map (some b) ∧ w.heap.size ≤ b ∧ w'.ownsMap Tryz.prog 53 (plainElem (H := Unit) Tryz.prog 3) b zs.length (mapP klL zs zs.length)) ∧ cv = .agg #[.int .i64 ((f.length : Int)), .int .i64 (ofL f 0), .int .i64 (ofL f 1), .int .i64 (ofL f 2), .int .i64 (ofL f 3), .int .i64 (ofL f 4), .int .i64 (ofL f 5)]) ∧ (swhB zs f = false → v = .map none ∧ cv = .agg #[.int .i64 (((0 : Nat) : Int)), .int .i64 ((fun _ => (0 : Int)) 0), .int .i64 ((fun _ => (0 : Int)) 1), .int .i64 ((fun _ => (0 : Int)) 2), .int .i64 ((fun _ => (0 : Int)) 3), .int .i64 ((fun _ => (0 : Int)) 4), .int .i64 ((fun _ => (0 : Int)) 5)]) ∧ Below w.heap.size w w'
set_option maxHeartbeats 1000000 in
theorem toldWith_any (A B : Option Addr) (n c m d : Nat) (zs : List (List Int)) (f : List Int) (w : World) (h : RSS w A n zs) (h' : RI w B m f) (hg : EtAt w) :
    Calls Tryz.prog 81 #[.slice A n c, .slice B m d] w fun e w' => ∃ v cv, e = .returned (.tuple #[v, cv, .bool (swhB zs f)]) ∧ TwPost zs f w v cv w' := by
  have hb0 : Below w.heap.size w (w.alloc (.cells #[.int .i64 ((0 : Int)), .int .i64 ((fun _ => (0 : Int)) 0), .int .i64 ((fun _ => (0 : Int)) 1), .int .i64 ((fun _ => (0 : Int)) 2), .int .i64 ((fun _ => (0 : Int)) 3), .int .i64 ((fun _ => (0 : Int)) 4), .int .i64 ((fun _ => (0 : Int)) 5)] 53)) := (Below.refl _ w).alloc (Nat.le_refl _) _
  have hsg := told_any A n c zs (w.alloc (.cells #[.int .i64 ((0 : Int)), .int .i64 ((fun _ => (0 : Int)) 0), .int .i64 ((fun _ => (0 : Int)) 1), .int .i64 ((fun _ => (0 : Int)) 2), .int .i64 ((fun _ => (0 : Int)) 3), .int .i64 ((fun _ => (0 : Int)) 4), .int .i64 ((fun _ => (0 : Int)) 5)] 53)) (h.below hb0) (hg.below hb0)
  have HR := Lib.hid h'
  have hR0 := Cb.new w 0 (fun _ => 0)
  clear h hg h'
  go_enter Tryz.func81, Tryz.ntmps81
  go_wp2_with fail
  refine hsg.mono ?_
  rintro e w1 ⟨v, rfl, hy, hno, hb⟩
  have hz1 : w.heap.size + 1 ≤ w1.heap.size := by have := hb.size; simpa using this
  have hB1 := hb0.trans (hb.mono hb0.size)
  have hR0 := hR0.below hb (by simp)
  have hR1 := HR.out.below hB1
  clear hsg hb hb0
  go_wp2_with fail
  refine (chartOf_c _ _ _ f _ hR1).mono ?_
  rintro e w2 ⟨hcy, hcn, hb2⟩
  have hz2 : w1.heap.size ≤ w2.heap.size := hb2.size
  have hq0 : w.heap.size < w2.heap.size := by omega
  have hB2 := hB1.trans (hb2.mono hB1.size)
  have hR0 := hR0.below hb2 (by omega)
  clear hR1
  cases hS : sgS zs
  · obtain rfl := hno hS
    have HF : Hid (swhB zs f = false) := by show _ = _; unfold swhB; rw [hS]; rfl
    clear hy hno hS hb2
    cases hC : isC f
    · obtain rfl := hcn hC
      have hB3 := hB2.alloc hB2.size (.cells #[.int .i64 ((0 : Int)), .int .i64 ((fun _ => (0 : Int)) 0), .int .i64 ((fun _ => (0 : Int)) 1), .int .i64 ((fun _ => (0 : Int)) 2), .int .i64 ((fun _ => (0 : Int)) 3), .int .i64 ((fun _ => (0 : Int)) 4), .int .i64 ((fun _ => (0 : Int)) 5)] 53)
      clear hcy hcn hC
      obtain ⟨a0, a1, a2, a3, a4, a5, a6⟩ := hR0.all
      obtain ⟨b0, b1, b2, b3, b4, b5, b6⟩ := hR0.frees
      go_wp2
      refine bodyPost_ret (v := .tuple #[.map none, .agg #[.int .i64 ((0 : Int)), .int .i64 ((fun _ => (0 : Int)) 0), .int .i64 ((fun _ => (0 : Int)) 1), .int .i64 ((fun _ => (0 : Int)) 2), .int .i64 ((fun _ => (0 : Int)) 3), .int .i64 ((fun _ => (0 : Int)) 4), .int .i64 ((fun _ => (0 : Int)) 5)], .bool false]) (by simp [results, Tryz.results81, go_sem, hq0, a0, a1, a2, a3, a4, a5, a6]) rfl ⟨_, _, by rw [HF.out]; rfl, fun e => (by rw [HF.out] at e; cases e), fun _ => ⟨rfl, rfl⟩, (below_set7 hB2 (Nat.le_refl _) _ _ _ _ _ _ _).alloc (below_set7 hB2 (Nat.le_refl _) _ _ _ _ _ _ _).size _⟩
    · obtain rfl := hcy hC
      have hB3 := hB2.alloc hB2.size (.cells #[.int .i64 ((f.length : Int)), .int .i64 (ofL f 0), .int .i64 (ofL f 1), .int .i64 (ofL f 2), .int .i64 (ofL f 3), .int .i64 (ofL f 4), .int .i64 (ofL f 5)] 53)
      clear hcy hcn hC
      obtain ⟨a0, a1, a2, a3, a4, a5, a6⟩ := hR0.all
      obtain ⟨b0, b1, b2, b3, b4, b5, b6⟩ := hR0.frees
      go_wp2
      refine bodyPost_ret (v := .tuple #[.map none, .agg #[.int .i64 ((0 : Int)), .int .i64 ((fun _ => (0 : Int)) 0), .int .i64 ((fun _ => (0 : Int)) 1), .int .i64 ((fun _ => (0 : Int)) 2), .int .i64 ((fun _ => (0 : Int)) 3), .int .i64 ((fun _ => (0 : Int)) 4), .int .i64 ((fun _ => (0 : Int)) 5)], .bool false]) (by simp [results, Tryz.results81, go_sem, hq0, a0, a1, a2, a3, a4, a5, a6]) rfl ⟨_, _, by rw [HF.out]; rfl, fun e => (by rw [HF.out] at e; cases e), fun _ => ⟨rfl, rfl⟩, (below_set7 hB2 (Nat.le_refl _) _ _ _ _ _ _ _).alloc (below_set7 hB2 (Nat.le_refl _) _ _ _ _ _ _ _).size _⟩
  · obtain ⟨b, rfl, hbl, hown⟩ := hy hS
    have S := sgS_iff.1 hS
    have hz : ∀ L ∈ zs, isC L = true := fun L hL => (S.ch L hL).1
    have hown2 := ownsMap_same hown (hb2.block b hown.lt)
    have HS : Hid (swhB zs f = decide (f ∈ zs)) := by show _ = _; unfold swhB; rw [hS, Bool.true_and]
    have HZN := Lib.hid (zero_not hz)
    have HMM : Hid (isC f = true → Maps.has (mapP (H := Unit) klL zs zs.length) (klL f) = decide (f ∈ zs)) := fun hf => mapP_mem hz hf
    have hbw : w.heap.size + 1 ≤ b := by simpa using hbl
    clear hy hno hS S hb2 hown hbl
    cases hC : isC f
    · obtain rfl := hcn hC
      have HF : Hid (swhB zs f = false) := by
        show _ = _
        rw [HS.out]
        exact decide_eq_false (fun hm => by rw [hz f hm] at hC; cases hC)
      have HH : Hid (Maps.has (mapP (H := Unit) klL zs zs.length) (klT ((0 : Nat) : Int) (fun _ => 0)) = false) := by
        show _ = _
        cases hh : Maps.has (mapP (H := Unit) klL zs zs.length) (klT ((0 : Nat) : Int) (fun _ => 0))
        · rfl
        · exact absurd ((mapP_iff _).1 hh) HZN.out
      have hR0 := hR0.alloc (.cells #[.int .i64 ((0 : Int)), .int .i64 ((fun _ => (0 : Int)) 0), .int .i64 ((fun _ => (0 : Int)) 1), .int .i64 ((fun _ => (0 : Int)) 2), .int .i64 ((fun _ => (0 : Int)) 3), .int .i64 ((fun _ => (0 : Int)) 4), .int .i64 ((fun _ => (0 : Int)) 5)] 53)
      have hB3 := hB2.alloc hB2.size (.cells #[.int .i64 ((0 : Int)), .int .i64 ((fun _ => (0 : Int)) 0), .int .i64 ((fun _ => (0 : Int)) 1), .int .i64 ((fun _ => (0 : Int)) 2), .int .i64 ((fun _ => (0 : Int)) 3), .int .i64 ((fun _ => (0 : Int)) 4), .int .i64 ((fun _ => (0 : Int)) 5)] 53)
      have hCn := Cb.new w2 (0 : Int) (fun _ => (0 : Int))
      have hown3 := hown2.alloc (.cells #[.int .i64 ((0 : Int)), .int .i64 ((fun _ => (0 : Int)) 0), .int .i64 ((fun _ => (0 : Int)) 1), .int .i64 ((fun _ => (0 : Int)) 2), .int .i64 ((fun _ => (0 : Int)) 3), .int .i64 ((fun _ => (0 : Int)) 4), .int .i64 ((fun _ => (0 : Int)) 5)] 53)
      have hhk := has_k b zs.length (0 : Int) (fun _ => (0 : Int)) _ zero_key0 _ _ hown3
      obtain ⟨e0, e1, e2, e3, e4, e5, e6⟩ := hCn.all
      clear hcy hcn hC hz hown2 hown3
      go_wp2_with fail
      refine hhk.mono ?_
      rintro e w4 ⟨rfl, hb4⟩
      rw [HH.out]
      have hR0 := hR0.below hb4 (by simp; omega)
      have hB4 := hB3.trans (hb4.mono hB3.size)
      clear hhk e0 e1 e2 e3 e4 e5 e6 hB3
      obtain ⟨a0, a1, a2, a3, a4, a5, a6⟩ := hR0.all
      obtain ⟨b0, b1, b2, b3, b4, b5, b6⟩ := hR0.frees
      go_wp2
      refine bodyPost_ret (v := .tuple #[.map none, .agg #[.int .i64 ((0 : Int)), .int .i64 ((fun _ => (0 : Int)) 0), .int .i64 ((fun _ => (0 : Int)) 1), .int .i64 ((fun _ => (0 : Int)) 2), .int .i64 ((fun _ => (0 : Int)) 3), .int .i64 ((fun _ => (0 : Int)) 4), .int .i64 ((fun _ => (0 : Int)) 5)], .bool false]) (by simp [results, Tryz.results81, go_sem, hq0, a0, a1, a2, a3, a4, a5, a6]) rfl ⟨_, _, by rw [HF.out]; rfl, fun e => (by rw [HF.out] at e; cases e), fun _ => ⟨rfl, rfl⟩, below_set7 hB4 (Nat.le_refl _) _ _ _ _ _ _ _⟩
    · obtain rfl := hcy hC
      have HHM := Lib.hid (HMM.out hC)
      have hR0 := hR0.alloc (.cells #[.int .i64 ((f.length : Int)), .int .i64 (ofL f 0), .int .i64 (ofL f 1), .int .i64 (ofL f 2), .int .i64 (ofL f 3), .int .i64 (ofL f 4), .int .i64 (ofL f 5)] 53)
      have hB3 := hB2.alloc hB2.size (.cells #[.int .i64 ((f.length : Int)), .int .i64 (ofL f 0), .int .i64 (ofL f 1), .int .i64 (ofL f 2), .int .i64 (ofL f 3), .int .i64 (ofL f 4), .int .i64 (ofL f 5)] 53)
      have hCn := Cb.new w2 (f.length : Int) (ofL f)
      have hown3 := hown2.alloc (.cells #[.int .i64 ((f.length : Int)), .int .i64 (ofL f 0), .int .i64 (ofL f 1), .int .i64 (ofL f 2), .int .i64 (ofL f 3), .int .i64 (ofL f 4), .int .i64 (ofL f 5)] 53)
      have hhk := has_k b zs.length _ _ _ (keyOf_L hC) _ _ hown3
      obtain ⟨e0, e1, e2, e3, e4, e5, e6⟩ := hCn.all
      clear hcy hcn hC hz hown2
      go_wp2_with fail
      refine hhk.mono ?_
      rintro e w4 ⟨rfl, hb4⟩
      rw [HHM.out]
      have hR0 := hR0.below hb4 (by simp; omega)
      have hCn := hCn.below hb4 (by simp)
      have hB4 := hB3.trans (hb4.mono hB3.size)
      have hown4 := ownsMap_same hown3 (hb4.block b hown3.lt)
      have hq2 : w2.heap.size < w4.heap.size := by have := hb4.size; simp at this; omega
      have hq4 : w.heap.size < w4.heap.size := by omega
      clear hhk e0 e1 e2 e3 e4 e5 e6 hB3 hown3 hb4
      obtain ⟨a0, a1, a2, a3, a4, a5, a6⟩ := hR0.all
      obtain ⟨b0, b1, b2, b3, b4, b5, b6⟩ := hR0.frees
      obtain ⟨e0, e1, e2, e3, e4, e5, e6⟩ := hCn.all
      by_cases hm : f ∈ zs
      · have HT : Hid (swhB zs f = true) := HS.out.trans (decide_eq_true hm)
        rw [decide_eq_true hm]
        have hne : ∀ j, b ≠ (⟨w.heap.size, j, none⟩ : Addr).block := fun j e => by have e' : b = w.heap.size := e; omega
        clear hm
        go_wp2
        go_region
        all_goals go_wp2
        refine bodyPost_ret (v := .tuple #[.map (some b), .agg #[.int .i64 ((f.length : Int)), .int .i64 (ofL f 0), .int .i64 (ofL f 1), .int .i64 (ofL f 2), .int .i64 (ofL f 3), .int .i64 (ofL f 4), .int .i64 (ofL f 5)], .bool true]) (by simp [results, Tryz.results81, go_sem, hq0, hq2, hq4, a0, a1, a2, a3, a4, a5, a6]) rfl ⟨_, _, by rw [HT.out], fun _ => ⟨⟨b, rfl, by omega, ?_⟩, rfl⟩, fun e => (by rw [HT.out] at e; cases e), (below_set7 hB4 (Nat.le_refl _) _ _ _ _ _ _ _).drew⟩
        have hown5 := ((((((hown4.setCell (a := ⟨w.heap.size, 0, none⟩) (hne 0) (.int .i64 (f.length : Int))).setCell (a := ⟨w.heap.size, 1, none⟩) (hne 1) (.int .i64 (ofL f 0))).setCell (a := ⟨w.heap.size, 2, none⟩) (hne 2) (.int .i64 (ofL f 1))).setCell (a := ⟨w.heap.size, 3, none⟩) (hne 3) (.int .i64 (ofL f 2))).setCell (a := ⟨w.heap.size, 4, none⟩) (hne 4) (.int .i64 (ofL f 3))).setCell (a := ⟨w.heap.size, 5, none⟩) (hne 5) (.int .i64 (ofL f 4))).setCell (a := ⟨w.heap.size, 6, none⟩) (hne 6) (.int .i64 (ofL f 5))
        exact ownsMap_drew hown5
      · have HF : Hid (swhB zs f = false) := HS.out.trans (decide_eq_false hm)
        rw [decide_eq_false hm]
        clear hm
        go_wp2
        refine bodyPost_ret (v := .tuple #[.map none, .agg #[.int .i64 ((0 : Int)), .int .i64 ((fun _ => (0 : Int)) 0), .int .i64 ((fun _ => (0 : Int)) 1), .int .i64 ((fun _ => (0 : Int)) 2), .int .i64 ((fun _ => (0 : Int)) 3), .int .i64 ((fun _ => (0 : Int)) 4), .int .i64 ((fun _ => (0 : Int)) 5)], .bool false]) (by simp [results, Tryz.results81, go_sem, hq0, a0, a1, a2, a3, a4, a5, a6]) rfl ⟨_, _, by rw [HF.out]; rfl, fun e => (by rw [HF.out] at e; cases e), fun _ => ⟨rfl, rfl⟩, below_set7 hB4 (Nat.le_refl _) _ _ _ _ _ _ _⟩
set_option maxHeartbeats 1000000 in
theorem above_none (m : Int) (T : Nat → Int) (w : World) :
    Calls Tryz.prog 75 #[.map none, .agg #[.int .i64 (m), .int .i64 (T 0), .int .i64 (T 1), .int .i64 (T 2), .int .i64 (T 3), .int .i64 (T 4), .int .i64 (T 5)]] w fun e w' => e = .returned (.slice none 0 0) ∧ Below w.heap.size w w' := by
  have hB0 : Below w.heap.size w (w.alloc (.cells #[.int .i64 (m), .int .i64 (T 0), .int .i64 (T 1), .int .i64 (T 2), .int .i64 (T 3), .int .i64 (T 4), .int .i64 (T 5)] 53)) := (Below.refl _ w).alloc (Nat.le_refl _) _
  have hpt := part_none (.func (.func 77) #[.agg #[.int .i64 (m), .int .i64 (T 0), .int .i64 (T 1), .int .i64 (T 2), .int .i64 (T 3), .int .i64 (T 4), .int .i64 (T 5)]] #[]) rfl (w.alloc (.cells #[.int .i64 (m), .int .i64 (T 0), .int .i64 (T 1), .int .i64 (T 2), .int .i64 (T 3), .int .i64 (T 4), .int .i64 (T 5)] 53))
  obtain ⟨a0, a1, a2, a3, a4, a5, a6⟩ := (Cb.new w m T).all
  go_enter Tryz.func75, Tryz.ntmps75
  go_wp2_with fail
  refine hpt.mono ?_
  rintro e w1 ⟨rfl, hb⟩
  go_wp2
  go_ret
  exact ⟨rfl, hB0.trans (hb.mono (by simp))⟩
set_option maxHeartbeats 1000000 in
theorem implAbove_any (A B : Option Addr) (n c m d : Nat) (zs : List (List Int)) (f : List Int) (w : World) (h : RSS w A n zs) (h' : RI w B m f) (hg : EtAt w) :
    Calls Tryz.prog 38 #[.slice A n c, .slice B m d] w fun e w' => ∃ v, e = .returned (.tuple #[v, .bool (swhB zs f)]) ∧ OSS w' w.heap.size w'.heap.size v (abL zs f) ∧ Below w.heap.size w w' := by
  have htw := toldWith_any A B n c m d zs f w h h' hg
  clear h h' hg
  go_enter Tryz.func38, Tryz.ntmps38
  go_wp2_with fail
  refine htw.mono ?_
  rintro e w1 ⟨v, cv, rfl, hy, hno, hb⟩
  cases hS : swhB zs f
  · obtain ⟨rfl, rfl⟩ := hno hS
    have HSX := Lib.hid hS
    have HI : Hid (abL zs f = []) := by show _ = _; unfold abL; rw [hS]; rfl
    have hB1 := hb.alloc hb.size (.cells #[.int .i64 (((0 : Nat) : Int)), .int .i64 ((fun _ => (0 : Int)) 0), .int .i64 ((fun _ => (0 : Int)) 1), .int .i64 ((fun _ => (0 : Int)) 2), .int .i64 ((fun _ => (0 : Int)) 3), .int .i64 ((fun _ => (0 : Int)) 4), .int .i64 ((fun _ => (0 : Int)) 5)] 53)
    clear hy hno htw hS
    go_wp2_with fail
    refine (above_none ((0 : Nat) : Int) (fun _ => (0 : Int)) _).mono ?_
    rintro e w2 ⟨rfl, hb2⟩
    have hB2 := hB1.trans (hb2.mono hB1.size)
    go_wp2_with fail
    refine (listsOf_any 0 0 (.slice none 0 0) [] (fun L h => by cases h) (by simp) w2 (World.ownsRow_nil _ _ _ _)).mono ?_
    rintro e w3 ⟨v', rfl, hO, hb3⟩
    have hs2 := hB2.size
    go_wp2
    go_ret2
    exact ⟨_, by rw [HSX.out]; rfl, by rw [HI.out]; exact hO.more hs2 (Nat.le_refl _), hB2.trans (hb3.mono hs2)⟩
  · obtain ⟨⟨b, rfl, hbl, hown⟩, rfl⟩ := hy hS
    have HSX := Lib.hid hS
    have hs := swh_iff.1 hS
    have S := sgS_iff.1 hs.1
    have HI : Hid (abL zs f = zs.filter (beB f)) := by show _ = _; unfold abL; rw [hS]; rfl
    have HZ : Hid (∀ L ∈ zs.filter (beB f), isC L = true ∧ L.length = (ent zs 0).length) := fun L hL => S.ch L (List.mem_filter.1 hL).1
    have hle : (zs.filter (beB f)).length ≤ 1048576 := Nat.le_trans (List.length_filter_le _ _) (by have := S.most; omega)
    have hB1 := hb.alloc hb.size (.cells #[.int .i64 ((f.length : Int)), .int .i64 (ofL f 0), .int .i64 (ofL f 1), .int .i64 (ofL f 2), .int .i64 (ofL f 3), .int .i64 (ofL f 4), .int .i64 (ofL f 5)] 53)
    have hid := above_any b f.length zs.length zs rfl (by have := S.most; omega) (fun L hL => ⟨(S.ch L hL).1, ((S.ch L hL).2.trans (S.ch f hs.2).2.symm)⟩) S.srt f (S.ch f hs.2).1 rfl (w1.alloc (.cells #[.int .i64 ((f.length : Int)), .int .i64 (ofL f 0), .int .i64 (ofL f 1), .int .i64 (ofL f 2), .int .i64 (ofL f 3), .int .i64 (ofL f 4), .int .i64 (ofL f 5)] 53)) (hown.alloc _)
    have hfl : (ent zs 0).length = f.length := (S.ch f hs.2).2.symm
    rw [hfl] at HZ
    have HB1 := Lib.hid hB1.size
    clear hy hno htw hS S hs hfl hown
    go_wp2_with fail
    refine hid.mono ?_
    rintro e w2 ⟨v, rfl, ho, hb2⟩
    have hB2 := hB1.trans (hb2.mono hB1.size)
    clear hid
    go_wp2_with fail
    refine (listsOf_any f.length _ v (zs.filter (beB f)) HZ.out hle w2 ho).mono ?_
    rintro e w3 ⟨v', rfl, hO, hb3⟩
    have hs2 := hB2.size
    go_wp2
    go_ret2
    exact ⟨_, by rw [HSX.out]; rfl, by rw [HI.out]; exact hO.more hs2 (Nat.le_refl _), hB2.trans (hb3.mono hs2)⟩
set_option maxHeartbeats 1000000 in
theorem specAbove_any (A B : Option Addr) (n c m d : Nat) (zs : List (List Int)) (f : List Int) (w : World) (h : RSS w A n zs) (h' : RI w B m f) (hn : n ≤ 1048576) (hl : ∀ L ∈ zs, L.length ≤ 1048576) :
    Calls Tryz.prog 39 #[.slice A n c, .slice B m d] w fun e w' => ∃ v, e = .returned (.tuple #[v, .bool (swhB zs f)]) ∧ OSS w' w.heap.size w'.heap.size v (abL zs f) ∧ Below w.heap.size w w' := by
  have hsg := specSg_any A n c zs w h hn hl
  cases hS : sgS zs
  · have HB : Hid (swhB zs f = false) := by show _ = _; unfold swhB; rw [hS]; rfl
    have HI : Hid (abL zs f = []) := by show _ = _; unfold abL; rw [HB.out]; rfl
    rw [hS] at hsg
    clear hS h hl h'
    go_enter Tryz.func39, Tryz.ntmps39
    go_wp2_with fail
    refine hsg.mono ?_
    rintro e w1 ⟨rfl, hb⟩
    have hL0 : (w1.alloc (.cells #[] 28)).ownsRow w.heap.size 28 1 (.slice (some ⟨w1.heap.size, 0, none⟩) 0 0) 0 [] := World.ownsRow_lit (base := w.heap.size) (e := 28) (size := 1) w1 #[] 0 hb.size (by simp [maxLen]) rfl
    have hB := hb.alloc hb.size (.cells #[] 28)
    go_wp2
    go_ret2
    exact ⟨_, by rw [HB.out]; rfl, by rw [HI.out]; exact OV.oss ⟨hL0, Inn.nil⟩, hB⟩
  · have S := sgS_iff.1 hS
    have HFI := Lib.hid (fndI_iff S.srt (f := f))
    have HS : Hid (swhB zs f = decide (f ∈ zs)) := by show _ = _; unfold swhB; rw [hS, Bool.true_and]
    have HCH := Lib.hid S.ch
    have HL := Lib.hid h.len
    have HR := Lib.hid h
    have HR' := Lib.hid h'
    have HLL := Lib.hid hl
    rw [hS] at hsg
    by_cases hm : f ∈ zs
    · have HB : Hid (swhB zs f = true) := HS.out.trans (decide_eq_true hm)
      have HI : Hid (abL zs f = zs.filter (beB f)) := by show _ = _; unfold abL; rw [HB.out]; rfl
      have hq0 : decide (fndI zs f < 0) = false := decide_eq_false (by have := HFI.out.2 hm; omega)
      have HFC := Lib.hid (S.ch f hm)
      obtain rfl := h'.len
      obtain ⟨i0, hi, hz0, hz1, hz2⟩ := info_parts info_bool
      have hb8 : i0.bytes * n ≤ 281474976710656 := by rw [hz2]; omega
      have hmx : n ≤ maxLen := by unfold maxLen; omega
      clear hS h hl h' hm S
      go_enter Tryz.func39, Tryz.ntmps39
      go_wp2_with fail
      refine hsg.mono ?_
      rintro e w1 ⟨rfl, hb⟩
      clear hsg
      go_wp2_with fail
      refine (l3Find_any _ _ _ _ _ _ zs f _ (HR.out.below hb) (HR'.out.below hb) hn HLL.out).mono ?_
      rintro e w2 ⟨rfl, hq2⟩
      have hB2 := hb.trans ((below_of_drewN hq2).mono hb.size)
      have hs2 := hB2.size
      clear hq2 hb
      generalize fndI zs f = q at *
      go_wp2_with (at_make; refine wpList_make_full _ rfl _ _ _ rfl w2.heap.size 4 i0 _ 1 Tryz.underlying49 hi hz0 hz1 _ _ _ _ n rfl rfl rfl rfl hb8 hmx (Nat.le_refl _) ?_; intro w3 hown hg)
      have hB3 : Below w.heap.size w w3 := hB2.grown hg hs2 (fun k e => by cases e)
      have hr0 : w3.ownsRow w2.heap.size 4 1 (.slice (some ⟨w2.heap.size, 0, none⟩) n n) n (bvs ((zs.take 0).map (beB f) ++ List.replicate (n - 0) false)) := by
        have e : (madeCells (Value.bool false).cells (n * 1)).toList = bvs ((zs.take 0).map (beB f) ++ List.replicate (n - 0) false) := by
          show (madeCells #[Value.bool false] (n * 1)).toList = _
          rw [toList_madeCells_one]; simp [bvs]
        rw [← e]; exact hown
      clear hown hg hi hz0 hz1 hz2 hb8
      go_loopw [7] (fun i wr => ∃ k : Nat, k ≤ n ∧ i = .int .i64 (k : Int) ∧ wr.ownsRow w2.heap.size 4 1 (.slice (some ⟨w2.heap.size, 0, none⟩) n n) n (bvs ((zs.take k).map (beB f) ++ List.replicate (n - k) false)) ∧ Below w.heap.size w wr) (fun i _ => n - (intOf i).toNat)
      case atStart => exact ⟨0, Nat.zero_le _, rfl, hr0, hB3⟩
      case round =>
        obtain ⟨k, hk, rfl, hrow, hbel⟩ := hrel
        clear hr0 hB3 hB2
        by_cases hlt : k < n
        · have hkl : k < zs.length := by have := HL.out; omega
          obtain ⟨ad, Ai, ci, rfl, hab, hc, hri⟩ := (HR.out.below hbel).at_ hlt
          have hent : zs[k]?.getD [] = ent zs k := rfl
          have e1 := HCH.out _ (ent_mem hkl)
          have e2 : (ent zs k).length = f.length := e1.2.trans HFC.out.2.symm
          rw [hent, e2] at hc hri
          have HP := isP_of HFC.out.1 e1.1 e2.symm
          have HT : Hid ((zs.take (k + 1)).map (beB f) = (zs.take k).map (beB f) ++ [beB f (ent zs k)]) := by
            show _ = _
            rw [List.take_succ_eq_append_getElem hkl, List.map_append]
            have : ent zs k = zs[k] := by unfold ent; rw [List.getElem?_eq_getElem hkl]; rfl
            rw [this]; rfl
          have hri' := HR'.out.below hbel
          have hHP := l1Below_c B Ai f.length d ci f (ent zs k) wr hri' hri HP
          clear hent hab e1 e2 hri hri' HP
          go_wp2_with fail
          refine hHP.mono ?_
          rintro e w4 ⟨rfl, hq4⟩
          have hb4 := below_of_drewN hq4
          have hrow4 := own_below hrow hb4
          have hbel4 := hbel.trans (hb4.mono hbel.size)
          have ho := hrow4.cellAt k (by omega)
          have hf := hrow4.frozenAt k
          obtain ⟨u, hu⟩ : ∃ u, (bvs ((zs.take k).map (beB f) ++ List.replicate (n - k) false))[k]? = some u := ⟨_, List.getElem?_eq_getElem (by simp [bvs]; omega)⟩
          rw [hu] at ho
          have hst := (hrow4.stored k (.bool (beB f (ent zs k)))).1
          rw [fillB _ hlt (by simp; omega), ← HT.out] at hst
          have HST := Lib.hid hst
          have hbel' := hbel4.setCell (p := ⟨w2.heap.size, k, none⟩) hs2 (.bool (beB f (ent zs k)))
          clear hHP hst hu hq4 hb4 hrow4 hrow hkl hc
          go_wp2
          go_roundw
          case rel => exact ⟨k + 1, by omega, by go_num, HST.out, hbel'⟩
          case measure => simp [intOf]; omega
        · obtain rfl : k = n := by omega
          have e : (zs.take k).map (beB f) ++ List.replicate (k - k) false = zs.map (beB f) := by rw [Nat.sub_self, List.replicate_zero, List.append_nil, List.take_of_length_le (by have := HL.out; omega)]
          rw [e] at hrow
          go_wp2_with fail
          refine (l3Keep_any A k c w2.heap.size k w2.heap.size zs (beB f) wr (HR.out.below hbel) hn (fun L hL => (HCH.out L hL).1) hrow).mono ?_
          rintro e w5 ⟨v, rfl, ho, hb5⟩
          have hs5 := hbel.size
          have hB5 := hbel.trans (hb5.mono hs5)
          go_wp2
          go_ret2
          exact ⟨_, by rw [HB.out]; rfl, by rw [HI.out]; exact ho.more hs5 (Nat.le_refl _), hB5⟩
    · have HB : Hid (swhB zs f = false) := HS.out.trans (decide_eq_false hm)
      have HI : Hid (abL zs f = []) := by show _ = _; unfold abL; rw [HB.out]; rfl
      have hq0 : decide (fndI zs f < 0) = true := decide_eq_true (by have : ¬ 0 ≤ fndI zs f := fun e => hm (HFI.out.1 e); omega)
      clear hS h hl h' hm S
      go_enter Tryz.func39, Tryz.ntmps39
      go_wp2_with fail
      refine hsg.mono ?_
      rintro e w1 ⟨rfl, hb⟩
      clear hsg
      go_wp2_with fail
      refine (l3Find_any _ _ _ _ _ _ zs f _ (HR.out.below hb) (HR'.out.below hb) hn HLL.out).mono ?_
      rintro e w2 ⟨rfl, hq2⟩
      have hB2 := hb.trans ((below_of_drewN hq2).mono hb.size)
      have hs2 := hB2.size
      clear hq2 hb
      generalize fndI zs f = q at *
      have hL0 : (w2.alloc (.cells #[] 28)).ownsRow w.heap.size 28 1 (.slice (some ⟨w2.heap.size, 0, none⟩) 0 0) 0 [] := World.ownsRow_lit (base := w.heap.size) (e := 28) (size := 1) w2 #[] 0 hs2 (by simp [maxLen]) rfl
      have hB := hB2.alloc hs2 (.cells #[] 28)
      go_wp2
      go_ret2
      exact ⟨_, by rw [HB.out]; rfl, by rw [HI.out]; exact OV.oss ⟨hL0, Inn.nil⟩, hB⟩
end

end Go.Proofs.YtigapanfihpgaaaGreatDoor
