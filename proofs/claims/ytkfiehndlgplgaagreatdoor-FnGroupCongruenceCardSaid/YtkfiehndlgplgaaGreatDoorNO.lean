/-
  SgF.
-/
import Derived.Test.YtkfiehndlgplgaaGreatDoorVA
import Derived.Test.YtkfiehndlgplgaaGreatDoorNN
namespace Go.Proofs.YtkfiehndlgplgaaGreatDoor
set_option maxRecDepth 100000
set_option linter.unusedVariables false
set_option linter.unusedSimpArgs false
set_option linter.unusedSectionVars false

/-! impl.semigroupFrom, impl.told, impl.SemigroupIn. -/
section
open Go.RowKit Go.Maps

theorem sg_nsrt {zs : List (List Int)} (h : ¬ Srt zs) : sgS zs = false := by
  cases hc : sgS zs
  · rfl
  · exact absurd (sgS_iff.1 hc).srt h
theorem sg_ncf {zs : List (List Int)} (h : cfB zs 400 = false) : sgS zs = false := by
  unfold sgS; unfold cfB at h; rw [h]; rfl
theorem sg_clB {zs : List (List Int)} (h : cfB zs 400 = true) (hs : Srt zs) : sgS zs = clB zs := by
  unfold cfB at h
  rw [Bool.and_eq_true, decide_eq_true_eq, chB_iff] at h
  cases hc : clB zs
  · cases hg : sgS zs
    · rfl
    · have g := sgS_iff.1 hg
      have : clB zs = true := List.all_eq_true.2 fun L hL => sgL_yes (g.tu L hL) (fun M hM => g.ti L hL M hM)
      rw [hc] at this; cases this
  · have hc' : ∀ L ∈ zs, sgL zs L = true := List.all_eq_true.1 hc
    refine sgS_iff.2 ⟨h.1.1, h.2, h.1.2, hs, fun L hL => ?_, fun L hL M hM => ?_⟩
    · have := hc' L hL
      unfold sgL at this
      rw [Bool.and_eq_true] at this
      exact of_decide_eq_true this.1
    · have := hc' L hL
      unfold sgL at this
      rw [Bool.and_eq_true] at this
      exact of_decide_eq_true (List.all_eq_true.1 this.2 M hM)
theorem cf_ch {zs : List (List Int)} (h : cfB zs 400 = true) : 1 ≤ zs.length ∧ zs.length ≤ 400 ∧ ∀ L ∈ zs, isC L = true ∧ L.length = (ent zs 0).length := by
  unfold cfB at h
  rw [Bool.and_eq_true, decide_eq_true_eq, chB_iff] at h
  exact ⟨h.1.1, h.2, h.1.2⟩

/-- what a semigroup is told by: its map of places, or an error -/
def SgPost (zs : List (List Int)) (w : World) (v err : Value) (w' : World) : Prop :=
  (sgS zs = true → err = .nilIface ∧ ∃ b, v = .map (some b) ∧ w.heap.size ≤ b ∧ w'.ownsMap Tryz.prog 58 (plainElem (H := Unit) Tryz.prog 3) b zs.length (mapP klL zs zs.length)) ∧
  (sgS zs = false → v = .map none ∧ ∃ s, err = .iface 136 (.agg #[.string s])) ∧ Below w.heap.size w w'

set_option maxHeartbeats 2000000 in
theorem sgFrom_any (A : Option Addr) (n c : Nat) (zs : List (List Int)) (w : World) (h : RSS w A n zs) :
    Calls Tryz.prog 97 #[.slice A n c] w fun e w' => ∃ v err, e = .returned (.tuple #[v, err]) ∧ SgPost zs w v err w' := by
  have HL := Lib.hid h.len
  have hcf := chartsFrom_any A n c 400 (by omega) zs w h
  clear h
  cases hC : cfB zs 400
  · have HF := Lib.hid (sg_ncf hC)
    rw [hC] at hcf
    go_enter Tryz.func97, Tryz.ntmps97
    go_wp2_with fail
    refine hcf.mono ?_
    rintro e w1 ⟨v, rfl, _, hv, hb⟩
    obtain rfl := hv trivial
    clear hv hC
    go_wp2
    go_ret2
    exact ⟨_, _, rfl, fun e => (by rw [HF.out] at e; cases e), fun _ => ⟨rfl, _, rfl⟩, hb⟩
  · have HCF := Lib.hid hC
    have hch := cf_ch hC
    obtain ⟨q, hq⟩ : ∃ q, n = q + 1 := ⟨n - 1, by have := HL.out; omega⟩
    subst hq
    rw [hC] at hcf
    have HCH := Lib.hid hch
    have hq4 : q + 1 ≤ 400 := by have := HL.out; omega
    clear hC hch
    go_enter Tryz.func97, Tryz.ntmps97
    go_wp2_with fail
    refine hcf.mono ?_
    rintro e w1 ⟨v, rfl, hv, _, hb⟩
    have hown := hv trivial
    obtain ⟨g, cp, rfl⟩ := ownsRow_succ hown
    have hg := (hown.lt g rfl).2
    have hC1 : Chs w1 g (ent zs 0).length zs := Chs.of_own (by rw [HL.out]; exact hown)
    clear hcf hv hown
    go_wp2_with fail
    refine (placed_any (H := Unit) g cp q (ent zs 0).length zs HL.out (by omega) HCH.out.2.2 w1 hg hC1).mono ?_
    rintro e w2 ⟨S, rfl, hpl, hSl, hown, hb2⟩
    have HPL := Lib.hid hpl
    have HSL := Lib.hid hSl
    have hC2 := hC1.same (hb2.block g hg)
    have hB2 := hb.trans (hb2.mono hb.size)
    have hg2 : g < w2.heap.size := by have := hb2.size; omega
    have hbs := hb.size
    have hm1 : w1.heap.size < w2.heap.size := hown.lt
    have HAT : Hid (∀ L ∈ zs, ∀ z, (mapP (H := Unit) klL S (q + 1)).atKey (klL L) z = .lit (.int .i64 (atP klL S (q + 1) L : Int))) := fun L hL z =>
      mapP_at (P := fun L => isC L = true) klL_key (fun L M hL hM e => klL_inj L M hL hM e) (fun L hL => (HCH.out.2.2 L (HPL.out.perm.mem_iff.1 hL)).1) (HCH.out.2.2 L hL).1 (q + 1) (by rw [HSL.out]; exact Nat.le_refl _) (by
        obtain ⟨i, hi, e⟩ := mem_ent (HPL.out.perm.mem_iff.2 hL)
        exact ⟨i, by rw [HSL.out] at hi; exact hi, e⟩) z
    clear hpl hSl hC1 hb hb2 hg
    go_wp2
    go_loopw [7, 8, 22] (fun _ _ i wr => ∃ k : Nat, k ≤ q + 1 ∧ i = .int .i64 (k : Int) ∧ Hid (∀ j, j < k → atP klL S (q + 1) (ent zs j) = j) ∧ wr.ownsMap Tryz.prog 58 (plainElem (H := Unit) Tryz.prog 3) w1.heap.size (q + 1) (mapP klL S (q + 1)) ∧ Chs wr g (ent zs 0).length zs ∧ g < wr.heap.size ∧ Below w.heap.size w wr) (fun _ _ i _ => q + 1 - (intOf i).toNat)
    case atStart => exact ⟨0, Nat.zero_le _, rfl, Lib.hid (fun j hj => absurd hj (Nat.not_lt_zero _)), hown, hC2, hg2, hB2⟩
    case round =>
      clear hown hC2 hg2 hB2
      obtain ⟨k, hk, rfl, HK, hown, hC, hg, hB⟩ := hrel
      by_cases hlt : k < q + 1
      · have hkl : k < zs.length := by have := HL.out; omega
        obtain ⟨L, hL⟩ : ∃ L, zs[k]? = some L := ⟨_, List.getElem?_eq_getElem hkl⟩
        obtain ⟨c0, c1, c2, c3, c4, c5, c6⟩ := hC.all hL
        have HE : Hid (ent zs k = L) := by show _ = _; unfold ent; rw [hL]; rfl
        have hmem := List.mem_of_getElem? hL
        have hLS := HCH.out.2.2 L hmem
        have HA := Lib.hid (HAT.out L hmem)
        have hkey : keyOf Tryz.prog 58 (.agg #[.int .i64 (((ent zs 0).length : Int)), .int .i64 (ofL L 0), .int .i64 (ofL L 1), .int .i64 (ofL L 2), .int .i64 (ofL L 3), .int .i64 (ofL L 4), .int .i64 (ofL L 5)]) = some (klL L) := by
          have := keyOf_L hLS.1
          rw [hLS.2] at this; exact this
        have hs := hB.size
        have hown1 := hown.alloc (.cells #[.int .i64 (((ent zs 0).length : Int)), .int .i64 (ofL L 0), .int .i64 (ofL L 1), .int .i64 (ofL L 2), .int .i64 (ofL L 3), .int .i64 (ofL L 4), .int .i64 (ofL L 5)] 58)
        have hC' := hC.same (Below.heap_alloc wr (.cells #[.int .i64 (((ent zs 0).length : Int)), .int .i64 (ofL L 0), .int .i64 (ofL L 1), .int .i64 (ofL L 2), .int .i64 (ofL L 3), .int .i64 (ofL L 4), .int .i64 (ofL L 5)] 58) g hg)
        have hB1 := hB.alloc hs (.cells #[.int .i64 (((ent zs 0).length : Int)), .int .i64 (ofL L 0), .int .i64 (ofL L 1), .int .i64 (ofL L 2), .int .i64 (ofL L 3), .int .i64 (ofL L 4), .int .i64 (ofL L 5)] 58)
        have hz : (zeroValue 3).run Tryz.prog (wr.alloc (.cells #[.int .i64 (((ent zs 0).length : Int)), .int .i64 (ofL L 0), .int .i64 (ofL L 1), .int .i64 (ofL L 2), .int .i64 (ofL L 3), .int .i64 (ofL L 4), .int .i64 (ofL L 5)] 58)) = .ok (.int .i64 0) (wr.alloc (.cells #[.int .i64 (((ent zs 0).length : Int)), .int .i64 (ofL L 0), .int .i64 (ofL L 1), .int .i64 (ofL L 2), .int .i64 (ofL L 3), .int .i64 (ofL L 4), .int .i64 (ofL L 5)] 58)) := by kernel_rfl
        clear hL hmem hLS hown hC hB
        generalize (ent zs 0).length = m at *
        by_cases hat : atP klL S (q + 1) L = k
        · have HAK : Hid (atP klL S (q + 1) L = k) := hat
          have HK2 : Hid (∀ j, j < k + 1 → atP klL S (q + 1) (ent zs j) = j) := fun j hj => by
            rcases Nat.lt_or_eq_of_le (Nat.le_of_lt_succ hj) with h' | rfl
            · exact HK.out j h'
            · rw [HE.out]; exact HAK.out
          clear hat
          go_wp2_with (at_lookup; refine wpList_lookup_own_int _ rfl _ _ 48 rfl 58 3 .i64 ch_keyed Tryz.underlying48 Tryz.underlying3 hz w1.heap.size (q + 1) _ rfl hown1 _ (klL L) rfl hkey ?_; intro z hatz hwc; obtain rfl : z = (k : Int) := (by rw [HA.out, HAK.out] at hatz; injection hatz with e1; injection e1 with _ e2; exact e2.symm))
          go_roundw
          case rel => exact ⟨k + 1, by omega, by go_num, HK2, hown1, hC', by simp; omega, hB1⟩
          case measure => simp [intOf]; omega
        · have HF : Hid (sgS zs = false) := sg_nsrt (fun hs => hat (by
            have := (placed_srt (kl := klL) HPL.out (n := m) (by have h0 := HCH.out.2.2 _ (ent_mem (show 0 < zs.length by omega)); have := (isC_len h0.1).2; omega) (fun L hL => (HCH.out.2.2 L hL).2) hs).2 k hkl
            rw [HSL.out, HE.out] at this; exact this))
          have hbe : ((atP klL S (q + 1) L : Int) != (k : Int)) = true := by rw [bne_iff_ne]; intro e; exact hat (by omega)
          clear hat hkl
          generalize atP klL S (q + 1) L = at1 at *
          go_wp2_with (at_lookup; refine wpList_lookup_own_int _ rfl _ _ 48 rfl 58 3 .i64 ch_keyed Tryz.underlying48 Tryz.underlying3 hz w1.heap.size (q + 1) _ rfl hown1 _ (klL L) rfl hkey ?_; intro z hatz hwc; obtain rfl : z = (at1 : Int) := (by rw [HA.out] at hatz; injection hatz with e1; injection e1 with _ e2; exact e2.symm))
          go_ret2
          exact ⟨_, _, rfl, fun e => (by rw [HF.out] at e; cases e), fun _ => ⟨rfl, _, rfl⟩, hB1⟩
      · obtain rfl : k = q + 1 := by omega
        have hall := placed_all (kl := klL) HPL.out (n := (ent zs 0).length) (by have := (isC_len (HCH.out.2.2 _ (ent_mem (show 0 < zs.length by have := HL.out; omega))).1).2; exact this) (fun L hL => (HCH.out.2.2 L hL).2) (fun i hi => (congrArg (fun t => atP klL S t (ent zs i)) HSL.out).trans (HK.out i (by have := HL.out; omega)))
        have HS : Hid (S = zs) := hall.1
        have HG := Lib.hid (sg_clB HCF.out hall.2)
        have HDH : Hid (∀ x, Maps.has (mapP (H := Unit) klL S (q + 1)) x = true ↔ ∃ L, L ∈ zs ∧ klL L = x) := fun x => by
          rw [mapP_has klL_key (q + 1) (by rw [HSL.out]; exact Nat.le_refl _), HS.out]
          constructor
          · rintro ⟨i, hi, e⟩; exact ⟨_, ent_mem (by have := HL.out; omega), e⟩
          · rintro ⟨L, hL, e⟩
            obtain ⟨i, hi, e2⟩ := mem_ent hL
            exact ⟨i, by have := HL.out; omega, by rw [e2]; exact e⟩
        clear hall
        go_wp2_with fail
        refine (closed_any w1.heap.size (q + 1) (ent zs 0).length zs HCH.out.2.2 _ HDH.out wr hown).mono ?_
        rintro e w5 ⟨rfl, hb5⟩
        have hown5 := ownsMap_same hown (hb5.block _ hown.lt)
        have hB5 := hB.trans (hb5.mono hB.size)
        clear hown hC hB hb5
        cases hcl : clB zs
        · have HF : Hid (sgS zs = false) := HG.out.trans hcl
          go_wp2
          go_ret2
          exact ⟨_, _, rfl, fun e => (by rw [HF.out] at e; cases e), fun _ => ⟨rfl, _, rfl⟩, hB5⟩
        · have HT : Hid (sgS zs = true) := HG.out.trans hcl
          go_wp2
          go_ret2
          exact ⟨_, _, rfl, fun _ => ⟨rfl, _, rfl, hbs, by rw [HS.out] at hown5; rw [HL.out]; exact hown5⟩, fun e => (by rw [HT.out] at e; cases e), hB5⟩

/-- the map of a list's semigroup, or none -/
def ToldPost (zs : List (List Int)) (w : World) (v : Value) (w' : World) : Prop :=
  (sgS zs = true → ∃ b, v = .map (some b) ∧ w.heap.size ≤ b ∧ w'.ownsMap Tryz.prog 58 (plainElem (H := Unit) Tryz.prog 3) b zs.length (mapP klL zs zs.length)) ∧ (sgS zs = false → v = .map none) ∧ Below w.heap.size w w'
set_option maxHeartbeats 1000000 in
theorem told_any (A : Option Addr) (n c : Nat) (zs : List (List Int)) (w : World) (h : RSS w A n zs) (hg : EtAt w) :
    Calls Tryz.prog 53 #[.slice A n c] w fun e w' => ∃ v, e = .returned (.tuple #[v, .bool (sgS zs)]) ∧ ToldPost zs w v w' := by
  have hsg := sgFrom_any A n c zs w h
  clear h
  go_enter Tryz.func53, Tryz.ntmps53
  go_wp2_with fail
  refine hsg.mono ?_
  rintro e w1 ⟨v, err, rfl, hy, hno, hb⟩
  cases hS : sgS zs
  · obtain ⟨rfl, s, rfl⟩ := hno hS
    have hg1 := hg.below hb
    clear hy hno hg hsg
    go_wp2_with fail
    refine (isNone_hit s w1 hg1).mono ?_
    rintro e w2 ⟨rfl, hb2⟩
    go_wp2
    go_ret2
    exact ⟨_, by rw [hS]; rfl, fun e => (by rw [hS] at e; cases e), fun _ => rfl, hb.trans (hb2.mono hb.size)⟩
  · obtain ⟨rfl, b, rfl, hbl, hown⟩ := hy hS
    clear hy hno hg hsg
    go_wp2_with fail
    refine (isNone_nil w1).mono ?_
    rintro e w2 ⟨rfl, hb2⟩
    go_wp2
    go_ret2
    exact ⟨_, by rw [hS]; rfl, fun _ => ⟨b, rfl, hbl, ownsMap_same hown (hb2.block b hown.lt)⟩, fun e => (by rw [hS] at e; cases e), hb.trans (hb2.mono hb.size)⟩
set_option maxHeartbeats 1000000 in
theorem implSgIn_any (A : Option Addr) (n c : Nat) (zs : List (List Int)) (w : World) (h : RSS w A n zs) (hg : EtAt w) :
    Calls Tryz.prog 37 #[.slice A n c] w fun e w' => e = .returned (.bool (sgS zs)) ∧ Below w.heap.size w w' := by
  have hsg := told_any A n c zs w h hg
  clear h hg
  generalize hr : sgS zs = r at *
  have HR := Lib.hid hr
  clear hr
  go_enter Tryz.func37, Tryz.ntmps37
  go_wp2_with fail
  refine hsg.mono ?_
  rintro e w1 ⟨v, rfl, hy, hno, hb⟩
  cases r
  · obtain rfl := hno HR.out
    go_wp2
    go_ret
    exact ⟨rfl, hb⟩
  · obtain ⟨b, rfl, _⟩ := hy HR.out
    go_wp2
    go_ret
    exact ⟨rfl, hb⟩
end

end Go.Proofs.YtkfiehndlgplgaaGreatDoor
