/-
  ClS.
-/
import Derived.Test.YtigapanfihpgaaaGreatDoorOA
import Derived.Test.YtigapanfihpgaaaGreatDoorOC
namespace Go.Proofs.YtigapanfihpgaaaGreatDoor
set_option maxRecDepth 100000
set_option linter.unusedVariables false
set_option linter.unusedSimpArgs false
set_option linter.unusedSectionVars false

/-! spec.SemigroupClasses. -/
section
open Go.RowKit

/-- the counts, when the first j of three numbers have been counted up where it holds -/
def upF (f : Nat → Bool) (g : Nat → Int) (j t : Nat) : Int := if t < j ∧ f t = true then g t + 1 else g t
theorem upF_no {f : Nat → Bool} {g : Nat → Int} {j : Nat} (h : f j = false) : ∀ t, upF f g (j + 1) t = upF f g j t := fun t => by
  unfold upF
  by_cases e : t = j
  · subst e; simp [h]
  · by_cases ht : t < j
    · simp [ht, show t < j + 1 by omega]
    · simp [ht, show ¬ t < j + 1 by omega]
theorem upF_yes {f : Nat → Bool} {g : Nat → Int} {j : Nat} (h : f j = true) : ∀ t, upF f g (j + 1) t = if t = j then g j + 1 else upF f g j t := fun t => by
  unfold upF
  by_cases e : t = j
  · subst e; simp [h]
  · rw [if_neg e]
    by_cases ht : t < j
    · simp [ht, show t < j + 1 by omega]
    · simp [ht, show ¬ t < j + 1 by omega]
def three {α : Type} (a b c : α) : Nat → α
  | 0 => a
  | 1 => b
  | _ => c
/-- the three counts of the first k charts -/
def cnt3 (zs : List (List Int)) (k : Nat) : Nat → Int := three (clN smD zs k : Int) (clN smR zs k : Int) (clN smE zs k : Int)
def fre3 (zs : List (List Int)) (i k : Nat) : Nat → Bool := three (frB smD zs i k) (frB smR zs i k) (frB smE zs i k)
theorem cnt3_step (zs : List (List Int)) (k : Nat) : ∀ t, t < 3 → upF (fre3 zs k k) (cnt3 zs k) 3 t = cnt3 zs (k + 1) t := fun t ht => by
  unfold upF fre3 cnt3
  have h : ∀ sm, (clN sm zs (k + 1) : Int) = if frB sm zs k k = true then (clN sm zs k : Int) + 1 else (clN sm zs k : Int) := fun sm => by
    rw [clN]; split <;> simp
  match t, ht with
  | 0, _ => simp [three, h]
  | 1, _ => simp [three, h]
  | 2, _ => simp [three, h]
  | t + 3, h => omega
theorem cnt3_le (zs : List (List Int)) {k : Nat} (hk : k ≤ 1048576) (t : Nat) : 0 ≤ cnt3 zs k t ∧ cnt3 zs k t ≤ 1048576 := by
  have h : ∀ sm, (0 : Int) ≤ (clN sm zs k : Int) ∧ (clN sm zs k : Int) ≤ 1048576 := fun sm => by
    have := clN_le (sm := sm) (zs := zs) k
    omega
  unfold cnt3
  match t with
  | 0 => exact h _
  | 1 => exact h _
  | t + 2 => exact h _

theorem l1Domain_c (A : Option Addr) (n c : Nat) (L : List Int) (w : World) (h : RI w A n L) (hC : isC L = true) :
    Calls Tryz.prog 86 #[.slice A n c] w fun e w' => e = .returned (.int .i64 (dmN L : Nat)) ∧ ∃ q, w' = w.drewN q := by
  obtain rfl := h.len
  exact (l1Domain_any A _ c L w h (isC_len hC).2 (isC_ent hC)).mono fun e w' h => ⟨h.1, 0, h.2.symm⟩

set_option maxHeartbeats 8000000 in
theorem specClasses_any (A : Option Addr) (n c : Nat) (zs : List (List Int)) (w : World) (h : RSS w A n zs) (hn : n ≤ 1048576) (hl : ∀ L ∈ zs, L.length ≤ 1048576) :
    Calls Tryz.prog 34 #[.slice A n c] w fun e w' => ∃ v, e = .returned (.tuple #[v, .bool (sgS zs)]) ∧ w'.ownsRow w.heap.size 3 1 v (clsL zs).length (ivs (clsL zs)) ∧ Below w.heap.size w w' := by
  have hsg := specSg_any A n c zs w h hn hl
  cases hS : sgS zs
  · have HI : Hid (clsL zs = []) := by show _ = _; unfold clsL; rw [hS]; rfl
    rw [hS] at hsg
    clear hS h hl
    go_enter Tryz.func34, Tryz.ntmps34
    go_wp2_with fail
    refine hsg.mono ?_
    rintro e w1 ⟨rfl, hb⟩
    have hL0 : (w1.alloc (.cells #[] 3)).ownsRow w.heap.size 3 1 (.slice (some ⟨w1.heap.size, 0, none⟩) 0 0) 0 [] := World.ownsRow_lit (base := w.heap.size) (e := 3) (size := 1) w1 #[] 0 hb.size (by simp [maxLen]) rfl
    have hB := hb.alloc hb.size (.cells #[] 3)
    go_wp2
    go_ret2
    exact ⟨_, rfl, by rw [HI.out]; exact hL0, hB⟩
  · have S := sgS_iff.1 hS
    have HI : Hid (ivs (clsL zs) = ivs (LT 3 (cnt3 zs zs.length)) ∧ (clsL zs).length = 3) := by
      constructor
      · unfold clsL; rw [hS]; rfl
      · unfold clsL; rw [hS]; rfl
    have HCH := Lib.hid S.ch
    have HL := Lib.hid h.len
    have HR := Lib.hid h
    rw [hS] at hsg
    clear hS h hl S
    go_enter Tryz.func34, Tryz.ntmps34
    go_wp2_with fail
    refine hsg.mono ?_
    rintro e w2 ⟨rfl, hB2⟩
    have hs2 := hB2.size
    have hr0 : (w2.alloc (.cells #[.int .i64 0, .int .i64 0, .int .i64 0] 3)).ownsRow w2.heap.size 3 1 (.slice (some ⟨w2.heap.size, 0, none⟩) 3 3) 3 (ivs (LT 3 (cnt3 zs 0))) := World.ownsRow_lit (base := w2.heap.size) (e := 3) (size := 1) w2 #[.int .i64 0, .int .i64 0, .int .i64 0] 3 (Nat.le_refl _) (by simp [maxLen]) rfl
    have hB3 := hB2.alloc hs2 (.cells #[.int .i64 0, .int .i64 0, .int .i64 0] 3)
    clear hsg hB2
    go_wp2
    generalize w2.heap.size = O at *
    go_loopw [5] (fun s wr => ∃ i : Nat, i ≤ n ∧ s = .int .i64 (i : Int) ∧ wr.ownsRow O 3 1 (.slice (some ⟨O, 0, none⟩) 3 3) 3 (ivs (LT 3 (cnt3 zs i))) ∧ Below w.heap.size w wr) (fun s _ => n - (intOf s).toNat)
    case atStart => exact ⟨0, Nat.zero_le _, rfl, hr0, hB3⟩
    case round =>
      clear hr0 hB3
      obtain ⟨i, hi, rfl, hrow, hbel⟩ := hrel
      have hO := (hrow.lt O rfl).2
      by_cases hlti : i < n
      · have hil : i < zs.length := by have := HL.out; omega
        have hs := hbel.size
        have hf0 : ∀ t, t < 3 → (wr.alloc (.cells #[.bool true, .bool true, .bool true] 4)).cell? ⟨wr.heap.size, t, none⟩ = some (.bool (fre3 zs i 0 t)) := fun t ht => by
          rw [World.cell?_alloc_new]
          match t, ht with
          | 0, _ => rfl
          | 1, _ => rfl
          | 2, _ => rfl
          | t + 3, h => omega
        have hrow1 := hrow.alloc (.cells #[.bool true, .bool true, .bool true] 4)
        have hbel1 := hbel.alloc hs (.cells #[.bool true, .bool true, .bool true] 4)
        have hFO : wr.heap.size ≠ O := by omega
        have hFl : wr.heap.size < (wr.alloc (.cells #[.bool true, .bool true, .bool true] 4)).heap.size := by simp
        clear hrow hbel
        go_wp2
        go_loopw [6, 7] (fun r s wq => ∃ (k F : Nat), k ≤ i ∧ r = .slice (some ⟨F, 0, none⟩) 3 3 ∧ s = .int .i64 (k : Int) ∧ Hid (∀ t, t < 3 → wq.cell? ⟨F, t, none⟩ = some (.bool (fre3 zs i k t))) ∧ F ≠ O ∧ wq.ownsRow O 3 1 (.slice (some ⟨O, 0, none⟩) 3 3) 3 (ivs (LT 3 (cnt3 zs i))) ∧ Below w.heap.size w wq) (fun _ s _ => i - (intOf s).toNat)
        case atStart => exact ⟨0, _, Nat.zero_le _, rfl, rfl, Lib.hid hf0, hFO, hrow1, hbel1⟩
        case round =>
          clear hf0 hrow1 hbel1 hFO hFl hs
          obtain ⟨k, F, hk, rfl, rfl, HF, hFO, hrow, hbel⟩ := hrel
          by_cases hltk : k < i
          · have hkn : k < n := by omega
            have hkl : k < zs.length := by have := HL.out; omega
            have hR := HR.out.below hbel
            obtain ⟨ad, Ai, ci, rfl, hab, hci, hri⟩ := hR.at_ hlti
            obtain ⟨ad', Ak, ck, he, hab', hck, hrk⟩ := hR.at_ hkn
            obtain rfl := Option.some.inj he
            have hei : zs[i]?.getD [] = ent zs i := rfl
            have hek : zs[k]?.getD [] = ent zs k := rfl
            have e1 := HCH.out _ (ent_mem hil)
            have e2 := HCH.out _ (ent_mem hkl)
            rw [hei, e1.2] at hci hri
            rw [hek, e2.2] at hck hrk
            have HI1 := Lib.hid e1.1
            have HI2 := Lib.hid e2.1
            have HC1 : Hid (∀ j, Calls Tryz.prog 86 #[.slice Ai (ent zs 0).length ci] (wr.drewN j) fun e w' => e = .returned (.int .i64 (dmN (ent zs i) : Nat)) ∧ ∃ m, w' = wr.drewN m) := fun j => (l1Domain_c _ _ _ _ _ (hri.drawn j) e1.1).mono fun e w' h => ⟨h.1, by obtain ⟨q, hq⟩ := h.2; exact ⟨j + q, by rw [hq]; exact World.drewN_drewN _ _ _⟩⟩
            have HC2 : Hid (∀ j, Calls Tryz.prog 86 #[.slice Ak (ent zs 0).length ck] (wr.drewN j) fun e w' => e = .returned (.int .i64 (dmN (ent zs k) : Nat)) ∧ ∃ m, w' = wr.drewN m) := fun j => (l1Domain_c _ _ _ _ _ (hrk.drawn j) e2.1).mono fun e w' h => ⟨h.1, by obtain ⟨q, hq⟩ := h.2; exact ⟨j + q, by rw [hq]; exact World.drewN_drewN _ _ _⟩⟩
            obtain ⟨a, ha⟩ : ∃ a, smD (ent zs i) (ent zs k) = a := ⟨_, rfl⟩
            obtain ⟨b, hb⟩ : ∃ b, smR (ent zs i) (ent zs k) = b := ⟨_, rfl⟩
            have hba : (((dmN (ent zs i) : Nat) : Int) == ((dmN (ent zs k) : Nat) : Int)) = a := by rw [← ha]; unfold smD; rw [Bool.eq_iff_iff, beq_iff_eq, decide_eq_true_eq]; omega
            have hbb : (((dmN (tuL (ent zs i)) : Nat) : Int) == ((dmN (tuL (ent zs k)) : Nat) : Int)) = b := by rw [← hb]; unfold smR; rw [Bool.eq_iff_iff, beq_iff_eq, decide_eq_true_eq]; omega
            have HX0 : Hid (fre3 zs i (k + 1) 0 = (fre3 zs i k 0 && !a)) := by show (frB smD zs i k && !smD (ent zs i) (ent zs k)) = _; rw [ha]; rfl
            have HX1 : Hid (fre3 zs i (k + 1) 1 = (fre3 zs i k 1 && !b)) := by show (frB smR zs i k && !smR (ent zs i) (ent zs k)) = _; rw [hb]; rfl
            have HX2 : Hid (fre3 zs i (k + 1) 2 = (fre3 zs i k 2 && !(a && b))) := by show (frB smE zs i k && !smE (ent zs i) (ent zs k)) = _; unfold smE; rw [ha, hb]; rfl
            have hT1 : (tuL (ent zs i)).length = (ent zs 0).length := (tuL_len e1.1).trans e1.2
            have hT2 : (tuL (ent zs k)).length = (ent zs 0).length := (tuL_len e2.1).trans e2.2
            have HT1 := Lib.hid hT1
            have HT2 := Lib.hid hT2
            have HU1 := Lib.hid (tuL_isC e1.1)
            have HU2 := Lib.hid (tuL_isC e2.1)
            clear hei hek e1 e2 he hab hab' hkl hR hT1 hT2 ha hb
            generalize (ent zs 0).length = l0 at *
            have HROW := Lib.hid hrow
            have HBEL := Lib.hid hbel
            have HRI := Lib.hid hri
            have HRK := Lib.hid hrk
            have HCI := Lib.hid hci
            have HCK := Lib.hid hck
            clear hrow hbel hri hrk
            go_wp2
            go_quiet (with_reducible first | exact HC1.out _ | exact HC2.out _)
            all_goals go_wp2
            all_goals
              have hci : (wr.drewN nq).cell? (ad.add i) = some (.slice Ai l0 ci) := HCI.out
              have hck : (wr.drewN nq).cell? (ad.add k) = some (.slice Ak l0 ck) := HCK.out
              have hri := HRI.out.drawn nq
              have hrk := HRK.out.drawn nq
              have hS := below_drewN (Below.refl wr.heap.size wr) nq
              clear HC1 HC2
              generalize wr.drewN nq = W2 at *
              have tok1 : True := trivial
              have tok2 : True := trivial
              have tok3 : True := trivial
              have tok4 : True := trivial
              go_region_held3 (fun w' => w'.cell? (ad.add i) = some (.slice Ai l0 ci) ∧ w'.cell? (ad.add k) = some (.slice Ak l0 ck))
                (first | exact ⟨by assumption, by assumption⟩ | go_keep)
                (first
                  | (go_at_call 87
                     have _t := tok1
                     with_reducible refine (l1Tu_any Ai l0 ci (ent zs i) _ ?_ HI1.out).mono ?_
                     · exact hri.heap rfl
                     rintro e w1 ⟨v1, rfl, hown1, hb1⟩
                     obtain ⟨B1, c1, rfl⟩ := own_slice hown1
                     have hrT1 := RI.of_own hown1
                     have hci := cell_keep hb1 hci rfl
                     have hck := cell_keep hb1 hck rfl
                     have hri := ri_keep hb1 hri rfl
                     have hrk := ri_keep hb1 hrk rfl
                     have hS := bel_keep hb1 hS rfl rfl rfl rfl hS.size
                     try have hrT2 := ri_keep hb1 hrT2 rfl
                     clear tok1 _t hown1 hb1)
                  | (go_at_call 87
                     have _t := tok2
                     with_reducible refine (l1Tu_any Ak l0 ck (ent zs k) _ ?_ HI2.out).mono ?_
                     · exact hrk.heap rfl
                     rintro e w1 ⟨v2, rfl, hown2, hb1⟩
                     obtain ⟨B2, c2, rfl⟩ := own_slice hown2
                     have hrT2 := RI.of_own hown2
                     have hci := cell_keep hb1 hci rfl
                     have hck := cell_keep hb1 hck rfl
                     have hri := ri_keep hb1 hri rfl
                     have hrk := ri_keep hb1 hrk rfl
                     have hS := bel_keep hb1 hS rfl rfl rfl rfl hS.size
                     try have hrT1 := ri_keep hb1 hrT1 rfl
                     clear tok2 _t hown2 hb1)
                  | (go_at_call 86
                     have _t := tok3
                     with_reducible refine (l1Domain_c B1 (tuL (ent zs i)).length c1 (tuL (ent zs i)) _ ?_ HU1.out).mono ?_
                     · exact hrT1.heap rfl
                     rintro e w1 ⟨rfl, hq1⟩
                     have hb1 := below_of_drewN hq1
                     have hci := cell_keep hb1 hci rfl
                     have hck := cell_keep hb1 hck rfl
                     try have hri := ri_keep hb1 hri rfl
                     try have hrk := ri_keep hb1 hrk rfl
                     have hS := bel_keep hb1 hS rfl rfl rfl rfl hS.size
                     try have hrT2 := ri_keep hb1 hrT2 rfl
                     clear tok3 _t hb1 hq1)
                  | (go_at_call 86
                     have _t := tok4
                     with_reducible refine (l1Domain_c B2 (tuL (ent zs k)).length c2 (tuL (ent zs k)) _ ?_ HU2.out).mono ?_
                     · exact hrT2.heap rfl
                     rintro e w1 ⟨rfl, hq1⟩
                     have hb1 := below_of_drewN hq1
                     have hci := cell_keep hb1 hci rfl
                     have hck := cell_keep hb1 hck rfl
                     try have hri := ri_keep hb1 hri rfl
                     try have hrk := ri_keep hb1 hrk rfl
                     have hS := bel_keep hb1 hS rfl rfl rfl rfl hS.size
                     try have hrT1 := ri_keep hb1 hrT1 rfl
                     clear tok4 _t hb1 hq1))
            all_goals
              have HFC := HF.out
              have f0 := (hS.cell (block_lt_of_cell (HFC 0 (by omega)))).trans (HFC 0 (by omega))
              have f1 := (hS.cell (block_lt_of_cell (HFC 1 (by omega)))).trans (HFC 1 (by omega))
              have f2 := (hS.cell (block_lt_of_cell (HFC 2 (by omega)))).trans (HFC 2 (by omega))
              have hbelW := HBEL.out.trans (hS.mono HBEL.out.size)
              have hrowW := own_below HROW.out hS
              have hFW : F < w1.heap.size := by have := block_lt_of_cell f0; exact this
              have hOW := (hrowW.lt O rfl).2
              clear HFC hS hci hck HCI HCK HRI HRK HROW HBEL HT1 HT2 HU1 HU2 HI1 HI2 hba hbb
              try clear hrT1
              try clear hrT2
              generalize fre3 zs i k = fx at *
              have h0c := Bool.eq_false_or_eq_true (fx 0)
              have h1c := Bool.eq_false_or_eq_true (fx 1)
              have h2c := Bool.eq_false_or_eq_true (fx 2)
              -- REGION 13
              go_wp2
              refine wp_region_held_drew (S := fun w' => w'.cell? ⟨F, 0, none⟩ = some (.bool (fx 0)) ∧ w'.cell? ⟨F, 1, none⟩ = some (.bool (fx 1)) ∧ w'.cell? ⟨F, 2, none⟩ = some (.bool (fx 2))) (by kernel_rfl) ?_ (fun hHeld => ?_)
              · exact ⟨f0, f1, f2⟩
              refine wpAnyH_take (i := 0) (v := .slice (some ⟨F, 0, none⟩) 3 3) (by rw [List.getElem?_toArray]; rfl) (by kernel_rfl) (by kernel_rfl) (by kernel_rfl) (by exact fun _ _ _ h => h) (Or.inl ⟨by rfl, fun w hSw => by go_simp⟩) (by assumption) ?_
              try simp only [Act.put, List.setIfInBounds_toArray, List.set_cons_zero, List.set_cons_succ]
              refine wpAnyH_take (i := 1) (v := .pointer (some ⟨F, 0, none⟩)) (by rw [List.getElem?_toArray]; rfl) (by kernel_rfl) (by kernel_rfl) (by kernel_rfl) (by exact fun _ _ _ h => h) (Or.inl ⟨by rfl, fun w hSw => by go_simp⟩) (by assumption) ?_
              try simp only [Act.put, List.setIfInBounds_toArray, List.set_cons_zero, List.set_cons_succ]
              refine wpAnyH_take (i := 2) (v := .bool (fx 0)) (by rw [List.getElem?_toArray]; rfl) (by kernel_rfl) (by kernel_rfl) (by kernel_rfl) (by exact fun _ _ _ h => h) (Or.inl ⟨by rfl, fun w hSw => by obtain ⟨s0, s1, s2⟩ := hSw; go_simp⟩) (by assumption) ?_
              try simp only [Act.put, List.setIfInBounds_toArray, List.set_cons_zero, List.set_cons_succ]
              refine wpAnyH_take (i := 7) (v := .slice (some ⟨F, 0, none⟩) 3 3) (by rw [List.getElem?_toArray]; rfl) (by kernel_rfl) (by kernel_rfl) (by kernel_rfl) (by exact fun _ _ _ h => h) (Or.inl ⟨by rfl, fun w hSw => by go_simp⟩) (by assumption) ?_
              try simp only [Act.put, List.setIfInBounds_toArray, List.set_cons_zero, List.set_cons_succ]
              refine wpAnyH_take (i := 8) (v := .pointer (some ⟨F, 1, none⟩)) (by rw [List.getElem?_toArray]; rfl) (by kernel_rfl) (by kernel_rfl) (by kernel_rfl) (by exact fun _ _ _ h => h) (Or.inl ⟨by rfl, fun w hSw => by go_simp⟩) (by assumption) ?_
              try simp only [Act.put, List.setIfInBounds_toArray, List.set_cons_zero, List.set_cons_succ]
              refine wpAnyH_take (i := 9) (v := .bool (fx 1)) (by rw [List.getElem?_toArray]; rfl) (by kernel_rfl) (by kernel_rfl) (by kernel_rfl) (by exact fun _ _ _ h => h) (Or.inl ⟨by rfl, fun w hSw => by obtain ⟨s0, s1, s2⟩ := hSw; go_simp⟩) (by assumption) ?_
              try simp only [Act.put, List.setIfInBounds_toArray, List.set_cons_zero, List.set_cons_succ]
              refine wpAnyH_take (i := 14) (v := .slice (some ⟨F, 0, none⟩) 3 3) (by rw [List.getElem?_toArray]; rfl) (by kernel_rfl) (by kernel_rfl) (by kernel_rfl) (by exact fun _ _ _ h => h) (Or.inl ⟨by rfl, fun w hSw => by go_simp⟩) (by assumption) ?_
              try simp only [Act.put, List.setIfInBounds_toArray, List.set_cons_zero, List.set_cons_succ]
              refine wpAnyH_take (i := 15) (v := .pointer (some ⟨F, 2, none⟩)) (by rw [List.getElem?_toArray]; rfl) (by kernel_rfl) (by kernel_rfl) (by kernel_rfl) (by exact fun _ _ _ h => h) (Or.inl ⟨by rfl, fun w hSw => by go_simp⟩) (by assumption) ?_
              try simp only [Act.put, List.setIfInBounds_toArray, List.set_cons_zero, List.set_cons_succ]
              refine wpAnyH_take (i := 16) (v := .bool (fx 2)) (by rw [List.getElem?_toArray]; rfl) (by kernel_rfl) (by kernel_rfl) (by kernel_rfl) (by exact fun _ _ _ h => h) (Or.inl ⟨by rfl, fun w hSw => by obtain ⟨s0, s1, s2⟩ := hSw; go_simp⟩) (by assumption) ?_
              try simp only [Act.put, List.setIfInBounds_toArray, List.set_cons_zero, List.set_cons_succ]
              rcases h0c with h0 | h0
              · refine wpAnyH_take (i := 3) (v := .bool true) (by rw [List.getElem?_toArray]; rfl) (by kernel_rfl) (by kernel_rfl) (by kernel_rfl) (by exact fun _ _ _ h => h) (Or.inl ⟨by rfl, fun w hSw => by go_simp⟩) (by assumption) ?_
                try simp only [Act.put, List.setIfInBounds_toArray, List.set_cons_zero, List.set_cons_succ]
                refine wpAnyH_take (i := 4) (v := .bool a) (by rw [List.getElem?_toArray]; rfl) (by kernel_rfl) (by kernel_rfl) (by kernel_rfl) (by exact fun _ _ _ h => h) (Or.inl ⟨by rfl, fun w hSw => by go_simp⟩) (by assumption) ?_
                try simp only [Act.put, List.setIfInBounds_toArray, List.set_cons_zero, List.set_cons_succ]
                refine wpAnyH_take (i := 5) (v := .bool (!a)) (by rw [List.getElem?_toArray]; rfl) (by kernel_rfl) (by kernel_rfl) (by kernel_rfl) (by exact fun _ _ _ h => h) (Or.inl ⟨by rfl, fun w hSw => by go_simp⟩) (by assumption) ?_
                try simp only [Act.put, List.setIfInBounds_toArray, List.set_cons_zero, List.set_cons_succ]
                refine wpAnyH_take (i := 6) (v := .bool (!a)) (by rw [List.getElem?_toArray]; rfl) (by kernel_rfl) (by kernel_rfl) (by kernel_rfl) (by exact fun _ _ _ h => h) (Or.inl ⟨by rfl, fun w hSw => by go_simp⟩) (by assumption) ?_
                try simp only [Act.put, List.setIfInBounds_toArray, List.set_cons_zero, List.set_cons_succ]
                rcases h1c with h1 | h1
                · refine wpAnyH_take (i := 10) (v := .bool true) (by rw [List.getElem?_toArray]; rfl) (by kernel_rfl) (by kernel_rfl) (by kernel_rfl) (by exact fun _ _ _ h => h) (Or.inl ⟨by rfl, fun w hSw => by go_simp⟩) (by assumption) ?_
                  try simp only [Act.put, List.setIfInBounds_toArray, List.set_cons_zero, List.set_cons_succ]
                  refine wpAnyH_take (i := 11) (v := .bool b) (by rw [List.getElem?_toArray]; rfl) (by kernel_rfl) (by kernel_rfl) (by kernel_rfl) (by exact fun _ _ _ h => h) (Or.inl ⟨by rfl, fun w hSw => by go_simp⟩) (by assumption) ?_
                  try simp only [Act.put, List.setIfInBounds_toArray, List.set_cons_zero, List.set_cons_succ]
                  refine wpAnyH_take (i := 12) (v := .bool (!b)) (by rw [List.getElem?_toArray]; rfl) (by kernel_rfl) (by kernel_rfl) (by kernel_rfl) (by exact fun _ _ _ h => h) (Or.inl ⟨by rfl, fun w hSw => by go_simp⟩) (by assumption) ?_
                  try simp only [Act.put, List.setIfInBounds_toArray, List.set_cons_zero, List.set_cons_succ]
                  refine wpAnyH_take (i := 13) (v := .bool (!b)) (by rw [List.getElem?_toArray]; rfl) (by kernel_rfl) (by kernel_rfl) (by kernel_rfl) (by exact fun _ _ _ h => h) (Or.inl ⟨by rfl, fun w hSw => by go_simp⟩) (by assumption) ?_
                  try simp only [Act.put, List.setIfInBounds_toArray, List.set_cons_zero, List.set_cons_succ]
                  rcases h2c with h2 | h2
                  · refine wpAnyH_take (i := 17) (v := .bool true) (by rw [List.getElem?_toArray]; rfl) (by kernel_rfl) (by kernel_rfl) (by kernel_rfl) (by exact fun _ _ _ h => h) (Or.inl ⟨by rfl, fun w hSw => by go_simp⟩) (by assumption) ?_
                    try simp only [Act.put, List.setIfInBounds_toArray, List.set_cons_zero, List.set_cons_succ]
                    refine wpAnyH_take (i := 18) (v := .bool a) (by rw [List.getElem?_toArray]; rfl) (by kernel_rfl) (by kernel_rfl) (by kernel_rfl) (by exact fun _ _ _ h => h) (Or.inl ⟨by rfl, fun w hSw => by go_simp⟩) (by assumption) ?_
                    try simp only [Act.put, List.setIfInBounds_toArray, List.set_cons_zero, List.set_cons_succ]
                    refine wpAnyH_take (i := 19) (v := .bool a) (by rw [List.getElem?_toArray]; rfl) (by kernel_rfl) (by kernel_rfl) (by kernel_rfl) (by exact fun _ _ _ h => h) (Or.inl ⟨by rfl, fun w hSw => by go_simp⟩) (by assumption) ?_
                    try simp only [Act.put, List.setIfInBounds_toArray, List.set_cons_zero, List.set_cons_succ]
                    cases a
                    · refine wpAnyH_take (i := 20) (v := undef) (by rw [List.getElem?_toArray]; rfl) (by kernel_rfl) (by kernel_rfl) (by kernel_rfl) (by exact fun _ _ _ h => h) (Or.inr ⟨by kernel_rfl, rfl⟩) (by assumption) ?_
                      try simp only [Act.put, List.setIfInBounds_toArray, List.set_cons_zero, List.set_cons_succ]
                      refine wpAnyH_take (i := 21) (v := .bool false) (by rw [List.getElem?_toArray]; rfl) (by kernel_rfl) (by kernel_rfl) (by kernel_rfl) (by exact fun _ _ _ h => h) (Or.inl ⟨by rfl, fun w hSw => by go_simp⟩) (by assumption) ?_
                      try simp only [Act.put, List.setIfInBounds_toArray, List.set_cons_zero, List.set_cons_succ]
                      refine wpAnyH_take (i := 22) (v := .bool true) (by rw [List.getElem?_toArray]; rfl) (by kernel_rfl) (by kernel_rfl) (by kernel_rfl) (by exact fun _ _ _ h => h) (Or.inl ⟨by rfl, fun w hSw => by go_simp⟩) (by assumption) ?_
                      try simp only [Act.put, List.setIfInBounds_toArray, List.set_cons_zero, List.set_cons_succ]
                      refine wpAnyH_take (i := 23) (v := .bool true) (by rw [List.getElem?_toArray]; rfl) (by kernel_rfl) (by kernel_rfl) (by kernel_rfl) (by exact fun _ _ _ h => h) (Or.inl ⟨by rfl, fun w hSw => by go_simp⟩) (by assumption) ?_
                      try simp only [Act.put, List.setIfInBounds_toArray, List.set_cons_zero, List.set_cons_succ]
                      refine wpAnyH_ready (rs := [24]) (by kernel_rfl) (by simp) ?_
                      refine AllReadyH.cons (o := _) (by rw [List.getElem?_toArray]; rfl) (fun K hK => ?_) AllReadyH.nil
                      go_simp
                      refine hK.out _ _ ?_ (fun hHeld2 => ?_)
                      · exact ⟨(World.cell?_alloc_lt _ _ _ hFW).trans f0, (World.cell?_alloc_lt _ _ _ hFW).trans f1, (World.cell?_alloc_lt _ _ _ hFW).trans f2⟩
                      clear hK K
                      try simp only [Act.put, List.setIfInBounds_toArray, List.set_cons_zero, List.set_cons_succ]
                      refine wpAnyH_take (i := 25) (v := .slice (some ⟨w1.heap.size, 0, none⟩) 3 3) (by rw [List.getElem?_toArray]; rfl) (by kernel_rfl) (by kernel_rfl) (by kernel_rfl) (by exact fun _ _ _ h => h) (Or.inl ⟨by rfl, fun w hSw => by go_simp⟩) (by assumption) ?_
                      try simp only [Act.put, List.setIfInBounds_toArray, List.set_cons_zero, List.set_cons_succ]
                      refine wpAnyH_done (by kernel_rfl) ?_ _
                      go_wp2
                      go_roundw
                      case rel =>
                        refine ⟨k + 1, w1.heap.size, by omega, rfl, by go_num, Lib.hid (fun t ht => ?_), by omega, ?_, ?_⟩
                        · show (w1.alloc _).cell? _ = _
                          rw [World.cell?_alloc_new]
                          match t, ht with
                          | 0, _ => rw [HX0.out, h0]; rfl
                          | 1, _ => rw [HX1.out, h1]; rfl
                          | 2, _ => rw [HX2.out, h2]; rfl
                          | t + 3, h => omega
                        · first | exact hrowW.alloc _ | exact own_below (hrowW.alloc _) (Below.refl _ _).drew
                        · exact (hbelW.alloc hbelW.size _).drew
                      case measure => simp [intOf]; omega
                    · refine wpAnyH_take (i := 20) (v := .bool b) (by rw [List.getElem?_toArray]; rfl) (by kernel_rfl) (by kernel_rfl) (by kernel_rfl) (by exact fun _ _ _ h => h) (Or.inl ⟨by rfl, fun w hSw => by go_simp⟩) (by assumption) ?_
                      try simp only [Act.put, List.setIfInBounds_toArray, List.set_cons_zero, List.set_cons_succ]
                      refine wpAnyH_take (i := 21) (v := .bool b) (by rw [List.getElem?_toArray]; rfl) (by kernel_rfl) (by kernel_rfl) (by kernel_rfl) (by exact fun _ _ _ h => h) (Or.inl ⟨by rfl, fun w hSw => by go_simp⟩) (by assumption) ?_
                      try simp only [Act.put, List.setIfInBounds_toArray, List.set_cons_zero, List.set_cons_succ]
                      refine wpAnyH_take (i := 22) (v := .bool (!b)) (by rw [List.getElem?_toArray]; rfl) (by kernel_rfl) (by kernel_rfl) (by kernel_rfl) (by exact fun _ _ _ h => h) (Or.inl ⟨by rfl, fun w hSw => by go_simp⟩) (by assumption) ?_
                      try simp only [Act.put, List.setIfInBounds_toArray, List.set_cons_zero, List.set_cons_succ]
                      refine wpAnyH_take (i := 23) (v := .bool (!b)) (by rw [List.getElem?_toArray]; rfl) (by kernel_rfl) (by kernel_rfl) (by kernel_rfl) (by exact fun _ _ _ h => h) (Or.inl ⟨by rfl, fun w hSw => by go_simp⟩) (by assumption) ?_
                      try simp only [Act.put, List.setIfInBounds_toArray, List.set_cons_zero, List.set_cons_succ]
                      refine wpAnyH_ready (rs := [24]) (by kernel_rfl) (by simp) ?_
                      refine AllReadyH.cons (o := _) (by rw [List.getElem?_toArray]; rfl) (fun K hK => ?_) AllReadyH.nil
                      go_simp
                      refine hK.out _ _ ?_ (fun hHeld2 => ?_)
                      · exact ⟨(World.cell?_alloc_lt _ _ _ hFW).trans f0, (World.cell?_alloc_lt _ _ _ hFW).trans f1, (World.cell?_alloc_lt _ _ _ hFW).trans f2⟩
                      clear hK K
                      try simp only [Act.put, List.setIfInBounds_toArray, List.set_cons_zero, List.set_cons_succ]
                      refine wpAnyH_take (i := 25) (v := .slice (some ⟨w1.heap.size, 0, none⟩) 3 3) (by rw [List.getElem?_toArray]; rfl) (by kernel_rfl) (by kernel_rfl) (by kernel_rfl) (by exact fun _ _ _ h => h) (Or.inl ⟨by rfl, fun w hSw => by go_simp⟩) (by assumption) ?_
                      try simp only [Act.put, List.setIfInBounds_toArray, List.set_cons_zero, List.set_cons_succ]
                      refine wpAnyH_done (by kernel_rfl) ?_ _
                      go_wp2
                      go_roundw
                      case rel =>
                        refine ⟨k + 1, w1.heap.size, by omega, rfl, by go_num, Lib.hid (fun t ht => ?_), by omega, ?_, ?_⟩
                        · show (w1.alloc _).cell? _ = _
                          rw [World.cell?_alloc_new]
                          match t, ht with
                          | 0, _ => rw [HX0.out, h0]; rfl
                          | 1, _ => rw [HX1.out, h1]; rfl
                          | 2, _ => rw [HX2.out, h2]; rfl
                          | t + 3, h => omega
                        · first | exact hrowW.alloc _ | exact own_below (hrowW.alloc _) (Below.refl _ _).drew
                        · exact (hbelW.alloc hbelW.size _).drew
                      case measure => simp [intOf]; omega
                  · refine wpAnyH_take (i := 17) (v := .bool false) (by rw [List.getElem?_toArray]; rfl) (by kernel_rfl) (by kernel_rfl) (by kernel_rfl) (by exact fun _ _ _ h => h) (Or.inl ⟨by rfl, fun w hSw => by go_simp⟩) (by assumption) ?_
                    try simp only [Act.put, List.setIfInBounds_toArray, List.set_cons_zero, List.set_cons_succ]
                    refine wpAnyH_take (i := 18) (v := undef) (by rw [List.getElem?_toArray]; rfl) (by kernel_rfl) (by kernel_rfl) (by kernel_rfl) (by exact fun _ _ _ h => h) (Or.inr ⟨by kernel_rfl, rfl⟩) (by assumption) ?_
                    try simp only [Act.put, List.setIfInBounds_toArray, List.set_cons_zero, List.set_cons_succ]
                    refine wpAnyH_take (i := 19) (v := undef) (by rw [List.getElem?_toArray]; rfl) (by kernel_rfl) (by kernel_rfl) (by kernel_rfl) (by exact fun _ _ _ h => h) (Or.inr ⟨by kernel_rfl, rfl⟩) (by assumption) ?_
                    try simp only [Act.put, List.setIfInBounds_toArray, List.set_cons_zero, List.set_cons_succ]
                    refine wpAnyH_take (i := 20) (v := undef) (by rw [List.getElem?_toArray]; rfl) (by kernel_rfl) (by kernel_rfl) (by kernel_rfl) (by exact fun _ _ _ h => h) (Or.inr ⟨by kernel_rfl, rfl⟩) (by assumption) ?_
                    try simp only [Act.put, List.setIfInBounds_toArray, List.set_cons_zero, List.set_cons_succ]
                    refine wpAnyH_take (i := 21) (v := undef) (by rw [List.getElem?_toArray]; rfl) (by kernel_rfl) (by kernel_rfl) (by kernel_rfl) (by exact fun _ _ _ h => h) (Or.inr ⟨by kernel_rfl, rfl⟩) (by assumption) ?_
                    try simp only [Act.put, List.setIfInBounds_toArray, List.set_cons_zero, List.set_cons_succ]
                    refine wpAnyH_take (i := 22) (v := undef) (by rw [List.getElem?_toArray]; rfl) (by kernel_rfl) (by kernel_rfl) (by kernel_rfl) (by exact fun _ _ _ h => h) (Or.inr ⟨by kernel_rfl, rfl⟩) (by assumption) ?_
                    try simp only [Act.put, List.setIfInBounds_toArray, List.set_cons_zero, List.set_cons_succ]
                    refine wpAnyH_take (i := 23) (v := .bool false) (by rw [List.getElem?_toArray]; rfl) (by kernel_rfl) (by kernel_rfl) (by kernel_rfl) (by exact fun _ _ _ h => h) (Or.inl ⟨by rfl, fun w hSw => by go_simp⟩) (by assumption) ?_
                    try simp only [Act.put, List.setIfInBounds_toArray, List.set_cons_zero, List.set_cons_succ]
                    refine wpAnyH_ready (rs := [24]) (by kernel_rfl) (by simp) ?_
                    refine AllReadyH.cons (o := _) (by rw [List.getElem?_toArray]; rfl) (fun K hK => ?_) AllReadyH.nil
                    go_simp
                    refine hK.out _ _ ?_ (fun hHeld2 => ?_)
                    · exact ⟨(World.cell?_alloc_lt _ _ _ hFW).trans f0, (World.cell?_alloc_lt _ _ _ hFW).trans f1, (World.cell?_alloc_lt _ _ _ hFW).trans f2⟩
                    clear hK K
                    try simp only [Act.put, List.setIfInBounds_toArray, List.set_cons_zero, List.set_cons_succ]
                    refine wpAnyH_take (i := 25) (v := .slice (some ⟨w1.heap.size, 0, none⟩) 3 3) (by rw [List.getElem?_toArray]; rfl) (by kernel_rfl) (by kernel_rfl) (by kernel_rfl) (by exact fun _ _ _ h => h) (Or.inl ⟨by rfl, fun w hSw => by go_simp⟩) (by assumption) ?_
                    try simp only [Act.put, List.setIfInBounds_toArray, List.set_cons_zero, List.set_cons_succ]
                    refine wpAnyH_done (by kernel_rfl) ?_ _
                    go_wp2
                    go_roundw
                    case rel =>
                      refine ⟨k + 1, w1.heap.size, by omega, rfl, by go_num, Lib.hid (fun t ht => ?_), by omega, ?_, ?_⟩
                      · show (w1.alloc _).cell? _ = _
                        rw [World.cell?_alloc_new]
                        match t, ht with
                        | 0, _ => rw [HX0.out, h0]; rfl
                        | 1, _ => rw [HX1.out, h1]; rfl
                        | 2, _ => rw [HX2.out, h2]; rfl
                        | t + 3, h => omega
                      · first | exact hrowW.alloc _ | exact own_below (hrowW.alloc _) (Below.refl _ _).drew
                      · exact (hbelW.alloc hbelW.size _).drew
                    case measure => simp [intOf]; omega
                · refine wpAnyH_take (i := 10) (v := .bool false) (by rw [List.getElem?_toArray]; rfl) (by kernel_rfl) (by kernel_rfl) (by kernel_rfl) (by exact fun _ _ _ h => h) (Or.inl ⟨by rfl, fun w hSw => by go_simp⟩) (by assumption) ?_
                  try simp only [Act.put, List.setIfInBounds_toArray, List.set_cons_zero, List.set_cons_succ]
                  refine wpAnyH_take (i := 11) (v := undef) (by rw [List.getElem?_toArray]; rfl) (by kernel_rfl) (by kernel_rfl) (by kernel_rfl) (by exact fun _ _ _ h => h) (Or.inr ⟨by kernel_rfl, rfl⟩) (by assumption) ?_
                  try simp only [Act.put, List.setIfInBounds_toArray, List.set_cons_zero, List.set_cons_succ]
                  refine wpAnyH_take (i := 12) (v := undef) (by rw [List.getElem?_toArray]; rfl) (by kernel_rfl) (by kernel_rfl) (by kernel_rfl) (by exact fun _ _ _ h => h) (Or.inr ⟨by kernel_rfl, rfl⟩) (by assumption) ?_
                  try simp only [Act.put, List.setIfInBounds_toArray, List.set_cons_zero, List.set_cons_succ]
                  refine wpAnyH_take (i := 13) (v := .bool false) (by rw [List.getElem?_toArray]; rfl) (by kernel_rfl) (by kernel_rfl) (by kernel_rfl) (by exact fun _ _ _ h => h) (Or.inl ⟨by rfl, fun w hSw => by go_simp⟩) (by assumption) ?_
                  try simp only [Act.put, List.setIfInBounds_toArray, List.set_cons_zero, List.set_cons_succ]
                  rcases h2c with h2 | h2
                  · refine wpAnyH_take (i := 17) (v := .bool true) (by rw [List.getElem?_toArray]; rfl) (by kernel_rfl) (by kernel_rfl) (by kernel_rfl) (by exact fun _ _ _ h => h) (Or.inl ⟨by rfl, fun w hSw => by go_simp⟩) (by assumption) ?_
                    try simp only [Act.put, List.setIfInBounds_toArray, List.set_cons_zero, List.set_cons_succ]
                    refine wpAnyH_take (i := 18) (v := .bool a) (by rw [List.getElem?_toArray]; rfl) (by kernel_rfl) (by kernel_rfl) (by kernel_rfl) (by exact fun _ _ _ h => h) (Or.inl ⟨by rfl, fun w hSw => by go_simp⟩) (by assumption) ?_
                    try simp only [Act.put, List.setIfInBounds_toArray, List.set_cons_zero, List.set_cons_succ]
                    refine wpAnyH_take (i := 19) (v := .bool a) (by rw [List.getElem?_toArray]; rfl) (by kernel_rfl) (by kernel_rfl) (by kernel_rfl) (by exact fun _ _ _ h => h) (Or.inl ⟨by rfl, fun w hSw => by go_simp⟩) (by assumption) ?_
                    try simp only [Act.put, List.setIfInBounds_toArray, List.set_cons_zero, List.set_cons_succ]
                    cases a
                    · refine wpAnyH_take (i := 20) (v := undef) (by rw [List.getElem?_toArray]; rfl) (by kernel_rfl) (by kernel_rfl) (by kernel_rfl) (by exact fun _ _ _ h => h) (Or.inr ⟨by kernel_rfl, rfl⟩) (by assumption) ?_
                      try simp only [Act.put, List.setIfInBounds_toArray, List.set_cons_zero, List.set_cons_succ]
                      refine wpAnyH_take (i := 21) (v := .bool false) (by rw [List.getElem?_toArray]; rfl) (by kernel_rfl) (by kernel_rfl) (by kernel_rfl) (by exact fun _ _ _ h => h) (Or.inl ⟨by rfl, fun w hSw => by go_simp⟩) (by assumption) ?_
                      try simp only [Act.put, List.setIfInBounds_toArray, List.set_cons_zero, List.set_cons_succ]
                      refine wpAnyH_take (i := 22) (v := .bool true) (by rw [List.getElem?_toArray]; rfl) (by kernel_rfl) (by kernel_rfl) (by kernel_rfl) (by exact fun _ _ _ h => h) (Or.inl ⟨by rfl, fun w hSw => by go_simp⟩) (by assumption) ?_
                      try simp only [Act.put, List.setIfInBounds_toArray, List.set_cons_zero, List.set_cons_succ]
                      refine wpAnyH_take (i := 23) (v := .bool true) (by rw [List.getElem?_toArray]; rfl) (by kernel_rfl) (by kernel_rfl) (by kernel_rfl) (by exact fun _ _ _ h => h) (Or.inl ⟨by rfl, fun w hSw => by go_simp⟩) (by assumption) ?_
                      try simp only [Act.put, List.setIfInBounds_toArray, List.set_cons_zero, List.set_cons_succ]
                      refine wpAnyH_ready (rs := [24]) (by kernel_rfl) (by simp) ?_
                      refine AllReadyH.cons (o := _) (by rw [List.getElem?_toArray]; rfl) (fun K hK => ?_) AllReadyH.nil
                      go_simp
                      refine hK.out _ _ ?_ (fun hHeld2 => ?_)
                      · exact ⟨(World.cell?_alloc_lt _ _ _ hFW).trans f0, (World.cell?_alloc_lt _ _ _ hFW).trans f1, (World.cell?_alloc_lt _ _ _ hFW).trans f2⟩
                      clear hK K
                      try simp only [Act.put, List.setIfInBounds_toArray, List.set_cons_zero, List.set_cons_succ]
                      refine wpAnyH_take (i := 25) (v := .slice (some ⟨w1.heap.size, 0, none⟩) 3 3) (by rw [List.getElem?_toArray]; rfl) (by kernel_rfl) (by kernel_rfl) (by kernel_rfl) (by exact fun _ _ _ h => h) (Or.inl ⟨by rfl, fun w hSw => by go_simp⟩) (by assumption) ?_
                      try simp only [Act.put, List.setIfInBounds_toArray, List.set_cons_zero, List.set_cons_succ]
                      refine wpAnyH_done (by kernel_rfl) ?_ _
                      go_wp2
                      go_roundw
                      case rel =>
                        refine ⟨k + 1, w1.heap.size, by omega, rfl, by go_num, Lib.hid (fun t ht => ?_), by omega, ?_, ?_⟩
                        · show (w1.alloc _).cell? _ = _
                          rw [World.cell?_alloc_new]
                          match t, ht with
                          | 0, _ => rw [HX0.out, h0]; rfl
                          | 1, _ => rw [HX1.out, h1]; rfl
                          | 2, _ => rw [HX2.out, h2]; rfl
                          | t + 3, h => omega
                        · first | exact hrowW.alloc _ | exact own_below (hrowW.alloc _) (Below.refl _ _).drew
                        · exact (hbelW.alloc hbelW.size _).drew
                      case measure => simp [intOf]; omega
                    · refine wpAnyH_take (i := 20) (v := .bool b) (by rw [List.getElem?_toArray]; rfl) (by kernel_rfl) (by kernel_rfl) (by kernel_rfl) (by exact fun _ _ _ h => h) (Or.inl ⟨by rfl, fun w hSw => by go_simp⟩) (by assumption) ?_
                      try simp only [Act.put, List.setIfInBounds_toArray, List.set_cons_zero, List.set_cons_succ]
                      refine wpAnyH_take (i := 21) (v := .bool b) (by rw [List.getElem?_toArray]; rfl) (by kernel_rfl) (by kernel_rfl) (by kernel_rfl) (by exact fun _ _ _ h => h) (Or.inl ⟨by rfl, fun w hSw => by go_simp⟩) (by assumption) ?_
                      try simp only [Act.put, List.setIfInBounds_toArray, List.set_cons_zero, List.set_cons_succ]
                      refine wpAnyH_take (i := 22) (v := .bool (!b)) (by rw [List.getElem?_toArray]; rfl) (by kernel_rfl) (by kernel_rfl) (by kernel_rfl) (by exact fun _ _ _ h => h) (Or.inl ⟨by rfl, fun w hSw => by go_simp⟩) (by assumption) ?_
                      try simp only [Act.put, List.setIfInBounds_toArray, List.set_cons_zero, List.set_cons_succ]
                      refine wpAnyH_take (i := 23) (v := .bool (!b)) (by rw [List.getElem?_toArray]; rfl) (by kernel_rfl) (by kernel_rfl) (by kernel_rfl) (by exact fun _ _ _ h => h) (Or.inl ⟨by rfl, fun w hSw => by go_simp⟩) (by assumption) ?_
                      try simp only [Act.put, List.setIfInBounds_toArray, List.set_cons_zero, List.set_cons_succ]
                      refine wpAnyH_ready (rs := [24]) (by kernel_rfl) (by simp) ?_
                      refine AllReadyH.cons (o := _) (by rw [List.getElem?_toArray]; rfl) (fun K hK => ?_) AllReadyH.nil
                      go_simp
                      refine hK.out _ _ ?_ (fun hHeld2 => ?_)
                      · exact ⟨(World.cell?_alloc_lt _ _ _ hFW).trans f0, (World.cell?_alloc_lt _ _ _ hFW).trans f1, (World.cell?_alloc_lt _ _ _ hFW).trans f2⟩
                      clear hK K
                      try simp only [Act.put, List.setIfInBounds_toArray, List.set_cons_zero, List.set_cons_succ]
                      refine wpAnyH_take (i := 25) (v := .slice (some ⟨w1.heap.size, 0, none⟩) 3 3) (by rw [List.getElem?_toArray]; rfl) (by kernel_rfl) (by kernel_rfl) (by kernel_rfl) (by exact fun _ _ _ h => h) (Or.inl ⟨by rfl, fun w hSw => by go_simp⟩) (by assumption) ?_
                      try simp only [Act.put, List.setIfInBounds_toArray, List.set_cons_zero, List.set_cons_succ]
                      refine wpAnyH_done (by kernel_rfl) ?_ _
                      go_wp2
                      go_roundw
                      case rel =>
                        refine ⟨k + 1, w1.heap.size, by omega, rfl, by go_num, Lib.hid (fun t ht => ?_), by omega, ?_, ?_⟩
                        · show (w1.alloc _).cell? _ = _
                          rw [World.cell?_alloc_new]
                          match t, ht with
                          | 0, _ => rw [HX0.out, h0]; rfl
                          | 1, _ => rw [HX1.out, h1]; rfl
                          | 2, _ => rw [HX2.out, h2]; rfl
                          | t + 3, h => omega
                        · first | exact hrowW.alloc _ | exact own_below (hrowW.alloc _) (Below.refl _ _).drew
                        · exact (hbelW.alloc hbelW.size _).drew
                      case measure => simp [intOf]; omega
                  · refine wpAnyH_take (i := 17) (v := .bool false) (by rw [List.getElem?_toArray]; rfl) (by kernel_rfl) (by kernel_rfl) (by kernel_rfl) (by exact fun _ _ _ h => h) (Or.inl ⟨by rfl, fun w hSw => by go_simp⟩) (by assumption) ?_
                    try simp only [Act.put, List.setIfInBounds_toArray, List.set_cons_zero, List.set_cons_succ]
                    refine wpAnyH_take (i := 18) (v := undef) (by rw [List.getElem?_toArray]; rfl) (by kernel_rfl) (by kernel_rfl) (by kernel_rfl) (by exact fun _ _ _ h => h) (Or.inr ⟨by kernel_rfl, rfl⟩) (by assumption) ?_
                    try simp only [Act.put, List.setIfInBounds_toArray, List.set_cons_zero, List.set_cons_succ]
                    refine wpAnyH_take (i := 19) (v := undef) (by rw [List.getElem?_toArray]; rfl) (by kernel_rfl) (by kernel_rfl) (by kernel_rfl) (by exact fun _ _ _ h => h) (Or.inr ⟨by kernel_rfl, rfl⟩) (by assumption) ?_
                    try simp only [Act.put, List.setIfInBounds_toArray, List.set_cons_zero, List.set_cons_succ]
                    refine wpAnyH_take (i := 20) (v := undef) (by rw [List.getElem?_toArray]; rfl) (by kernel_rfl) (by kernel_rfl) (by kernel_rfl) (by exact fun _ _ _ h => h) (Or.inr ⟨by kernel_rfl, rfl⟩) (by assumption) ?_
                    try simp only [Act.put, List.setIfInBounds_toArray, List.set_cons_zero, List.set_cons_succ]
                    refine wpAnyH_take (i := 21) (v := undef) (by rw [List.getElem?_toArray]; rfl) (by kernel_rfl) (by kernel_rfl) (by kernel_rfl) (by exact fun _ _ _ h => h) (Or.inr ⟨by kernel_rfl, rfl⟩) (by assumption) ?_
                    try simp only [Act.put, List.setIfInBounds_toArray, List.set_cons_zero, List.set_cons_succ]
                    refine wpAnyH_take (i := 22) (v := undef) (by rw [List.getElem?_toArray]; rfl) (by kernel_rfl) (by kernel_rfl) (by kernel_rfl) (by exact fun _ _ _ h => h) (Or.inr ⟨by kernel_rfl, rfl⟩) (by assumption) ?_
                    try simp only [Act.put, List.setIfInBounds_toArray, List.set_cons_zero, List.set_cons_succ]
                    refine wpAnyH_take (i := 23) (v := .bool false) (by rw [List.getElem?_toArray]; rfl) (by kernel_rfl) (by kernel_rfl) (by kernel_rfl) (by exact fun _ _ _ h => h) (Or.inl ⟨by rfl, fun w hSw => by go_simp⟩) (by assumption) ?_
                    try simp only [Act.put, List.setIfInBounds_toArray, List.set_cons_zero, List.set_cons_succ]
                    refine wpAnyH_ready (rs := [24]) (by kernel_rfl) (by simp) ?_
                    refine AllReadyH.cons (o := _) (by rw [List.getElem?_toArray]; rfl) (fun K hK => ?_) AllReadyH.nil
                    go_simp
                    refine hK.out _ _ ?_ (fun hHeld2 => ?_)
                    · exact ⟨(World.cell?_alloc_lt _ _ _ hFW).trans f0, (World.cell?_alloc_lt _ _ _ hFW).trans f1, (World.cell?_alloc_lt _ _ _ hFW).trans f2⟩
                    clear hK K
                    try simp only [Act.put, List.setIfInBounds_toArray, List.set_cons_zero, List.set_cons_succ]
                    refine wpAnyH_take (i := 25) (v := .slice (some ⟨w1.heap.size, 0, none⟩) 3 3) (by rw [List.getElem?_toArray]; rfl) (by kernel_rfl) (by kernel_rfl) (by kernel_rfl) (by exact fun _ _ _ h => h) (Or.inl ⟨by rfl, fun w hSw => by go_simp⟩) (by assumption) ?_
                    try simp only [Act.put, List.setIfInBounds_toArray, List.set_cons_zero, List.set_cons_succ]
                    refine wpAnyH_done (by kernel_rfl) ?_ _
                    go_wp2
                    go_roundw
                    case rel =>
                      refine ⟨k + 1, w1.heap.size, by omega, rfl, by go_num, Lib.hid (fun t ht => ?_), by omega, ?_, ?_⟩
                      · show (w1.alloc _).cell? _ = _
                        rw [World.cell?_alloc_new]
                        match t, ht with
                        | 0, _ => rw [HX0.out, h0]; rfl
                        | 1, _ => rw [HX1.out, h1]; rfl
                        | 2, _ => rw [HX2.out, h2]; rfl
                        | t + 3, h => omega
                      · first | exact hrowW.alloc _ | exact own_below (hrowW.alloc _) (Below.refl _ _).drew
                      · exact (hbelW.alloc hbelW.size _).drew
                    case measure => simp [intOf]; omega
              · refine wpAnyH_take (i := 3) (v := .bool false) (by rw [List.getElem?_toArray]; rfl) (by kernel_rfl) (by kernel_rfl) (by kernel_rfl) (by exact fun _ _ _ h => h) (Or.inl ⟨by rfl, fun w hSw => by go_simp⟩) (by assumption) ?_
                try simp only [Act.put, List.setIfInBounds_toArray, List.set_cons_zero, List.set_cons_succ]
                refine wpAnyH_take (i := 4) (v := undef) (by rw [List.getElem?_toArray]; rfl) (by kernel_rfl) (by kernel_rfl) (by kernel_rfl) (by exact fun _ _ _ h => h) (Or.inr ⟨by kernel_rfl, rfl⟩) (by assumption) ?_
                try simp only [Act.put, List.setIfInBounds_toArray, List.set_cons_zero, List.set_cons_succ]
                refine wpAnyH_take (i := 5) (v := undef) (by rw [List.getElem?_toArray]; rfl) (by kernel_rfl) (by kernel_rfl) (by kernel_rfl) (by exact fun _ _ _ h => h) (Or.inr ⟨by kernel_rfl, rfl⟩) (by assumption) ?_
                try simp only [Act.put, List.setIfInBounds_toArray, List.set_cons_zero, List.set_cons_succ]
                refine wpAnyH_take (i := 6) (v := .bool false) (by rw [List.getElem?_toArray]; rfl) (by kernel_rfl) (by kernel_rfl) (by kernel_rfl) (by exact fun _ _ _ h => h) (Or.inl ⟨by rfl, fun w hSw => by go_simp⟩) (by assumption) ?_
                try simp only [Act.put, List.setIfInBounds_toArray, List.set_cons_zero, List.set_cons_succ]
                rcases h1c with h1 | h1
                · refine wpAnyH_take (i := 10) (v := .bool true) (by rw [List.getElem?_toArray]; rfl) (by kernel_rfl) (by kernel_rfl) (by kernel_rfl) (by exact fun _ _ _ h => h) (Or.inl ⟨by rfl, fun w hSw => by go_simp⟩) (by assumption) ?_
                  try simp only [Act.put, List.setIfInBounds_toArray, List.set_cons_zero, List.set_cons_succ]
                  refine wpAnyH_take (i := 11) (v := .bool b) (by rw [List.getElem?_toArray]; rfl) (by kernel_rfl) (by kernel_rfl) (by kernel_rfl) (by exact fun _ _ _ h => h) (Or.inl ⟨by rfl, fun w hSw => by go_simp⟩) (by assumption) ?_
                  try simp only [Act.put, List.setIfInBounds_toArray, List.set_cons_zero, List.set_cons_succ]
                  refine wpAnyH_take (i := 12) (v := .bool (!b)) (by rw [List.getElem?_toArray]; rfl) (by kernel_rfl) (by kernel_rfl) (by kernel_rfl) (by exact fun _ _ _ h => h) (Or.inl ⟨by rfl, fun w hSw => by go_simp⟩) (by assumption) ?_
                  try simp only [Act.put, List.setIfInBounds_toArray, List.set_cons_zero, List.set_cons_succ]
                  refine wpAnyH_take (i := 13) (v := .bool (!b)) (by rw [List.getElem?_toArray]; rfl) (by kernel_rfl) (by kernel_rfl) (by kernel_rfl) (by exact fun _ _ _ h => h) (Or.inl ⟨by rfl, fun w hSw => by go_simp⟩) (by assumption) ?_
                  try simp only [Act.put, List.setIfInBounds_toArray, List.set_cons_zero, List.set_cons_succ]
                  rcases h2c with h2 | h2
                  · refine wpAnyH_take (i := 17) (v := .bool true) (by rw [List.getElem?_toArray]; rfl) (by kernel_rfl) (by kernel_rfl) (by kernel_rfl) (by exact fun _ _ _ h => h) (Or.inl ⟨by rfl, fun w hSw => by go_simp⟩) (by assumption) ?_
                    try simp only [Act.put, List.setIfInBounds_toArray, List.set_cons_zero, List.set_cons_succ]
                    refine wpAnyH_take (i := 18) (v := .bool a) (by rw [List.getElem?_toArray]; rfl) (by kernel_rfl) (by kernel_rfl) (by kernel_rfl) (by exact fun _ _ _ h => h) (Or.inl ⟨by rfl, fun w hSw => by go_simp⟩) (by assumption) ?_
                    try simp only [Act.put, List.setIfInBounds_toArray, List.set_cons_zero, List.set_cons_succ]
                    refine wpAnyH_take (i := 19) (v := .bool a) (by rw [List.getElem?_toArray]; rfl) (by kernel_rfl) (by kernel_rfl) (by kernel_rfl) (by exact fun _ _ _ h => h) (Or.inl ⟨by rfl, fun w hSw => by go_simp⟩) (by assumption) ?_
                    try simp only [Act.put, List.setIfInBounds_toArray, List.set_cons_zero, List.set_cons_succ]
                    cases a
                    · refine wpAnyH_take (i := 20) (v := undef) (by rw [List.getElem?_toArray]; rfl) (by kernel_rfl) (by kernel_rfl) (by kernel_rfl) (by exact fun _ _ _ h => h) (Or.inr ⟨by kernel_rfl, rfl⟩) (by assumption) ?_
                      try simp only [Act.put, List.setIfInBounds_toArray, List.set_cons_zero, List.set_cons_succ]
                      refine wpAnyH_take (i := 21) (v := .bool false) (by rw [List.getElem?_toArray]; rfl) (by kernel_rfl) (by kernel_rfl) (by kernel_rfl) (by exact fun _ _ _ h => h) (Or.inl ⟨by rfl, fun w hSw => by go_simp⟩) (by assumption) ?_
                      try simp only [Act.put, List.setIfInBounds_toArray, List.set_cons_zero, List.set_cons_succ]
                      refine wpAnyH_take (i := 22) (v := .bool true) (by rw [List.getElem?_toArray]; rfl) (by kernel_rfl) (by kernel_rfl) (by kernel_rfl) (by exact fun _ _ _ h => h) (Or.inl ⟨by rfl, fun w hSw => by go_simp⟩) (by assumption) ?_
                      try simp only [Act.put, List.setIfInBounds_toArray, List.set_cons_zero, List.set_cons_succ]
                      refine wpAnyH_take (i := 23) (v := .bool true) (by rw [List.getElem?_toArray]; rfl) (by kernel_rfl) (by kernel_rfl) (by kernel_rfl) (by exact fun _ _ _ h => h) (Or.inl ⟨by rfl, fun w hSw => by go_simp⟩) (by assumption) ?_
                      try simp only [Act.put, List.setIfInBounds_toArray, List.set_cons_zero, List.set_cons_succ]
                      refine wpAnyH_ready (rs := [24]) (by kernel_rfl) (by simp) ?_
                      refine AllReadyH.cons (o := _) (by rw [List.getElem?_toArray]; rfl) (fun K hK => ?_) AllReadyH.nil
                      go_simp
                      refine hK.out _ _ ?_ (fun hHeld2 => ?_)
                      · exact ⟨(World.cell?_alloc_lt _ _ _ hFW).trans f0, (World.cell?_alloc_lt _ _ _ hFW).trans f1, (World.cell?_alloc_lt _ _ _ hFW).trans f2⟩
                      clear hK K
                      try simp only [Act.put, List.setIfInBounds_toArray, List.set_cons_zero, List.set_cons_succ]
                      refine wpAnyH_take (i := 25) (v := .slice (some ⟨w1.heap.size, 0, none⟩) 3 3) (by rw [List.getElem?_toArray]; rfl) (by kernel_rfl) (by kernel_rfl) (by kernel_rfl) (by exact fun _ _ _ h => h) (Or.inl ⟨by rfl, fun w hSw => by go_simp⟩) (by assumption) ?_
                      try simp only [Act.put, List.setIfInBounds_toArray, List.set_cons_zero, List.set_cons_succ]
                      refine wpAnyH_done (by kernel_rfl) ?_ _
                      go_wp2
                      go_roundw
                      case rel =>
                        refine ⟨k + 1, w1.heap.size, by omega, rfl, by go_num, Lib.hid (fun t ht => ?_), by omega, ?_, ?_⟩
                        · show (w1.alloc _).cell? _ = _
                          rw [World.cell?_alloc_new]
                          match t, ht with
                          | 0, _ => rw [HX0.out, h0]; rfl
                          | 1, _ => rw [HX1.out, h1]; rfl
                          | 2, _ => rw [HX2.out, h2]; rfl
                          | t + 3, h => omega
                        · first | exact hrowW.alloc _ | exact own_below (hrowW.alloc _) (Below.refl _ _).drew
                        · exact (hbelW.alloc hbelW.size _).drew
                      case measure => simp [intOf]; omega
                    · refine wpAnyH_take (i := 20) (v := .bool b) (by rw [List.getElem?_toArray]; rfl) (by kernel_rfl) (by kernel_rfl) (by kernel_rfl) (by exact fun _ _ _ h => h) (Or.inl ⟨by rfl, fun w hSw => by go_simp⟩) (by assumption) ?_
                      try simp only [Act.put, List.setIfInBounds_toArray, List.set_cons_zero, List.set_cons_succ]
                      refine wpAnyH_take (i := 21) (v := .bool b) (by rw [List.getElem?_toArray]; rfl) (by kernel_rfl) (by kernel_rfl) (by kernel_rfl) (by exact fun _ _ _ h => h) (Or.inl ⟨by rfl, fun w hSw => by go_simp⟩) (by assumption) ?_
                      try simp only [Act.put, List.setIfInBounds_toArray, List.set_cons_zero, List.set_cons_succ]
                      refine wpAnyH_take (i := 22) (v := .bool (!b)) (by rw [List.getElem?_toArray]; rfl) (by kernel_rfl) (by kernel_rfl) (by kernel_rfl) (by exact fun _ _ _ h => h) (Or.inl ⟨by rfl, fun w hSw => by go_simp⟩) (by assumption) ?_
                      try simp only [Act.put, List.setIfInBounds_toArray, List.set_cons_zero, List.set_cons_succ]
                      refine wpAnyH_take (i := 23) (v := .bool (!b)) (by rw [List.getElem?_toArray]; rfl) (by kernel_rfl) (by kernel_rfl) (by kernel_rfl) (by exact fun _ _ _ h => h) (Or.inl ⟨by rfl, fun w hSw => by go_simp⟩) (by assumption) ?_
                      try simp only [Act.put, List.setIfInBounds_toArray, List.set_cons_zero, List.set_cons_succ]
                      refine wpAnyH_ready (rs := [24]) (by kernel_rfl) (by simp) ?_
                      refine AllReadyH.cons (o := _) (by rw [List.getElem?_toArray]; rfl) (fun K hK => ?_) AllReadyH.nil
                      go_simp
                      refine hK.out _ _ ?_ (fun hHeld2 => ?_)
                      · exact ⟨(World.cell?_alloc_lt _ _ _ hFW).trans f0, (World.cell?_alloc_lt _ _ _ hFW).trans f1, (World.cell?_alloc_lt _ _ _ hFW).trans f2⟩
                      clear hK K
                      try simp only [Act.put, List.setIfInBounds_toArray, List.set_cons_zero, List.set_cons_succ]
                      refine wpAnyH_take (i := 25) (v := .slice (some ⟨w1.heap.size, 0, none⟩) 3 3) (by rw [List.getElem?_toArray]; rfl) (by kernel_rfl) (by kernel_rfl) (by kernel_rfl) (by exact fun _ _ _ h => h) (Or.inl ⟨by rfl, fun w hSw => by go_simp⟩) (by assumption) ?_
                      try simp only [Act.put, List.setIfInBounds_toArray, List.set_cons_zero, List.set_cons_succ]
                      refine wpAnyH_done (by kernel_rfl) ?_ _
                      go_wp2
                      go_roundw
                      case rel =>
                        refine ⟨k + 1, w1.heap.size, by omega, rfl, by go_num, Lib.hid (fun t ht => ?_), by omega, ?_, ?_⟩
                        · show (w1.alloc _).cell? _ = _
                          rw [World.cell?_alloc_new]
                          match t, ht with
                          | 0, _ => rw [HX0.out, h0]; rfl
                          | 1, _ => rw [HX1.out, h1]; rfl
                          | 2, _ => rw [HX2.out, h2]; rfl
                          | t + 3, h => omega
                        · first | exact hrowW.alloc _ | exact own_below (hrowW.alloc _) (Below.refl _ _).drew
                        · exact (hbelW.alloc hbelW.size _).drew
                      case measure => simp [intOf]; omega
                  · refine wpAnyH_take (i := 17) (v := .bool false) (by rw [List.getElem?_toArray]; rfl) (by kernel_rfl) (by kernel_rfl) (by kernel_rfl) (by exact fun _ _ _ h => h) (Or.inl ⟨by rfl, fun w hSw => by go_simp⟩) (by assumption) ?_
                    try simp only [Act.put, List.setIfInBounds_toArray, List.set_cons_zero, List.set_cons_succ]
                    refine wpAnyH_take (i := 18) (v := undef) (by rw [List.getElem?_toArray]; rfl) (by kernel_rfl) (by kernel_rfl) (by kernel_rfl) (by exact fun _ _ _ h => h) (Or.inr ⟨by kernel_rfl, rfl⟩) (by assumption) ?_
                    try simp only [Act.put, List.setIfInBounds_toArray, List.set_cons_zero, List.set_cons_succ]
                    refine wpAnyH_take (i := 19) (v := undef) (by rw [List.getElem?_toArray]; rfl) (by kernel_rfl) (by kernel_rfl) (by kernel_rfl) (by exact fun _ _ _ h => h) (Or.inr ⟨by kernel_rfl, rfl⟩) (by assumption) ?_
                    try simp only [Act.put, List.setIfInBounds_toArray, List.set_cons_zero, List.set_cons_succ]
                    refine wpAnyH_take (i := 20) (v := undef) (by rw [List.getElem?_toArray]; rfl) (by kernel_rfl) (by kernel_rfl) (by kernel_rfl) (by exact fun _ _ _ h => h) (Or.inr ⟨by kernel_rfl, rfl⟩) (by assumption) ?_
                    try simp only [Act.put, List.setIfInBounds_toArray, List.set_cons_zero, List.set_cons_succ]
                    refine wpAnyH_take (i := 21) (v := undef) (by rw [List.getElem?_toArray]; rfl) (by kernel_rfl) (by kernel_rfl) (by kernel_rfl) (by exact fun _ _ _ h => h) (Or.inr ⟨by kernel_rfl, rfl⟩) (by assumption) ?_
                    try simp only [Act.put, List.setIfInBounds_toArray, List.set_cons_zero, List.set_cons_succ]
                    refine wpAnyH_take (i := 22) (v := undef) (by rw [List.getElem?_toArray]; rfl) (by kernel_rfl) (by kernel_rfl) (by kernel_rfl) (by exact fun _ _ _ h => h) (Or.inr ⟨by kernel_rfl, rfl⟩) (by assumption) ?_
                    try simp only [Act.put, List.setIfInBounds_toArray, List.set_cons_zero, List.set_cons_succ]
                    refine wpAnyH_take (i := 23) (v := .bool false) (by rw [List.getElem?_toArray]; rfl) (by kernel_rfl) (by kernel_rfl) (by kernel_rfl) (by exact fun _ _ _ h => h) (Or.inl ⟨by rfl, fun w hSw => by go_simp⟩) (by assumption) ?_
                    try simp only [Act.put, List.setIfInBounds_toArray, List.set_cons_zero, List.set_cons_succ]
                    refine wpAnyH_ready (rs := [24]) (by kernel_rfl) (by simp) ?_
                    refine AllReadyH.cons (o := _) (by rw [List.getElem?_toArray]; rfl) (fun K hK => ?_) AllReadyH.nil
                    go_simp
                    refine hK.out _ _ ?_ (fun hHeld2 => ?_)
                    · exact ⟨(World.cell?_alloc_lt _ _ _ hFW).trans f0, (World.cell?_alloc_lt _ _ _ hFW).trans f1, (World.cell?_alloc_lt _ _ _ hFW).trans f2⟩
                    clear hK K
                    try simp only [Act.put, List.setIfInBounds_toArray, List.set_cons_zero, List.set_cons_succ]
                    refine wpAnyH_take (i := 25) (v := .slice (some ⟨w1.heap.size, 0, none⟩) 3 3) (by rw [List.getElem?_toArray]; rfl) (by kernel_rfl) (by kernel_rfl) (by kernel_rfl) (by exact fun _ _ _ h => h) (Or.inl ⟨by rfl, fun w hSw => by go_simp⟩) (by assumption) ?_
                    try simp only [Act.put, List.setIfInBounds_toArray, List.set_cons_zero, List.set_cons_succ]
                    refine wpAnyH_done (by kernel_rfl) ?_ _
                    go_wp2
                    go_roundw
                    case rel =>
                      refine ⟨k + 1, w1.heap.size, by omega, rfl, by go_num, Lib.hid (fun t ht => ?_), by omega, ?_, ?_⟩
                      · show (w1.alloc _).cell? _ = _
                        rw [World.cell?_alloc_new]
                        match t, ht with
                        | 0, _ => rw [HX0.out, h0]; rfl
                        | 1, _ => rw [HX1.out, h1]; rfl
                        | 2, _ => rw [HX2.out, h2]; rfl
                        | t + 3, h => omega
                      · first | exact hrowW.alloc _ | exact own_below (hrowW.alloc _) (Below.refl _ _).drew
                      · exact (hbelW.alloc hbelW.size _).drew
                    case measure => simp [intOf]; omega
                · refine wpAnyH_take (i := 10) (v := .bool false) (by rw [List.getElem?_toArray]; rfl) (by kernel_rfl) (by kernel_rfl) (by kernel_rfl) (by exact fun _ _ _ h => h) (Or.inl ⟨by rfl, fun w hSw => by go_simp⟩) (by assumption) ?_
                  try simp only [Act.put, List.setIfInBounds_toArray, List.set_cons_zero, List.set_cons_succ]
                  refine wpAnyH_take (i := 11) (v := undef) (by rw [List.getElem?_toArray]; rfl) (by kernel_rfl) (by kernel_rfl) (by kernel_rfl) (by exact fun _ _ _ h => h) (Or.inr ⟨by kernel_rfl, rfl⟩) (by assumption) ?_
                  try simp only [Act.put, List.setIfInBounds_toArray, List.set_cons_zero, List.set_cons_succ]
                  refine wpAnyH_take (i := 12) (v := undef) (by rw [List.getElem?_toArray]; rfl) (by kernel_rfl) (by kernel_rfl) (by kernel_rfl) (by exact fun _ _ _ h => h) (Or.inr ⟨by kernel_rfl, rfl⟩) (by assumption) ?_
                  try simp only [Act.put, List.setIfInBounds_toArray, List.set_cons_zero, List.set_cons_succ]
                  refine wpAnyH_take (i := 13) (v := .bool false) (by rw [List.getElem?_toArray]; rfl) (by kernel_rfl) (by kernel_rfl) (by kernel_rfl) (by exact fun _ _ _ h => h) (Or.inl ⟨by rfl, fun w hSw => by go_simp⟩) (by assumption) ?_
                  try simp only [Act.put, List.setIfInBounds_toArray, List.set_cons_zero, List.set_cons_succ]
                  rcases h2c with h2 | h2
                  · refine wpAnyH_take (i := 17) (v := .bool true) (by rw [List.getElem?_toArray]; rfl) (by kernel_rfl) (by kernel_rfl) (by kernel_rfl) (by exact fun _ _ _ h => h) (Or.inl ⟨by rfl, fun w hSw => by go_simp⟩) (by assumption) ?_
                    try simp only [Act.put, List.setIfInBounds_toArray, List.set_cons_zero, List.set_cons_succ]
                    refine wpAnyH_take (i := 18) (v := .bool a) (by rw [List.getElem?_toArray]; rfl) (by kernel_rfl) (by kernel_rfl) (by kernel_rfl) (by exact fun _ _ _ h => h) (Or.inl ⟨by rfl, fun w hSw => by go_simp⟩) (by assumption) ?_
                    try simp only [Act.put, List.setIfInBounds_toArray, List.set_cons_zero, List.set_cons_succ]
                    refine wpAnyH_take (i := 19) (v := .bool a) (by rw [List.getElem?_toArray]; rfl) (by kernel_rfl) (by kernel_rfl) (by kernel_rfl) (by exact fun _ _ _ h => h) (Or.inl ⟨by rfl, fun w hSw => by go_simp⟩) (by assumption) ?_
                    try simp only [Act.put, List.setIfInBounds_toArray, List.set_cons_zero, List.set_cons_succ]
                    cases a
                    · refine wpAnyH_take (i := 20) (v := undef) (by rw [List.getElem?_toArray]; rfl) (by kernel_rfl) (by kernel_rfl) (by kernel_rfl) (by exact fun _ _ _ h => h) (Or.inr ⟨by kernel_rfl, rfl⟩) (by assumption) ?_
                      try simp only [Act.put, List.setIfInBounds_toArray, List.set_cons_zero, List.set_cons_succ]
                      refine wpAnyH_take (i := 21) (v := .bool false) (by rw [List.getElem?_toArray]; rfl) (by kernel_rfl) (by kernel_rfl) (by kernel_rfl) (by exact fun _ _ _ h => h) (Or.inl ⟨by rfl, fun w hSw => by go_simp⟩) (by assumption) ?_
                      try simp only [Act.put, List.setIfInBounds_toArray, List.set_cons_zero, List.set_cons_succ]
                      refine wpAnyH_take (i := 22) (v := .bool true) (by rw [List.getElem?_toArray]; rfl) (by kernel_rfl) (by kernel_rfl) (by kernel_rfl) (by exact fun _ _ _ h => h) (Or.inl ⟨by rfl, fun w hSw => by go_simp⟩) (by assumption) ?_
                      try simp only [Act.put, List.setIfInBounds_toArray, List.set_cons_zero, List.set_cons_succ]
                      refine wpAnyH_take (i := 23) (v := .bool true) (by rw [List.getElem?_toArray]; rfl) (by kernel_rfl) (by kernel_rfl) (by kernel_rfl) (by exact fun _ _ _ h => h) (Or.inl ⟨by rfl, fun w hSw => by go_simp⟩) (by assumption) ?_
                      try simp only [Act.put, List.setIfInBounds_toArray, List.set_cons_zero, List.set_cons_succ]
                      refine wpAnyH_ready (rs := [24]) (by kernel_rfl) (by simp) ?_
                      refine AllReadyH.cons (o := _) (by rw [List.getElem?_toArray]; rfl) (fun K hK => ?_) AllReadyH.nil
                      go_simp
                      refine hK.out _ _ ?_ (fun hHeld2 => ?_)
                      · exact ⟨(World.cell?_alloc_lt _ _ _ hFW).trans f0, (World.cell?_alloc_lt _ _ _ hFW).trans f1, (World.cell?_alloc_lt _ _ _ hFW).trans f2⟩
                      clear hK K
                      try simp only [Act.put, List.setIfInBounds_toArray, List.set_cons_zero, List.set_cons_succ]
                      refine wpAnyH_take (i := 25) (v := .slice (some ⟨w1.heap.size, 0, none⟩) 3 3) (by rw [List.getElem?_toArray]; rfl) (by kernel_rfl) (by kernel_rfl) (by kernel_rfl) (by exact fun _ _ _ h => h) (Or.inl ⟨by rfl, fun w hSw => by go_simp⟩) (by assumption) ?_
                      try simp only [Act.put, List.setIfInBounds_toArray, List.set_cons_zero, List.set_cons_succ]
                      refine wpAnyH_done (by kernel_rfl) ?_ _
                      go_wp2
                      go_roundw
                      case rel =>
                        refine ⟨k + 1, w1.heap.size, by omega, rfl, by go_num, Lib.hid (fun t ht => ?_), by omega, ?_, ?_⟩
                        · show (w1.alloc _).cell? _ = _
                          rw [World.cell?_alloc_new]
                          match t, ht with
                          | 0, _ => rw [HX0.out, h0]; rfl
                          | 1, _ => rw [HX1.out, h1]; rfl
                          | 2, _ => rw [HX2.out, h2]; rfl
                          | t + 3, h => omega
                        · first | exact hrowW.alloc _ | exact own_below (hrowW.alloc _) (Below.refl _ _).drew
                        · exact (hbelW.alloc hbelW.size _).drew
                      case measure => simp [intOf]; omega
                    · refine wpAnyH_take (i := 20) (v := .bool b) (by rw [List.getElem?_toArray]; rfl) (by kernel_rfl) (by kernel_rfl) (by kernel_rfl) (by exact fun _ _ _ h => h) (Or.inl ⟨by rfl, fun w hSw => by go_simp⟩) (by assumption) ?_
                      try simp only [Act.put, List.setIfInBounds_toArray, List.set_cons_zero, List.set_cons_succ]
                      refine wpAnyH_take (i := 21) (v := .bool b) (by rw [List.getElem?_toArray]; rfl) (by kernel_rfl) (by kernel_rfl) (by kernel_rfl) (by exact fun _ _ _ h => h) (Or.inl ⟨by rfl, fun w hSw => by go_simp⟩) (by assumption) ?_
                      try simp only [Act.put, List.setIfInBounds_toArray, List.set_cons_zero, List.set_cons_succ]
                      refine wpAnyH_take (i := 22) (v := .bool (!b)) (by rw [List.getElem?_toArray]; rfl) (by kernel_rfl) (by kernel_rfl) (by kernel_rfl) (by exact fun _ _ _ h => h) (Or.inl ⟨by rfl, fun w hSw => by go_simp⟩) (by assumption) ?_
                      try simp only [Act.put, List.setIfInBounds_toArray, List.set_cons_zero, List.set_cons_succ]
                      refine wpAnyH_take (i := 23) (v := .bool (!b)) (by rw [List.getElem?_toArray]; rfl) (by kernel_rfl) (by kernel_rfl) (by kernel_rfl) (by exact fun _ _ _ h => h) (Or.inl ⟨by rfl, fun w hSw => by go_simp⟩) (by assumption) ?_
                      try simp only [Act.put, List.setIfInBounds_toArray, List.set_cons_zero, List.set_cons_succ]
                      refine wpAnyH_ready (rs := [24]) (by kernel_rfl) (by simp) ?_
                      refine AllReadyH.cons (o := _) (by rw [List.getElem?_toArray]; rfl) (fun K hK => ?_) AllReadyH.nil
                      go_simp
                      refine hK.out _ _ ?_ (fun hHeld2 => ?_)
                      · exact ⟨(World.cell?_alloc_lt _ _ _ hFW).trans f0, (World.cell?_alloc_lt _ _ _ hFW).trans f1, (World.cell?_alloc_lt _ _ _ hFW).trans f2⟩
                      clear hK K
                      try simp only [Act.put, List.setIfInBounds_toArray, List.set_cons_zero, List.set_cons_succ]
                      refine wpAnyH_take (i := 25) (v := .slice (some ⟨w1.heap.size, 0, none⟩) 3 3) (by rw [List.getElem?_toArray]; rfl) (by kernel_rfl) (by kernel_rfl) (by kernel_rfl) (by exact fun _ _ _ h => h) (Or.inl ⟨by rfl, fun w hSw => by go_simp⟩) (by assumption) ?_
                      try simp only [Act.put, List.setIfInBounds_toArray, List.set_cons_zero, List.set_cons_succ]
                      refine wpAnyH_done (by kernel_rfl) ?_ _
                      go_wp2
                      go_roundw
                      case rel =>
                        refine ⟨k + 1, w1.heap.size, by omega, rfl, by go_num, Lib.hid (fun t ht => ?_), by omega, ?_, ?_⟩
                        · show (w1.alloc _).cell? _ = _
                          rw [World.cell?_alloc_new]
                          match t, ht with
                          | 0, _ => rw [HX0.out, h0]; rfl
                          | 1, _ => rw [HX1.out, h1]; rfl
                          | 2, _ => rw [HX2.out, h2]; rfl
                          | t + 3, h => omega
                        · first | exact hrowW.alloc _ | exact own_below (hrowW.alloc _) (Below.refl _ _).drew
                        · exact (hbelW.alloc hbelW.size _).drew
                      case measure => simp [intOf]; omega
                  · refine wpAnyH_take (i := 17) (v := .bool false) (by rw [List.getElem?_toArray]; rfl) (by kernel_rfl) (by kernel_rfl) (by kernel_rfl) (by exact fun _ _ _ h => h) (Or.inl ⟨by rfl, fun w hSw => by go_simp⟩) (by assumption) ?_
                    try simp only [Act.put, List.setIfInBounds_toArray, List.set_cons_zero, List.set_cons_succ]
                    refine wpAnyH_take (i := 18) (v := undef) (by rw [List.getElem?_toArray]; rfl) (by kernel_rfl) (by kernel_rfl) (by kernel_rfl) (by exact fun _ _ _ h => h) (Or.inr ⟨by kernel_rfl, rfl⟩) (by assumption) ?_
                    try simp only [Act.put, List.setIfInBounds_toArray, List.set_cons_zero, List.set_cons_succ]
                    refine wpAnyH_take (i := 19) (v := undef) (by rw [List.getElem?_toArray]; rfl) (by kernel_rfl) (by kernel_rfl) (by kernel_rfl) (by exact fun _ _ _ h => h) (Or.inr ⟨by kernel_rfl, rfl⟩) (by assumption) ?_
                    try simp only [Act.put, List.setIfInBounds_toArray, List.set_cons_zero, List.set_cons_succ]
                    refine wpAnyH_take (i := 20) (v := undef) (by rw [List.getElem?_toArray]; rfl) (by kernel_rfl) (by kernel_rfl) (by kernel_rfl) (by exact fun _ _ _ h => h) (Or.inr ⟨by kernel_rfl, rfl⟩) (by assumption) ?_
                    try simp only [Act.put, List.setIfInBounds_toArray, List.set_cons_zero, List.set_cons_succ]
                    refine wpAnyH_take (i := 21) (v := undef) (by rw [List.getElem?_toArray]; rfl) (by kernel_rfl) (by kernel_rfl) (by kernel_rfl) (by exact fun _ _ _ h => h) (Or.inr ⟨by kernel_rfl, rfl⟩) (by assumption) ?_
                    try simp only [Act.put, List.setIfInBounds_toArray, List.set_cons_zero, List.set_cons_succ]
                    refine wpAnyH_take (i := 22) (v := undef) (by rw [List.getElem?_toArray]; rfl) (by kernel_rfl) (by kernel_rfl) (by kernel_rfl) (by exact fun _ _ _ h => h) (Or.inr ⟨by kernel_rfl, rfl⟩) (by assumption) ?_
                    try simp only [Act.put, List.setIfInBounds_toArray, List.set_cons_zero, List.set_cons_succ]
                    refine wpAnyH_take (i := 23) (v := .bool false) (by rw [List.getElem?_toArray]; rfl) (by kernel_rfl) (by kernel_rfl) (by kernel_rfl) (by exact fun _ _ _ h => h) (Or.inl ⟨by rfl, fun w hSw => by go_simp⟩) (by assumption) ?_
                    try simp only [Act.put, List.setIfInBounds_toArray, List.set_cons_zero, List.set_cons_succ]
                    refine wpAnyH_ready (rs := [24]) (by kernel_rfl) (by simp) ?_
                    refine AllReadyH.cons (o := _) (by rw [List.getElem?_toArray]; rfl) (fun K hK => ?_) AllReadyH.nil
                    go_simp
                    refine hK.out _ _ ?_ (fun hHeld2 => ?_)
                    · exact ⟨(World.cell?_alloc_lt _ _ _ hFW).trans f0, (World.cell?_alloc_lt _ _ _ hFW).trans f1, (World.cell?_alloc_lt _ _ _ hFW).trans f2⟩
                    clear hK K
                    try simp only [Act.put, List.setIfInBounds_toArray, List.set_cons_zero, List.set_cons_succ]
                    refine wpAnyH_take (i := 25) (v := .slice (some ⟨w1.heap.size, 0, none⟩) 3 3) (by rw [List.getElem?_toArray]; rfl) (by kernel_rfl) (by kernel_rfl) (by kernel_rfl) (by exact fun _ _ _ h => h) (Or.inl ⟨by rfl, fun w hSw => by go_simp⟩) (by assumption) ?_
                    try simp only [Act.put, List.setIfInBounds_toArray, List.set_cons_zero, List.set_cons_succ]
                    refine wpAnyH_done (by kernel_rfl) ?_ _
                    go_wp2
                    go_roundw
                    case rel =>
                      refine ⟨k + 1, w1.heap.size, by omega, rfl, by go_num, Lib.hid (fun t ht => ?_), by omega, ?_, ?_⟩
                      · show (w1.alloc _).cell? _ = _
                        rw [World.cell?_alloc_new]
                        match t, ht with
                        | 0, _ => rw [HX0.out, h0]; rfl
                        | 1, _ => rw [HX1.out, h1]; rfl
                        | 2, _ => rw [HX2.out, h2]; rfl
                        | t + 3, h => omega
                      · first | exact hrowW.alloc _ | exact own_below (hrowW.alloc _) (Below.refl _ _).drew
                      · exact (hbelW.alloc hbelW.size _).drew
                    case measure => simp [intOf]; omega
          · obtain rfl : k = i := by omega
            have hFl := block_lt_of_cell (HF.out 0 (by omega))
            have HE0 : Hid (upF (fre3 zs k k) (cnt3 zs k) 0 = cnt3 zs k) := by show _ = _; funext t; simp [upF]
            have HE3 : Hid (ivs (LT 3 (upF (fre3 zs k k) (cnt3 zs k) 3)) = ivs (LT 3 (cnt3 zs (k + 1)))) := congrArg ivs (LT_congr (cnt3_step zs k))
            have HG : Hid (∀ t, 0 ≤ cnt3 zs k t ∧ cnt3 zs k t ≤ 1048576) := cnt3_le zs (by omega)
            have hrow0 : wr.ownsRow O 3 1 (.slice (some ⟨O, 0, none⟩) 3 3) 3 (ivs (LT 3 (upF (fre3 zs k k) (cnt3 zs k) 0))) := by rw [HE0.out]; exact hrow
            clear hrow
            go_wp2
            go_loopw [10] (fun s wz => ∃ j : Nat, j ≤ 3 ∧ s = .int .i64 (j : Int) ∧ Hid (∀ t, t < 3 → wz.cell? ⟨F, t, none⟩ = some (.bool (fre3 zs k k t))) ∧ wz.ownsRow O 3 1 (.slice (some ⟨O, 0, none⟩) 3 3) 3 (ivs (LT 3 (upF (fre3 zs k k) (cnt3 zs k) j))) ∧ Below w.heap.size w wz) (fun s _ => 3 - (intOf s).toNat)
            case atStart => exact ⟨0, by omega, rfl, HF, hrow0, hbel⟩
            case round =>
              clear hrow0 hbel hFl HF
              obtain ⟨j, hj, rfl, HF, hrow, hbel⟩ := hrel
              by_cases hj3 : j < 3
              · have hfc := HF.out j hj3
                cases hr : fre3 zs k k j
                · have HU : Hid (ivs (LT 3 (upF (fre3 zs k k) (cnt3 zs k) (j + 1))) = ivs (LT 3 (upF (fre3 zs k k) (cnt3 zs k) j))) := congrArg ivs (LT_congr (fun t _ => upF_no hr t))
                  rw [hr] at hfc
                  clear hr
                  go_wp2
                  go_roundw
                  case rel => exact ⟨j + 1, by omega, by go_num, HF, by rw [HU.out]; exact hrow, hbel⟩
                  case measure => simp [intOf]; omega
                · have ho := hrow.cellAt j (by omega)
                  have hof : (ivs (LT 3 (upF (fre3 zs k k) (cnt3 zs k) j)))[j]? = some (.int .i64 (cnt3 zs k j)) := by simp [ivs, LT, hj3, upF]
                  rw [hof] at ho
                  have hfz := hrow.frozenAt j
                  have hst := (hrow.stored j (.int .i64 (cnt3 zs k j + 1))).1
                  have hse : (ivs (LT 3 (upF (fre3 zs k k) (cnt3 zs k) j))).set j (.int .i64 (cnt3 zs k j + 1)) = ivs (LT 3 (upF (fre3 zs k k) (cnt3 zs k) (j + 1))) := by
                    unfold ivs
                    rw [← List.map_set, LT_set hj3]
                    congr 1
                    exact LT_congr (fun t _ => (upF_yes hr t).symm)
                  rw [hse] at hst
                  have HST := Lib.hid hst
                  have HBL := Lib.hid (hbel.setCell (p := ⟨O, j, none⟩) hs2 (.int .i64 (cnt3 zs k j + 1)))
                  have HF2 : Hid (∀ t, t < 3 → (wr.setCell ⟨O, j, none⟩ (.int .i64 (cnt3 zs k j + 1))).cell? ⟨F, t, none⟩ = some (.bool (fre3 zs k k t))) := fun t ht => (World.cell?_setCell_far _ _ _ _ (fun e => hFO e.symm)).trans (HF.out t ht)
                  have hg := HG.out j
                  rw [hr] at hfc
                  clear hr hst hse hof hrow hbel
                  generalize cnt3 zs k j = z at *
                  have hw : wrap64 (z + 1) = z + 1 := by unfold wrap64; omega
                  go_wp2
                  clear hw
                  go_roundw
                  case rel => exact ⟨j + 1, by omega, by go_num, HF2, HST.out, HBL.out⟩
                  case measure => simp [intOf]; omega
              · obtain rfl : j = 3 := by omega
                go_wp2
                go_roundw
                case rel => exact ⟨k + 1, by omega, by go_num, by rw [← HE3.out]; exact hrow, hbel⟩
                case measure => simp [intOf]; omega
      · obtain rfl : i = n := by omega
        have HE : Hid (ivs (LT 3 (cnt3 zs i)) = ivs (clsL zs)) := by show _ = _; rw [HI.out.1, HL.out]
        rw [HE.out] at hrow
        go_wp2
        go_ret2
        exact ⟨_, rfl, by rw [HI.out.2]; exact own_base hrow hs2, hbel⟩
end

end Go.Proofs.YtigapanfihpgaaaGreatDoor
