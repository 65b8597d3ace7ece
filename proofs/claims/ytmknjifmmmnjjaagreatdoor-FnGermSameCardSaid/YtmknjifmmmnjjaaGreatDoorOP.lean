/-
  OfP.
-/
import Derived.Test.YtmknjifmmmnjjaaGreatDoorOK
import Derived.Test.YtmknjifmmmnjjaaGreatDoorOM
namespace Go.Proofs.YtmknjifmmmnjjaaGreatDoor
set_option maxRecDepth 100000
set_option linter.unusedVariables false
set_option linter.unusedSimpArgs false
set_option linter.unusedSectionVars false

/-! spec.l3Put: one list more, at its place. -/
section
open Go.RowKit

/-- what lies behind the first append of the line -/
structure InsV (w W : World) (v : Value) (L : List Value) : Prop where
  own : W.ownsRow w.heap.size 24 1 v L.length L
  bel : Below w.heap.size w W
theorem InsV.app {w W w1 : World} {v v' : Value} {m : Nat} {L M : List Value} (h : InsV w W v L) (hown' : w1.ownsRow w.heap.size 24 1 v' (L.length + m) (L ++ M)) (hM : M.length = m) (hgrow : W.grownBy w1 v.ownBlock) : InsV w w1 v' (L ++ M) :=
  ⟨by rw [List.length_append, hM]; exact hown', h.bel.grown hgrow h.bel.size (fun k e => (h.own.lt k e).1)⟩
theorem InsV.alloc {w W : World} {v : Value} {L : List Value} (h : InsV w W v L) (o : Obj) : InsV w (W.alloc o) v L := ⟨h.own.alloc o, h.bel.alloc h.bel.size o⟩
theorem insV_lit {w W : World} (hB : Below w.heap.size w W) : InsV w (W.alloc (.cells #[] 24)) (.slice (some ⟨W.heap.size, 0, none⟩) 0 0) [] :=
  ⟨own_base (World.ownsRow_lit (base := W.heap.size) (e := 24) (size := 1) W #[] 0 (Nat.le_refl _) (by simp [maxLen]) rfl) hB.size, hB.alloc hB.size _⟩
theorem one_atV {W : World} {B : Nat} {u : Value} (h : W.cell? ⟨B, 0, none⟩ = some u) : ∀ (j : Nat) (x : Value), [u][j]? = some x → W.cell? ((⟨B, 0, none⟩ : Addr).add j) = some x := fun j x hx => by
  match j, hx with
  | 0, hx =>
    simp at hx; subst hx
    rw [Addr.add_mid]; exact h
  | j + 1, hx => simp at hx
theorem ocapV {w : World} {base size n N c : Nat} {e : TypeId} {a : Addr} {xs : List Value} (h : w.ownsRow base e size (.slice (some a) N c) n xs) : N = n ∧ n ≤ c ∧ c ≤ maxLen := by
  rcases h.2 with ⟨h1, _⟩ | ⟨g, cap, cur, h1, _, _, h2, h3, _⟩
  · cases h1
  · cases h1; exact ⟨rfl, h2, h3⟩
theorem news_atV {W : World} {base g t cp : Nat} {vs : List Value} (h : W.ownsRow base 24 1 (.slice (some ⟨g, 0, none⟩) t cp) t vs) (q k : Nat) :
    ∀ j u, ((vs.drop q).take k)[j]? = some u → W.cell? ((⟨g, q, none⟩ : Addr).add j) = some u := fun j u hu => by
  rw [List.getElem?_take] at hu
  split at hu
  · rw [List.getElem?_drop] at hu
    have := h.cells rfl (q + j) u hu
    rw [Addr.add_mid] at this ⊢
    rw [Nat.zero_add] at this; exact this
  · cases hu
set_option maxHeartbeats 16000000 in
theorem l3Put_any (g t cp base : Nat) (B : Option Addr) (m d : Nat) (vs : List Value) (zs : List (List Int)) (f : List Int) (w : World) (hov : OV w base (.slice (some ⟨g, 0, none⟩) t cp) vs zs) (hf : RI w B m f) (ht : t ≤ 1048576)
    (hl : ∀ L ∈ zs, L.length ≤ 1048576) (hm : m ≤ 1048576) (hno : fndI zs f < 0) :
    Calls Tryz.prog 136 #[.slice (some ⟨g, 0, none⟩) t cp, .slice B m d] w fun e w' => ∃ (v : Value) (k : Nat), e = .returned v ∧ k ≤ t ∧ w'.ownsRow w.heap.size 24 1 v (t + 1) ((vs.take k ++ [.slice B m d]) ++ vs.drop k) ∧ (∀ M ∈ zs.drop k, lexB f M = true) ∧ (k ≠ 0 → lexB f (ent zs (k - 1)) = false) ∧ Below w.heap.size w w' := by
  obtain ⟨i0, hi, hz0, hz1, hz2⟩ := info_parts info_ints
  have hcap := ocapV hov.row
  have HL : Hid (zs.length = t) := hcap.1.symm
  have hrow : w.ownsRow base 24 1 (.slice (some ⟨g, 0, none⟩) t cp) t vs := by have := hov.row; rwa [← hcap.1] at this
  have hR : RSS w (some ⟨g, 0, none⟩) t zs := by have := (RSS.of_own hov.oss).2; rwa [← hcap.1] at this
  have hgl : g < w.heap.size := (hrow.lt g rfl).2
  have hVL : vs.length = t := by have := hrow.1; omega
  have hcp : t ≤ cp := by have := hcap.2.1; omega
  have HONE : Hid (∀ u ∈ vs, u.oneCell' = true) := inn_one hov.inn
  have HROW := Lib.hid hrow
  have HR := Lib.hid hR
  have HF := Lib.hid hf
  have hfd := l3Find_any (some ⟨g, 0, none⟩) B t m cp d zs f w hR hf ht hl
  have HLE : Hid (∀ p : Nat, (ent zs p).length ≤ 1048576) := fun p => get_len zs (k := p) hl
  clear hov hrow hR hf hl hcap
  generalize fndI zs f = r at hfd hno
  have hd0 : decide ((0 : Int) ≤ r) = false := decide_eq_false (by omega)
  have hd1 : decide (r ≥ (0 : Int)) = false := decide_eq_false (by omega)
  go_enter Tryz.func136, Tryz.ntmps136
  go_wp2_with fail
  refine hfd.mono ?_
  rintro e w1 ⟨rfl, hq1⟩
  have hB1 : Below w.heap.size w w1 := by obtain ⟨q, rfl⟩ := hq1; exact ⟨rfl, rfl, rfl, Nat.le_refl _, fun _ _ => rfl⟩
  clear hq1 hfd
  go_wp2
  go_loopw [5] (fun k wr => ∃ q : Nat, q ≤ t ∧ k = .int .i64 (q : Int) ∧ Hid (∀ M ∈ zs.drop q, lexB f M = true) ∧ Below w.heap.size w wr) (fun k _ => (intOf k).toNat)
  case atStart => exact ⟨t, Nat.le_refl _, rfl, (fun y hy => by rw [List.drop_eq_nil_of_le (by rw [HL.out]; exact Nat.le_refl _)] at hy; cases hy), hB1⟩
  case round =>
    clear hB1
    obtain ⟨q, hq, rfl, HD, hB⟩ := hrel
    by_cases hq0 : 0 < q
    · obtain ⟨p, hpq⟩ : ∃ p, p + 1 = q := ⟨q - 1, by omega⟩
      have hqp : (q : Int) - 1 = (p : Int) := by omega
      have hp6 : p ≤ 1048576 := by omega
      have hg1 : decide ((0 : Int) < (q : Int)) = true := decide_eq_true (by omega)
      have hpt : (p : Int) < (t : Int) := by omega
      obtain ⟨ad, Ai, ci, hA, hab, hc, hri⟩ := (HR.out.below hB).at_ (k := p) (by omega)
      injection hA with hA
      subst hA
      have hent : zs[p]?.getD [] = ent zs p := rfl
      rw [hent] at hc hri
      rw [Addr.add_mid, Nat.zero_add] at hc
      have HLQ : Hid (p < q) := by show _ < _; omega
      have HPT : Hid (p ≤ t) := by show _ ≤ _; omega
      have hle := l3Less_any B Ai m _ d ci f (ent zs p) wr (HF.out.below hB) hri hm
      have HDN : Hid (lexB f (ent zs p) = true → ∀ M ∈ zs.drop p, lexB f M = true) := fun h => drop_step (by rw [HL.out]; omega) h (by rw [hpq]; exact HD.out)
      have HLST : Hid (lexB f (ent zs p) = false → q ≠ 0 → lexB f (ent zs (q - 1)) = false) := fun h _ => by rw [← hpq, Nat.add_sub_cancel]; exact h
      have hw1 := (wrap_small hp6).1
      have hw2 := (wrap_small hp6).2
      clear hent hri hab
      generalize (ent zs p).length = y at hc hle
      cases hx : lexB f (ent zs p)
      · have HKL := Lib.hid (HLST.out hx)
        rw [hx] at hle
        clear hx HDN HLST hpq
        go_wp2_with fail
        refine hle.mono ?_
        rintro e w2 ⟨rfl, hq2⟩
        have hB2 : Below w.heap.size w w2 := by obtain ⟨q, rfl⟩ := hq2; exact hB.trans ⟨rfl, rfl, rfl, Nat.le_refl _, fun _ _ => rfl⟩
        clear hq2 hle hw1 hw2 hc hB
        go_wp2_with fail
        have hwr := hB2.size
        have hBd : Below w.heap.size w w2.drew := ⟨hB2.os, hB2.tape, hB2.output, hB2.size, hB2.block⟩
        have hqc : q ≤ cp := by omega
        have HSRC : Hid (∀ W : World, Below w.heap.size w W → W.ownsRow base 24 1 (.slice (some ⟨g, 0, none⟩) t cp) t vs) := fun W hW => own_below HROW.out hW
        have hI0 : InsV w (w2.drew.alloc (.cells #[] 24)) (.slice (some ⟨w2.heap.size, 0, none⟩) 0 0) [] := insV_lit hBd
        have hIb := hI0.alloc (.cells #[.slice B m d] 24)
        have hIc : InsV w ((w2.drew.alloc (.cells #[.slice B m d] 24)).alloc (.cells #[] 24)) (.slice (some ⟨w2.heap.size + 1, 0, none⟩) 0 0) [] := by
          have := insV_lit (hBd.alloc hBd.size (.cells #[.slice B m d] 24))
          rwa [World.size_alloc] at this
        have hXb : ((w2.drew.alloc (.cells #[] 24)).alloc (.cells #[.slice B m d] 24)).cell? ⟨w2.heap.size + 1, 0, none⟩ = some (.slice B m d) := by
          have := cell_one_new (w2.drew.alloc (.cells #[] 24)) (.slice B m d) 24 0 _ rfl
          rw [World.size_alloc] at this
          exact this
        have hXc : ((w2.drew.alloc (.cells #[.slice B m d] 24)).alloc (.cells #[] 24)).cell? ⟨w2.heap.size, 0, none⟩ = some (.slice B m d) := (World.cell?_alloc_lt _ _ ⟨w2.heap.size, 0, none⟩ (by show w2.heap.size < (w2.drew.alloc _).heap.size; simp)).trans (cell_one_new w2.drew (.slice B m d) 24 0 _ rfl)
        have hn1 := news_atV (HSRC.out _ hI0.bel) 0 q
        have hnb := news_atV (HSRC.out _ hIb.bel) 0 q
        have hnc := news_atV (HSRC.out _ hIc.bel) 0 q
        have hneb : some w2.heap.size.succ ≠ (Value.slice (some ⟨w2.heap.size, 0, none⟩) 0 0).ownBlock := by simp [Value.ownBlock]
        have hnec : some w2.heap.size ≠ (Value.slice (some ⟨w2.heap.size + 1, 0, none⟩) 0 0).ownBlock := by simp [Value.ownBlock]
        have hE0 : (w2.drew.alloc (.cells #[] 24)).ownsRow w.heap.size 24 1 (.slice (some ⟨w2.heap.size, 0, none⟩) 0 0) 0 [] := hI0.own
        have hM1 : ((vs.drop 0).take q).length = q := by simp; omega
        have hL1 : ([] ++ (vs.drop 0).take q).length = q := by simp; omega
        have hL2 : (([] ++ (vs.drop 0).take q) ++ [Value.slice B m d]).length = q + 1 := by rw [List.length_append, hL1]; rfl
        have hl1 : ((vs.drop 0).take q).length = q * 1 := by rw [hM1, Nat.mul_one]
        have ho1 : ∀ u ∈ (vs.drop 0).take q, u.oneCell' = true := fun u hu => HONE.out u (List.mem_of_mem_drop (List.mem_of_mem_take hu))
        have ho2 : ∀ u ∈ [Value.slice B m d], u.oneCell' = true := fun u hu => by rw [List.mem_singleton.1 hu]; rfl
        have ho3 : ∀ u ∈ (vs.drop q).take (t - q), u.oneCell' = true := fun u hu => HONE.out u (List.mem_of_mem_drop (List.mem_of_mem_take hu))
        have b1 : 0 + q ≤ maxLen := by unfold maxLen; omega
        have b2 : (0 + q) * 24 ≤ 140737488355328 := by omega
        have b3 : w.heap.size ≤ (w2.drew.alloc (.cells #[] 24)).heap.size := by simp; omega
        have b4 : q + 1 ≤ maxLen := by unfold maxLen; omega
        have b5 : (q + 1) * 24 ≤ 140737488355328 := by omega
        have b6 : q + 1 + (t - q) ≤ maxLen := by unfold maxLen; omega
        have b7 : (q + 1 + (t - q)) * 24 ≤ 140737488355328 := by omega
        have hM3 : ((vs.drop q).take (t - q)).length = t - q := by simp; omega
        have hl3 : ((vs.drop q).take (t - q)).length = (t - q) * 1 := by rw [hM3, Nat.mul_one]
        have HLEN : Hid (q + 1 + (t - q) = t + 1) := by show _ = _; omega
        have HLST : Hid ((([] ++ (vs.drop 0).take q) ++ [Value.slice B m d]) ++ (vs.drop q).take (t - q) = (vs.take q ++ [.slice B m d]) ++ vs.drop q) := by
          show _ = _
          rw [List.nil_append, List.drop_zero, List.take_of_length_le (show (vs.drop q).length ≤ t - q by rw [List.length_drop]; omega)]
        obtain ⟨AD, hAD, hn3⟩ : ∃ AD : Addr, (if cp = q then some (⟨g, 0, none⟩ : Addr) else some ⟨g, q, none⟩) = some AD ∧ (∀ W : World, W.ownsRow base 24 1 (.slice (some ⟨g, 0, none⟩) t cp) t vs → ∀ j u, ((vs.drop q).take (t - q))[j]? = some u → W.cell? (AD.add j) = some u) := by
          by_cases e : cp = q
          · refine ⟨⟨g, 0, none⟩, if_pos e, fun W _ j u hu => ?_⟩
            have : t - q = 0 := by omega
            rw [this] at hu; simp at hu
          · exact ⟨⟨g, q, none⟩, if_neg e, fun W hW => news_atV hW q (t - q)⟩
        go_region_law (first
                      | (refine step_app_at _ rfl _ _ 23 rfl w.heap.size 24 i0 (.slice none 0 0) 1 24 Tryz.underlying23 hi hz0 hz1 hz2 rfl (by decide) (.slice (some ⟨w2.heap.size, 0, none⟩) 0 0) 0 [] rfl hE0 ⟨g, 0, none⟩ q cp ((vs.drop 0).take q) rfl hl1 hn1 ho1 b1 b2 b3 ?_
                         intro v1 w1 hown1 hgrow1 _ hat1
                         have hI1 := InsV.app hI0 hown1 hM1 hgrow1
                         have hI1x := hI1.alloc (.cells #[.slice B m d] 24)
                         obtain ⟨A1, c1, hv1⟩ := own_slice hI1.own
                         rw [hL1] at hv1
                         subst hv1
                         clear hown1 hgrow1 hat1)
                      | (refine step_app_at _ rfl _ _ 23 rfl w.heap.size 24 i0 (.slice none 0 0) 1 24 Tryz.underlying23 hi hz0 hz1 hz2 rfl (by decide) (.slice (some ⟨w2.heap.size, 0, none⟩) 0 0) 0 [] rfl hIb.own ⟨g, 0, none⟩ q cp ((vs.drop 0).take q) rfl hl1 hnb ho1 b1 b2 hIb.bel.size ?_
                         intro v1 w1 hown1 hgrow1 _ hat1
                         have hI1 := InsV.app hIb hown1 hM1 hgrow1
                         have hX1 := (hgrow1.cell hXb hneb)
                         obtain ⟨A1, c1, hv1⟩ := own_slice hI1.own
                         rw [hL1] at hv1
                         subst hv1
                         clear hown1 hgrow1 hat1)
                      | (refine step_app_at _ rfl _ _ 23 rfl w.heap.size 24 i0 (.slice none 0 0) 1 24 Tryz.underlying23 hi hz0 hz1 hz2 rfl (by decide) (.slice (some ⟨w2.heap.size + 1, 0, none⟩) 0 0) 0 [] rfl hIc.own ⟨g, 0, none⟩ q cp ((vs.drop 0).take q) rfl hl1 hnc ho1 b1 b2 hIc.bel.size ?_
                         intro v1 w1 hown1 hgrow1 _ hat1
                         have hI1 := InsV.app hIc hown1 hM1 hgrow1
                         have hX1 := (hgrow1.cell hXc hnec)
                         obtain ⟨A1, c1, hv1⟩ := own_slice hI1.own
                         rw [hL1] at hv1
                         subst hv1
                         clear hown1 hgrow1 hat1)
                      | (refine step_app_at _ rfl _ _ 23 rfl w.heap.size 24 i0 (.slice none 0 0) 1 24 Tryz.underlying23 hi hz0 hz1 hz2 rfl (by decide) _ _ _ rfl hI1x.own ⟨w1.heap.size, 0, none⟩ 1 1 [.slice B m d] rfl rfl (cell_one_new _ _ _) ho2 (by rw [hL1]; exact b4) (by rw [hL1]; exact b5) hI1x.bel.size ?_
                         intro v2 w2q hown2 hgrow2 _ hat2
                         have hI2 := InsV.app hI1x hown2 rfl hgrow2
                         obtain ⟨A2, c2, hv2⟩ := own_slice hI2.own
                         rw [hL2] at hv2
                         subst hv2
                         clear hown2 hgrow2 hat2)
                      | (refine step_app_at _ rfl _ _ 23 rfl w.heap.size 24 i0 (.slice none 0 0) 1 24 Tryz.underlying23 hi hz0 hz1 hz2 rfl (by decide) _ _ _ rfl hI1.own ⟨w2.heap.size + 1, 0, none⟩ 1 1 [.slice B m d] rfl rfl (one_atV hX1) ho2 (by rw [hL1]; exact b4) (by rw [hL1]; exact b5) hI1.bel.size ?_
                         intro v2 w2q hown2 hgrow2 _ hat2
                         have hI2 := InsV.app hI1 hown2 rfl hgrow2
                         obtain ⟨A2, c2, hv2⟩ := own_slice hI2.own
                         rw [hL2] at hv2
                         subst hv2
                         clear hown2 hgrow2 hat2)
                      | (refine step_app_at _ rfl _ _ 23 rfl w.heap.size 24 i0 (.slice none 0 0) 1 24 Tryz.underlying23 hi hz0 hz1 hz2 rfl (by decide) _ _ _ rfl hI1.own ⟨w2.heap.size, 0, none⟩ 1 1 [.slice B m d] rfl rfl (one_atV hX1) ho2 (by rw [hL1]; exact b4) (by rw [hL1]; exact b5) hI1.bel.size ?_
                         intro v2 w2q hown2 hgrow2 _ hat2
                         have hI2 := InsV.app hI1 hown2 rfl hgrow2
                         obtain ⟨A2, c2, hv2⟩ := own_slice hI2.own
                         rw [hL2] at hv2
                         subst hv2
                         clear hown2 hgrow2 hat2)
                      | (refine step_app_at _ rfl _ _ 23 rfl w.heap.size 24 i0 (.slice none 0 0) 1 24 Tryz.underlying23 hi hz0 hz1 hz2 rfl (by decide) _ _ _ rfl hI2.own AD (t - q) (cp - q) ((vs.drop q).take (t - q)) rfl hl3 (hn3 _ (HSRC.out _ hI2.bel)) ho3 (by rw [List.length_append, hL1]; exact b6) (by rw [List.length_append, hL1]; exact b7) hI2.bel.size ?_
                         intro v3 w3 hown3 hgrow3 _ hat3
                         have hI3 := InsV.app hI2 hown3 hM3 hgrow3
                         have hfin := hI3.own
                         rw [HLST.out] at hfin
                         have hfl : ((vs.take q ++ [Value.slice B m d]) ++ vs.drop q).length = t + 1 := by simp; omega
                         rw [hfl] at hfin
                         obtain ⟨A3, c3, hv3⟩ := own_slice hfin
                         subst hv3
                         clear hown3 hgrow3 hat3 hfl))
        all_goals go_simp
        all_goals go_wp2
        all_goals go_ret
        all_goals exact ⟨_, q, rfl, hq, hfin, HD.out, HKL.out, hI3.bel⟩
      · have HD2 := Lib.hid (HDN.out hx)
        rw [hx] at hle
        clear hx HDN HLST hpq
        go_wp2_with fail
        refine hle.mono ?_
        rintro e w2 ⟨rfl, hq2⟩
        have hB2 : Below w.heap.size w w2 := by obtain ⟨q, rfl⟩ := hq2; exact hB.trans ⟨rfl, rfl, rfl, Nat.le_refl _, fun _ _ => rfl⟩
        clear hq2 hle hc hB
        go_wp2
        clear hw1 hw2
        go_roundw
        case rel => exact ⟨p, HPT.out, rfl, HD2, hB2⟩
        case measure => have := HLQ.out; simp [intOf]; omega
    · have hqz : q = 0 := by omega
      have hg1 : decide ((0 : Int) < (q : Int)) = false := decide_eq_false (by omega)
      have hg2 : decide (0 < q) = false := decide_eq_false (by omega)
      have HKL : Hid (q ≠ 0 → lexB f (ent zs (q - 1)) = false) := fun h => absurd hqz h
      have hB2 := hB
      obtain ⟨w2, rfl⟩ : ∃ w2, w2 = wr := ⟨wr, rfl⟩
      clear hqz hq0 hB
      go_wp2_with fail
      have hwr := hB2.size
      have hBd : Below w.heap.size w w2.drew := ⟨hB2.os, hB2.tape, hB2.output, hB2.size, hB2.block⟩
      have hqc : q ≤ cp := by omega
      have HSRC : Hid (∀ W : World, Below w.heap.size w W → W.ownsRow base 24 1 (.slice (some ⟨g, 0, none⟩) t cp) t vs) := fun W hW => own_below HROW.out hW
      have hI0 : InsV w (w2.drew.alloc (.cells #[] 24)) (.slice (some ⟨w2.heap.size, 0, none⟩) 0 0) [] := insV_lit hBd
      have hIb := hI0.alloc (.cells #[.slice B m d] 24)
      have hIc : InsV w ((w2.drew.alloc (.cells #[.slice B m d] 24)).alloc (.cells #[] 24)) (.slice (some ⟨w2.heap.size + 1, 0, none⟩) 0 0) [] := by
        have := insV_lit (hBd.alloc hBd.size (.cells #[.slice B m d] 24))
        rwa [World.size_alloc] at this
      have hXb : ((w2.drew.alloc (.cells #[] 24)).alloc (.cells #[.slice B m d] 24)).cell? ⟨w2.heap.size + 1, 0, none⟩ = some (.slice B m d) := by
        have := cell_one_new (w2.drew.alloc (.cells #[] 24)) (.slice B m d) 24 0 _ rfl
        rw [World.size_alloc] at this
        exact this
      have hXc : ((w2.drew.alloc (.cells #[.slice B m d] 24)).alloc (.cells #[] 24)).cell? ⟨w2.heap.size, 0, none⟩ = some (.slice B m d) := (World.cell?_alloc_lt _ _ ⟨w2.heap.size, 0, none⟩ (by show w2.heap.size < (w2.drew.alloc _).heap.size; simp)).trans (cell_one_new w2.drew (.slice B m d) 24 0 _ rfl)
      have hn1 := news_atV (HSRC.out _ hI0.bel) 0 q
      have hnb := news_atV (HSRC.out _ hIb.bel) 0 q
      have hnc := news_atV (HSRC.out _ hIc.bel) 0 q
      have hneb : some w2.heap.size.succ ≠ (Value.slice (some ⟨w2.heap.size, 0, none⟩) 0 0).ownBlock := by simp [Value.ownBlock]
      have hnec : some w2.heap.size ≠ (Value.slice (some ⟨w2.heap.size + 1, 0, none⟩) 0 0).ownBlock := by simp [Value.ownBlock]
      have hE0 : (w2.drew.alloc (.cells #[] 24)).ownsRow w.heap.size 24 1 (.slice (some ⟨w2.heap.size, 0, none⟩) 0 0) 0 [] := hI0.own
      have hM1 : ((vs.drop 0).take q).length = q := by simp; omega
      have hL1 : ([] ++ (vs.drop 0).take q).length = q := by simp; omega
      have hL2 : (([] ++ (vs.drop 0).take q) ++ [Value.slice B m d]).length = q + 1 := by rw [List.length_append, hL1]; rfl
      have hl1 : ((vs.drop 0).take q).length = q * 1 := by rw [hM1, Nat.mul_one]
      have ho1 : ∀ u ∈ (vs.drop 0).take q, u.oneCell' = true := fun u hu => HONE.out u (List.mem_of_mem_drop (List.mem_of_mem_take hu))
      have ho2 : ∀ u ∈ [Value.slice B m d], u.oneCell' = true := fun u hu => by rw [List.mem_singleton.1 hu]; rfl
      have ho3 : ∀ u ∈ (vs.drop q).take (t - q), u.oneCell' = true := fun u hu => HONE.out u (List.mem_of_mem_drop (List.mem_of_mem_take hu))
      have b1 : 0 + q ≤ maxLen := by unfold maxLen; omega
      have b2 : (0 + q) * 24 ≤ 140737488355328 := by omega
      have b3 : w.heap.size ≤ (w2.drew.alloc (.cells #[] 24)).heap.size := by simp; omega
      have b4 : q + 1 ≤ maxLen := by unfold maxLen; omega
      have b5 : (q + 1) * 24 ≤ 140737488355328 := by omega
      have b6 : q + 1 + (t - q) ≤ maxLen := by unfold maxLen; omega
      have b7 : (q + 1 + (t - q)) * 24 ≤ 140737488355328 := by omega
      have hM3 : ((vs.drop q).take (t - q)).length = t - q := by simp; omega
      have hl3 : ((vs.drop q).take (t - q)).length = (t - q) * 1 := by rw [hM3, Nat.mul_one]
      have HLEN : Hid (q + 1 + (t - q) = t + 1) := by show _ = _; omega
      have HLST : Hid ((([] ++ (vs.drop 0).take q) ++ [Value.slice B m d]) ++ (vs.drop q).take (t - q) = (vs.take q ++ [.slice B m d]) ++ vs.drop q) := by
        show _ = _
        rw [List.nil_append, List.drop_zero, List.take_of_length_le (show (vs.drop q).length ≤ t - q by rw [List.length_drop]; omega)]
      obtain ⟨AD, hAD, hn3⟩ : ∃ AD : Addr, (if cp = q then some (⟨g, 0, none⟩ : Addr) else some ⟨g, q, none⟩) = some AD ∧ (∀ W : World, W.ownsRow base 24 1 (.slice (some ⟨g, 0, none⟩) t cp) t vs → ∀ j u, ((vs.drop q).take (t - q))[j]? = some u → W.cell? (AD.add j) = some u) := by
        by_cases e : cp = q
        · refine ⟨⟨g, 0, none⟩, if_pos e, fun W _ j u hu => ?_⟩
          have : t - q = 0 := by omega
          rw [this] at hu; simp at hu
        · exact ⟨⟨g, q, none⟩, if_neg e, fun W hW => news_atV hW q (t - q)⟩
      go_region_law (first
                    | (refine step_app_at _ rfl _ _ 23 rfl w.heap.size 24 i0 (.slice none 0 0) 1 24 Tryz.underlying23 hi hz0 hz1 hz2 rfl (by decide) (.slice (some ⟨w2.heap.size, 0, none⟩) 0 0) 0 [] rfl hE0 ⟨g, 0, none⟩ q cp ((vs.drop 0).take q) rfl hl1 hn1 ho1 b1 b2 b3 ?_
                       intro v1 w1 hown1 hgrow1 _ hat1
                       have hI1 := InsV.app hI0 hown1 hM1 hgrow1
                       have hI1x := hI1.alloc (.cells #[.slice B m d] 24)
                       obtain ⟨A1, c1, hv1⟩ := own_slice hI1.own
                       rw [hL1] at hv1
                       subst hv1
                       clear hown1 hgrow1 hat1)
                    | (refine step_app_at _ rfl _ _ 23 rfl w.heap.size 24 i0 (.slice none 0 0) 1 24 Tryz.underlying23 hi hz0 hz1 hz2 rfl (by decide) (.slice (some ⟨w2.heap.size, 0, none⟩) 0 0) 0 [] rfl hIb.own ⟨g, 0, none⟩ q cp ((vs.drop 0).take q) rfl hl1 hnb ho1 b1 b2 hIb.bel.size ?_
                       intro v1 w1 hown1 hgrow1 _ hat1
                       have hI1 := InsV.app hIb hown1 hM1 hgrow1
                       have hX1 := (hgrow1.cell hXb hneb)
                       obtain ⟨A1, c1, hv1⟩ := own_slice hI1.own
                       rw [hL1] at hv1
                       subst hv1
                       clear hown1 hgrow1 hat1)
                    | (refine step_app_at _ rfl _ _ 23 rfl w.heap.size 24 i0 (.slice none 0 0) 1 24 Tryz.underlying23 hi hz0 hz1 hz2 rfl (by decide) (.slice (some ⟨w2.heap.size + 1, 0, none⟩) 0 0) 0 [] rfl hIc.own ⟨g, 0, none⟩ q cp ((vs.drop 0).take q) rfl hl1 hnc ho1 b1 b2 hIc.bel.size ?_
                       intro v1 w1 hown1 hgrow1 _ hat1
                       have hI1 := InsV.app hIc hown1 hM1 hgrow1
                       have hX1 := (hgrow1.cell hXc hnec)
                       obtain ⟨A1, c1, hv1⟩ := own_slice hI1.own
                       rw [hL1] at hv1
                       subst hv1
                       clear hown1 hgrow1 hat1)
                    | (refine step_app_at _ rfl _ _ 23 rfl w.heap.size 24 i0 (.slice none 0 0) 1 24 Tryz.underlying23 hi hz0 hz1 hz2 rfl (by decide) _ _ _ rfl hI1x.own ⟨w1.heap.size, 0, none⟩ 1 1 [.slice B m d] rfl rfl (cell_one_new _ _ _) ho2 (by rw [hL1]; exact b4) (by rw [hL1]; exact b5) hI1x.bel.size ?_
                       intro v2 w2q hown2 hgrow2 _ hat2
                       have hI2 := InsV.app hI1x hown2 rfl hgrow2
                       obtain ⟨A2, c2, hv2⟩ := own_slice hI2.own
                       rw [hL2] at hv2
                       subst hv2
                       clear hown2 hgrow2 hat2)
                    | (refine step_app_at _ rfl _ _ 23 rfl w.heap.size 24 i0 (.slice none 0 0) 1 24 Tryz.underlying23 hi hz0 hz1 hz2 rfl (by decide) _ _ _ rfl hI1.own ⟨w2.heap.size + 1, 0, none⟩ 1 1 [.slice B m d] rfl rfl (one_atV hX1) ho2 (by rw [hL1]; exact b4) (by rw [hL1]; exact b5) hI1.bel.size ?_
                       intro v2 w2q hown2 hgrow2 _ hat2
                       have hI2 := InsV.app hI1 hown2 rfl hgrow2
                       obtain ⟨A2, c2, hv2⟩ := own_slice hI2.own
                       rw [hL2] at hv2
                       subst hv2
                       clear hown2 hgrow2 hat2)
                    | (refine step_app_at _ rfl _ _ 23 rfl w.heap.size 24 i0 (.slice none 0 0) 1 24 Tryz.underlying23 hi hz0 hz1 hz2 rfl (by decide) _ _ _ rfl hI1.own ⟨w2.heap.size, 0, none⟩ 1 1 [.slice B m d] rfl rfl (one_atV hX1) ho2 (by rw [hL1]; exact b4) (by rw [hL1]; exact b5) hI1.bel.size ?_
                       intro v2 w2q hown2 hgrow2 _ hat2
                       have hI2 := InsV.app hI1 hown2 rfl hgrow2
                       obtain ⟨A2, c2, hv2⟩ := own_slice hI2.own
                       rw [hL2] at hv2
                       subst hv2
                       clear hown2 hgrow2 hat2)
                    | (refine step_app_at _ rfl _ _ 23 rfl w.heap.size 24 i0 (.slice none 0 0) 1 24 Tryz.underlying23 hi hz0 hz1 hz2 rfl (by decide) _ _ _ rfl hI2.own AD (t - q) (cp - q) ((vs.drop q).take (t - q)) rfl hl3 (hn3 _ (HSRC.out _ hI2.bel)) ho3 (by rw [List.length_append, hL1]; exact b6) (by rw [List.length_append, hL1]; exact b7) hI2.bel.size ?_
                       intro v3 w3 hown3 hgrow3 _ hat3
                       have hI3 := InsV.app hI2 hown3 hM3 hgrow3
                       have hfin := hI3.own
                       rw [HLST.out] at hfin
                       have hfl : ((vs.take q ++ [Value.slice B m d]) ++ vs.drop q).length = t + 1 := by simp; omega
                       rw [hfl] at hfin
                       obtain ⟨A3, c3, hv3⟩ := own_slice hfin
                       subst hv3
                       clear hown3 hgrow3 hat3 hfl))
      all_goals go_simp
      all_goals go_wp2
      all_goals go_ret
      all_goals exact ⟨_, q, rfl, hq, hfin, HD.out, HKL.out, hI3.bel⟩
end

end Go.Proofs.YtmknjifmmmnjjaaGreatDoor
