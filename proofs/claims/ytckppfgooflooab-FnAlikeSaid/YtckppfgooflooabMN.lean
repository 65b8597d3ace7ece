/-
  DrawC.
-/
import Derived.Test.YtckppfgooflooabMF
import Derived.Test.YtckppfgooflooabMK
namespace Go.Proofs.Ytckppfgooflooab
set_option maxRecDepth 100000
set_option linter.unusedVariables false
set_option linter.unusedSimpArgs false
set_option linter.unusedSectionVars false

/-! The draw of two charts, often alike. -/
section
open Go.RowKit

/-- a row built in new memory beside an older one, all since the world u -/
structure Inr (u W : World) (B g t cp : Nat) (S : List Int) (v : Value) (L : List Int) : Prop where
  own : W.ownsRow u.heap.size 3 1 v L.length (ivs L)
  src : W.ownsRow B 3 1 (.slice (some ⟨g, 0, none⟩) t cp) t (ivs S)
  gu : g < u.heap.size
  bel : Below u.heap.size u W
theorem Inr.app {u W W0 w1 : World} {B g t cp m : Nat} {S L M : List Int} {v v' : Value} (h : Inr u W B g t cp S v L) (ha : Below W.heap.size W W0)
    (hown' : w1.ownsRow u.heap.size 3 1 v' (L.length + m) (ivs L ++ ivs M)) (hM : M.length = m) (hgrow : W0.grownBy w1 v.ownBlock) (_ : v'.ownBlock = v.ownBlock ∨ v'.ownBlock = some W0.heap.size) : Inr u w1 B g t cp S v' (L ++ M) := by
  have hs0 := (own_below h.src ha)
  have hB0 := h.bel.trans (ha.mono h.bel.size)
  refine ⟨?_, hs0.kept hgrow (.inr (fun e => by have := (h.own.lt g e.symm).1; have := h.gu; omega)), h.gu, hB0.grown hgrow hB0.size (fun k e => ((own_below h.own ha).lt k e).1)⟩
  have e1 : ivs (L ++ M) = ivs L ++ ivs M := by simp [ivs]
  rw [List.length_append, hM, e1]; exact hown'
theorem Inr.mono {u W W' : World} {B g t cp : Nat} {S L : List Int} {v : Value} (h : Inr u W B g t cp S v L) (ha : Below W.heap.size W W') : Inr u W' B g t cp S v L :=
  ⟨own_below h.own ha, own_below h.src ha, h.gu, h.bel.trans (ha.mono h.bel.size)⟩
theorem inr_lit {u W : World} {B g t cp : Nat} {S : List Int} (h : W.ownsRow B 3 1 (.slice (some ⟨g, 0, none⟩) t cp) t (ivs S)) (hB : Below u.heap.size u W) (hg : g < u.heap.size) : Inr u (W.alloc (.cells #[] 3)) B g t cp S (.slice (some ⟨W.heap.size, 0, none⟩) 0 0) [] :=
  ⟨own_le (own_lit0 W) hB.size, h.alloc _, hg, hB.alloc hB.size _⟩

set_option maxHeartbeats 1000000 in
theorem drawAlike_any (A : Option Addr) (n c : Nat) (bs : Nat → Nat) (w : World) (h : Src w w.heap.size A n bs) (hnc : n ≤ c) (hn : n ≤ 1048576) :
    Calls Try.prog 24 #[.slice A n c] w fun e w' => ∃ v u, e = .returned (.tuple #[v, u]) ∧ TwoL w v u w' := by
  obtain ⟨i0, hi, hz0, hz1, hz2⟩ := info_parts info_int
  go_enter Try.func24, Try.ntmps24
  go_wp2_with fail
  refine (open_any _ _ _ _ _ h hnc hn).mono ?_
  rintro e w1 ⟨R, rfl, hRl, hRs, hRd, hB⟩
  clear h
  go_wp2_with fail
  refine (pick_any R 0 5 _ hRd (by omega) (by omega) (by omega)).mono ?_
  rintro e w2 ⟨v0, rfl, hv0, hRd2, hg2⟩
  have hB2 := below_gb hB (Nat.le_refl _) hg2 hRl
  have hR2 := hRd2.lt
  clear hB hRd hg2 hRs
  go_wp2_with fail
  have hc := l91Chart_any R (0 + 1) (1 + v0) w2 hRd2 (by omega) (by omega) (by omega)
  rw [show ((1 + v0 : Nat) : Int) = 1 + (v0 : Int) from by omega] at hc
  refine hc.mono ?_
  rintro e w3 ⟨f, rfl, L, hL, oF, hg3, hRd3⟩
  have hB3 := below_gb hB2 (Nat.le_refl _) hg3 hRl
  have hs2 := hB2.size
  have hR3 := hRd3.lt
  have hs3 := hB3.size
  clear hc hB2 hg3 hRd2
  obtain ⟨P, hP⟩ : ∃ P, P = 0 + 1 + (1 + v0) + 1 := ⟨_, rfl⟩
  rw [← hP] at hRd3
  have hP6 : P ≤ 7 := by omega
  clear hP
  go_wp2
  go_loopw [7, 8] (fun v i wr => ∃ (t : Nat) (S : List Int), t ≤ 1 + v0 ∧ i = .int .i64 (t : Int) ∧ Hid (S.length = t) ∧ Hid (∀ x ∈ S, 0 ≤ x ∧ x < t) ∧ wr.ownsRow w3.heap.size 3 1 v t (ivs S) ∧ v ≠ .slice none 0 0 ∧ w3.grownBy wr (some R) ∧ Rd wr R (P + t)) (fun _ i _ => 1 + v0 - (intOf i).toNat)
  case atStart => exact ⟨0, [], Nat.zero_le _, rfl, Lib.hid rfl, Lib.hid (fun x hx => by cases hx), own_lit0 w3, by simp, gb_alloc (gb_refl w3 _) _, hRd3.grown (row := none) (World.grownBy_alloc _ _ _) (fun _ e => by cases e)⟩
  case round =>
    obtain ⟨t, S, ht, rfl, HSL, HE, hown, hv, hg, hRdt⟩ := hrel
    by_cases hlt : t < 1 + v0
    · obtain ⟨g, cp, rfl⟩ := own_two_slice hown hv
      clear hv hRd3
      go_wp2_with fail
      refine (pick_any R (P + t) (t + 1) _ hRdt (by omega) (by omega) (by omega)).mono ?_
      rintro e wr ⟨q, rfl, hq, hRd1, hg1⟩
      replace hown := own_rd hown hg1 hR3
      replace hg := gb_trans hg hg1
      have hR1 := hRd1.lt
      clear hg1 hRdt
      go_wp2_with fail
      obtain ⟨S2, HLST⟩ : ∃ S2, Hid ((([] ++ (S.drop 0).take q) ++ [(t : Int)]) ++ (S.drop q).take (t - q) = S2) := ⟨_, Lib.hid rfl⟩
      have HLEN : Hid (S2.length = t + 1) := by
        show _ = _
        have := HSL.out
        rw [← HLST.out]; simp; omega
      have HENT : Hid (∀ x ∈ S2, 0 ≤ x ∧ x < ((t + 1 : Nat) : Int)) := fun x hx => by
        rw [← HLST.out] at hx
        rcases List.mem_append.1 hx with hx | hx
        · rcases List.mem_append.1 hx with hx | hx
          · have := HE.out x (by simpa using List.mem_of_mem_take (by simpa using hx)); omega
          · have : x = (t : Int) := by simpa using hx
            omega
        · have := HE.out x (List.mem_of_mem_drop (List.mem_of_mem_take hx)); omega
      have hqt : q ≤ t := by omega
      have hcap := (ocap hown).2
      have hqc : q ≤ cp := by omega
      have hgl := (hown.lt g rfl)
      have hS0 : S.length = t := HSL.out
      have hownd : wr.drew.ownsRow w3.heap.size 3 1 (.slice (some ⟨g, 0, none⟩) t cp) t (ivs S) := hown
      have hBd : Below wr.heap.size wr wr.drew := ⟨rfl, rfl, rfl, Nat.le_refl _, fun _ _ => rfl⟩
      have hI0 : Inr wr (wr.drew.alloc (.cells #[] 3)) w3.heap.size g t cp S (.slice (some ⟨wr.heap.size, 0, none⟩) 0 0) [] := inr_lit hownd hBd hgl.2
      have hIb := hI0.mono ((Below.refl _ _).alloc (Nat.le_refl _) (.cells #[.int .i64 (t : Int)] 3))
      have hIc : Inr wr ((wr.drew.alloc (.cells #[.int .i64 (t : Int)] 3)).alloc (.cells #[] 3)) w3.heap.size g t cp S (.slice (some ⟨wr.heap.size + 1, 0, none⟩) 0 0) [] := by
        have := inr_lit (hownd.alloc (.cells #[.int .i64 (t : Int)] 3)) (hBd.alloc hBd.size _) hgl.2
        rwa [World.size_alloc] at this
      have hXb : ((wr.drew.alloc (.cells #[] 3)).alloc (.cells #[.int .i64 (t : Int)] 3)).cell? ⟨wr.heap.size + 1, 0, none⟩ = some (.int .i64 (t : Int)) := by
        have := cell_one_new (wr.drew.alloc (.cells #[] 3)) (.int .i64 (t : Int)) 3 0 _ rfl
        rw [World.size_alloc] at this
        exact this
      have hXc : ((wr.drew.alloc (.cells #[.int .i64 (t : Int)] 3)).alloc (.cells #[] 3)).cell? ⟨wr.heap.size, 0, none⟩ = some (.int .i64 (t : Int)) := (World.cell?_alloc_lt _ _ ⟨wr.heap.size, 0, none⟩ (by show wr.heap.size < (wr.drew.alloc _).heap.size; simp)).trans (cell_one_new wr.drew (.int .i64 (t : Int)) 3 0 _ rfl)
      have hnb := ins_news hIb.src 0 q (by omega)
      have hnc := ins_news hIc.src 0 q (by omega)
      have hneb : some wr.heap.size.succ ≠ (Value.slice (some ⟨wr.heap.size, 0, none⟩) 0 0).ownBlock := by simp [Value.ownBlock]
      have hnec : some wr.heap.size ≠ (Value.slice (some ⟨wr.heap.size + 1, 0, none⟩) 0 0).ownBlock := by simp [Value.ownBlock]
      have hE0 : (wr.drew.alloc (.cells #[] 3)).ownsRow wr.heap.size 3 1 (.slice (some ⟨wr.heap.size, 0, none⟩) 0 0) 0 [] := hI0.own
      have hM1 : ((S.drop 0).take q).length = q := by simp; omega
      have hL1 : ([] ++ (S.drop 0).take q).length = q := by simp; omega
      have hL2 : (([] ++ (S.drop 0).take q) ++ [(t : Int)]).length = q + 1 := by rw [List.length_append, hL1]; rfl
      have hl1 : (ivs ((S.drop 0).take q)).length = q * 1 := by simp [ivs]; omega
      have hn1 := ins_news hI0.src 0 q (by omega)
      have b1 : 0 + q ≤ maxLen := by unfold maxLen; omega
      have b2 : (0 + q) * 8 ≤ 140737488355328 := by omega
      have b3 : wr.heap.size ≤ (wr.drew.alloc (.cells #[] 3)).heap.size := by simp
      have b4 : q + 1 ≤ maxLen := by unfold maxLen; omega
      have b5 : (q + 1) * 8 ≤ 140737488355328 := by omega
      have b6 : q + 1 + (t - q) ≤ maxLen := by unfold maxLen; omega
      have b7 : (q + 1 + (t - q)) * 8 ≤ 140737488355328 := by omega
      have hM3 : ((S.drop q).take (t - q)).length = t - q := by simp; omega
      have hl3 : (ivs ((S.drop q).take (t - q))).length = (t - q) * 1 := by simp [ivs]; omega
      obtain ⟨AD, hAD, hn3⟩ : ∃ AD : Addr, (if cp = q then some (⟨g, 0, none⟩ : Addr) else some ⟨g, q, none⟩) = some AD ∧ (∀ W : World, W.ownsRow w3.heap.size 3 1 (.slice (some ⟨g, 0, none⟩) t cp) t (ivs S) → ∀ j u, (ivs ((S.drop q).take (t - q)))[j]? = some u → W.cell? (AD.add j) = some u) := by
        by_cases e : cp = q
        · refine ⟨⟨g, 0, none⟩, if_pos e, fun W _ j u hu => ?_⟩
          have : t - q = 0 := by omega
          rw [this] at hu; simp [ivs] at hu
        · exact ⟨⟨g, q, none⟩, if_neg e, fun W hW => ins_news hW q (t - q) (by omega)⟩
      go_region_law (first
                    | (refine step_append_own_at _ rfl _ _ 23 rfl wr.heap.size 3 i0 (.int .i64 0) 1 8 Try.underlying23 hi hz0 hz1 hz2 rfl (by decide) (.slice (some ⟨wr.heap.size, 0, none⟩) 0 0) 0 [] rfl hE0 ⟨g, 0, none⟩ q cp (ivs ((S.drop 0).take q)) rfl hl1 hn1 (ivs_one _) b1 b2 b3 ?_
                       intro v1 w1 hown1 hgrow1 _ hat1
                       have hI1 := Inr.app hI0 (Below.refl _ _) hown1 hM1 hgrow1 hat1
                       have hE1 := hI1.own.alloc (.cells #[.int .i64 (t : Int)] 3)
                       obtain ⟨A1, c1, hv1⟩ := own_slice hI1.own
                       rw [hL1] at hv1
                       subst hv1
                       clear hown1 hgrow1 hat1)
                    | (refine step_append_own_at _ rfl _ _ 23 rfl wr.heap.size 3 i0 (.int .i64 0) 1 8 Try.underlying23 hi hz0 hz1 hz2 rfl (by decide) (.slice (some ⟨wr.heap.size, 0, none⟩) 0 0) 0 [] rfl hIb.own ⟨g, 0, none⟩ q cp (ivs ((S.drop 0).take q)) rfl hl1 hnb (ivs_one _) b1 b2 hIb.bel.size ?_
                       intro v1 w1 hown1 hgrow1 _ hat1
                       have hI1 := Inr.app hIb (Below.refl _ _) hown1 hM1 hgrow1 hat1
                       have hX1 := (hgrow1.cell hXb hneb)
                       obtain ⟨A1, c1, hv1⟩ := own_slice hI1.own
                       rw [hL1] at hv1
                       subst hv1
                       clear hown1 hgrow1 hat1)
                    | (refine step_append_own_at _ rfl _ _ 23 rfl wr.heap.size 3 i0 (.int .i64 0) 1 8 Try.underlying23 hi hz0 hz1 hz2 rfl (by decide) (.slice (some ⟨wr.heap.size + 1, 0, none⟩) 0 0) 0 [] rfl hIc.own ⟨g, 0, none⟩ q cp (ivs ((S.drop 0).take q)) rfl hl1 hnc (ivs_one _) b1 b2 hIc.bel.size ?_
                       intro v1 w1 hown1 hgrow1 _ hat1
                       have hI1 := Inr.app hIc (Below.refl _ _) hown1 hM1 hgrow1 hat1
                       have hX1 := (hgrow1.cell hXc hnec)
                       obtain ⟨A1, c1, hv1⟩ := own_slice hI1.own
                       rw [hL1] at hv1
                       subst hv1
                       clear hown1 hgrow1 hat1)
                    | (refine step_append_own_at _ rfl _ _ 23 rfl wr.heap.size 3 i0 (.int .i64 0) 1 8 Try.underlying23 hi hz0 hz1 hz2 rfl (by decide) _ _ _ rfl hE1 ⟨w1.heap.size, 0, none⟩ 1 1 (ivs [(t : Int)]) rfl rfl (cell_one_new _ _ _) (ivs_one _) (by rw [hL1]; exact b4) (by rw [hL1]; exact b5) (by have := hI1.bel.size; simp; omega) ?_
                       intro v2 w2 hown2 hgrow2 _ hat2
                       have hI2 := Inr.app hI1 ((Below.refl _ _).alloc (Nat.le_refl _) _) hown2 rfl hgrow2 hat2
                       obtain ⟨A2, c2, hv2⟩ := own_slice hI2.own
                       rw [hL2] at hv2
                       subst hv2
                       clear hown2 hgrow2 hat2 hE1)
                    | (refine step_append_own_at _ rfl _ _ 23 rfl wr.heap.size 3 i0 (.int .i64 0) 1 8 Try.underlying23 hi hz0 hz1 hz2 rfl (by decide) _ _ _ rfl hI1.own ⟨wr.heap.size + 1, 0, none⟩ 1 1 (ivs [(t : Int)]) rfl rfl (one_at hX1) (ivs_one _) (by rw [hL1]; exact b4) (by rw [hL1]; exact b5) hI1.bel.size ?_
                       intro v2 w2 hown2 hgrow2 _ hat2
                       have hI2 := Inr.app hI1 (Below.refl _ _) hown2 rfl hgrow2 hat2
                       obtain ⟨A2, c2, hv2⟩ := own_slice hI2.own
                       rw [hL2] at hv2
                       subst hv2
                       clear hown2 hgrow2 hat2)
                    | (refine step_append_own_at _ rfl _ _ 23 rfl wr.heap.size 3 i0 (.int .i64 0) 1 8 Try.underlying23 hi hz0 hz1 hz2 rfl (by decide) _ _ _ rfl hI1.own ⟨wr.heap.size, 0, none⟩ 1 1 (ivs [(t : Int)]) rfl rfl (one_at hX1) (ivs_one _) (by rw [hL1]; exact b4) (by rw [hL1]; exact b5) hI1.bel.size ?_
                       intro v2 w2 hown2 hgrow2 _ hat2
                       have hI2 := Inr.app hI1 (Below.refl _ _) hown2 rfl hgrow2 hat2
                       obtain ⟨A2, c2, hv2⟩ := own_slice hI2.own
                       rw [hL2] at hv2
                       subst hv2
                       clear hown2 hgrow2 hat2)
                    | (refine step_append_own_at _ rfl _ _ 23 rfl wr.heap.size 3 i0 (.int .i64 0) 1 8 Try.underlying23 hi hz0 hz1 hz2 rfl (by decide) _ _ _ rfl hI2.own AD (t - q) (cp - q) (ivs ((S.drop q).take (t - q))) rfl hl3 (hn3 _ hI2.src) (ivs_one _) (by rw [List.length_append, hL1]; exact b6) (by rw [List.length_append, hL1]; exact b7) hI2.bel.size ?_
                       intro v3 w3 hown3 hgrow3 _ hat3
                       have hI3 := Inr.app hI2 (Below.refl _ _) hown3 hM3 hgrow3 hat3
                       have hfin := hI3.own
                       rw [HLST.out, HLEN.out] at hfin
                       have hne3 : v3 ≠ .slice none 0 0 := fun e => by
                         rcases hfin.2 with ⟨_, h0⟩ | ⟨_, _, _, h1, _⟩
                         · omega
                         · rw [e] at h1; cases h1
                       clear hown3 hgrow3 hat3))
      all_goals go_simp
      all_goals go_wp2
      all_goals go_roundw
      all_goals first
        | exact ⟨t + 1, S2, by omega, by go_num, HLEN, HENT, own_le hfin hg.size, hne3, gb_trans hg ⟨hI3.bel.os, hI3.bel.tape, hI3.bel.output, hI3.bel.size, fun k hk _ => hI3.bel.block k hk⟩, hRd1.below hI3.bel hR1⟩
        | (simp [intOf]; omega)
    · obtain rfl : t = 1 + v0 := by omega
      clear hlt hRd3 hv
      have HEN : Hid (Ent (1 + v0) S) := fun j hj => by
        have hm : S[j]?.getD 0 ∈ S := by
          have hjl : j < S.length := by rw [HSL.out]; exact hj
          rw [List.getElem?_eq_getElem hjl]; exact List.getElem_mem _
        exact .inr (HE.out _ hm)
      have oF3 := own_rd oF hg hR2
      have hB4 := below_gb hB3 (Nat.le_refl _) hg hRl
      obtain ⟨A1, c1, rfl⟩ := own_slice hown
      obtain ⟨AF, cF, rfl⟩ := own_slice oF3
      clear hB3 oF hg
      have hR4 := hRdt.lt
      go_wp2_with fail
      refine (l1Turned_any A1 (1 + v0) c1 S _ (RI.of_own hown) (by omega) HEN.out).mono ?_
      rintro e w5 ⟨v5, rfl, oT, hb5⟩
      have HTT := Lib.hid (LT_length (1 + v0) (turnL (1 + v0) (mv (ofL S) (1 + v0))))
      generalize LT (1 + v0) (turnL (1 + v0) (mv (ofL S) (1 + v0))) = TT at oT HTT
      have oF5 := own_below oF3 hb5
      have hown5 := own_below hown hb5
      have hB5 := hB4.trans (hb5.mono hB4.size)
      have hRd5 := hRdt.below hb5 hR4
      have hR5 := hRd5.lt
      clear hb5 hB4 hown oF3 hRdt
      obtain ⟨A5, c5, rfl⟩ := own_slice oT
      go_wp2_with fail
      refine (specTimes_any _ _ _ _ _ _ _ _ _ (RI.of_own oT) (RI.of_own oF5) (by have := HTT.out; omega) (by omega)).mono ?_
      rintro e w6 ⟨v6, rfl, oA, hb6⟩
      have hle6 := tiL_le TT L
      generalize tiL TT L = L6 at oA hle6
      generalize isP TT L = u1
      have oF6 := own_below oF5 hb6
      have hown6 := own_below hown5 hb6
      have hB6 := hB5.trans (hb6.mono hB5.size)
      have hRd6 := hRd5.below hb6 hR5
      have hR6 := hRd6.lt
      have hs6 := hB6.size
      clear hb6 hB5 hown5 oF5 hRd5 oT
      obtain ⟨A6, c6, rfl⟩ := own_slice oA
      go_wp2_with fail
      refine (specTimes_any _ _ _ _ _ _ _ _ _ (RI.of_own oA) (RI.of_own hown6) (by omega) (by omega)).mono ?_
      rintro e w7 ⟨v7, rfl, oB, hb7⟩
      have hle7 := tiL_le L6 S
      generalize tiL L6 S = L7 at oB hle7
      generalize isP L6 S = u2
      have hap := Lib.hid (apart_of oF6 (Nat.le_refl _) oB)
      have oF7 := own_below oF6 hb7
      have hB7 := hB6.trans (hb7.mono hB6.size)
      have hRd7 := hRd6.below hb7 hR6
      clear hb7 hB6 hown6 oF6 hRd6 oA
      obtain ⟨A7, c7, rfl⟩ := own_slice oB
      cases u1
      · go_wp2_with fail
        have hc := l91Chart_any R _ (1 + v0) w7 hRd7 (by omega) (by omega) (by omega)
        rw [show ((1 + v0 : Nat) : Int) = 1 + (v0 : Int) from by omega] at hc
        refine hc.mono ?_
        rintro e wy ⟨f2, rfl, L3, hL3, oF2, hgy, hRdy⟩
        have hBy := below_gb hB7 (Nat.le_refl _) hgy hRl
        have hap2 := Lib.hid (apart_of oF7 (Nat.le_refl _) oF2)
        have oFy := own_rd oF7 hgy hR2
        have hsz := hB7.size
        clear hc hgy hRdy
        go_wp2
        go_ret2
        exact ⟨_, _, rfl, L, L3, by omega, by omega, oFy.mono hs2, oF2.mono hsz, hap2.out, hBy⟩
      · cases u2
        · go_wp2_with fail
          have hc := l91Chart_any R _ (1 + v0) w7 hRd7 (by omega) (by omega) (by omega)
          rw [show ((1 + v0 : Nat) : Int) = 1 + (v0 : Int) from by omega] at hc
          refine hc.mono ?_
          rintro e wy ⟨f2, rfl, L3, hL3, oF2, hgy, hRdy⟩
          have hBy := below_gb hB7 (Nat.le_refl _) hgy hRl
          have hap2 := Lib.hid (apart_of oF7 (Nat.le_refl _) oF2)
          have oFy := own_rd oF7 hgy hR2
          have hsz := hB7.size
          clear hc hgy hRdy
          go_wp2
          go_ret2
          exact ⟨_, _, rfl, L, L3, by omega, by omega, oFy.mono hs2, oF2.mono hsz, hap2.out, hBy⟩
        · go_wp2_with fail
          refine (pick_any R _ 3 _ hRd7 (by omega) (by omega) (by omega)).mono ?_
          rintro e w8 ⟨v8, rfl, hv8, hRd8, hg8⟩
          have oF8 := own_rd oF7 hg8 hR2
          have oB8 := own_rd oB hg8 hR6
          have hB8 := below_gb hB7 (Nat.le_refl _) hg8 hRl
          clear hg8 hRd7 hB7 oF7 oB
          rcases v8 with _ | v8
          · go_wp2_with fail
            have hc := l91Chart_any R _ (1 + v0) w8 hRd8 (by omega) (by omega) (by omega)
            rw [show ((1 + v0 : Nat) : Int) = 1 + (v0 : Int) from by omega] at hc
            refine hc.mono ?_
            rintro e wy ⟨f2, rfl, L3, hL3, oF2, hgy, hRdy⟩
            have hBy := below_gb hB8 (Nat.le_refl _) hgy hRl
            have hap2 := Lib.hid (apart_of oF8 (Nat.le_refl _) oF2)
            have oFy := own_rd oF8 hgy hR2
            have hsz := hB8.size
            clear hc hgy hRdy
            go_wp2
            go_ret2
            exact ⟨_, _, rfl, L, L3, by omega, by omega, oFy.mono hs2, oF2.mono hsz, hap2.out, hBy⟩
          · go_wp2
            go_ret2
            exact ⟨_, _, rfl, L, L7, by omega, by omega, oF8.mono hs2, oB8.mono hs6, hap.out, hB8⟩
end

end Go.Proofs.Ytckppfgooflooab
