/-
  DrwG DrwS DrwT.
-/
import Derived.Test.YtkfiehndlgplgaaGreatDoorMF
import Derived.Test.YtkfiehndlgplgaaGreatDoorVB
namespace Go.Proofs.YtkfiehndlgplgaaGreatDoor
set_option maxRecDepth 100000
set_option linter.unusedVariables false
set_option linter.unusedSimpArgs false
set_option linter.unusedSectionVars false

/-! What the laws of chapter 3 draw: some charts; a semigroup. -/
section
open Go.RowKit

section
variable {W W' : World} {lo hi R : Nat} {v : Value} {vs : List Value} {Ls : List (List Int)}
theorem OV.rd (h : OV W lo v vs Ls) (hg : W.grownBy W' (some R)) (hR : R < lo) : OV W' lo v vs Ls :=
  ⟨own_rd h.row hg hR, (h.inn.same fun _ _ hu g hg' => hg.block g (h.inn.lt hu hg').2.2 (fun e => by have := (h.inn.lt hu hg').1; injection e with e; omega)).more (Nat.le_refl _) hg.size⟩
theorem OSS.rd (h : OSS W lo W.heap.size v Ls) (hg : W.grownBy W' (some R)) (hR : R < lo) : OSS W' lo W'.heap.size v Ls := by
  obtain ⟨vs, h1, _, h3⟩ := h
  exact (OV.rd ⟨h1, h3⟩ hg hR).oss
end
theorem RSS.tail {w : World} {A : Option Addr} {n c : Nat} {Ls : List (List Int)} (h : RSS w A n Ls) (hn : 1 ≤ n) (hc : n ≤ c) : RSS w (if c = 1 then A else A.map (·.add 1)) (n - 1) (Ls.drop 1) := by
  obtain ⟨h1, vs, h2, h3⟩ := h
  have hk := h2.cut (k := 1) (cap := c) hn hc
  simp only [Nat.mul_one] at hk
  refine ⟨by rw [List.length_drop, h1], vs.drop 1, hk, fun i L hL => ?_⟩
  rw [List.getElem?_drop] at hL
  obtain ⟨Ai, ci, hv, hr⟩ := h3 (1 + i) L hL
  exact ⟨Ai, ci, by rw [List.getElem?_drop]; exact hv, hr⟩

def GivP (w : World) (R p : Nat) (e : Ending) (w' : World) : Prop := ∃ (v : Value) (Ls : List (List Int)) (p' : Nat), e = .returned v ∧ v ≠ .slice none 0 0 ∧ OSS w' w.heap.size w'.heap.size v Ls ∧ 1 ≤ Ls.length ∧ Ls.length ≤ 3 ∧ (∀ L ∈ Ls, L.length ≤ 7) ∧ w.grownBy w' (some R) ∧ Rd w' R p' ∧ p' ≤ p + 40
/-- one drawn chart more -/
theorem giv_app {w W W1 W2 : World} {R n : Nat} {v v1 v2 : Value} {vs : List Value} {Ls : List (List Int)} {L : List Int} (hR : R < w.heap.size) (hov : OV W w.heap.size v vs Ls) (hg : w.grownBy W (some R)) (hg1 : W.grownBy W1 (some R)) (h1 : W1.ownsRow W.heap.size 3 1 v1 L.length (ivs L))
    (hown : W2.ownsRow w.heap.size 24 1 v2 (Ls.length + 1) (vs ++ [v1])) (hgr : (W1.alloc (.cells #[v1] 24)).grownBy W2 v.ownBlock) (hRd : Rd W1 R n) :
    OV W2 w.heap.size v2 (vs ++ [v1]) (Ls ++ [L]) ∧ w.grownBy W2 (some R) ∧ Rd W2 R n := by
  have hov1 := hov.rd hg1 hR
  have hf : ∀ g, v.ownBlock = some g → w.heap.size ≤ g := fun g e => (hov.row.lt g e).1
  refine ⟨⟨by rw [List.length_append]; exact hown, ?_⟩, gb_far (gb_alloc (gb_trans hg hg1) _) hgr hf, (hRd.grown (row := none) (World.grownBy_alloc _ _ _) (fun _ e => by cases e)).grown hgr (fun g e => by have := hf g e; omega)⟩
  exact inn_app hov1.row hov1.inn ((OI.of h1).less hg.size) (fresh_apart (w0 := W) hov.inn (Nat.le_refl _) h1) hgr
set_option maxHeartbeats 2000000 in
theorem l91Given_any (R p : Nat) (w : World) (h : Rd w R p) (hp : p ≤ 80000) :
    Calls Tryz.prog 123 #[.pointer (some ⟨R, 0, none⟩)] w (GivP w R p) := by
  obtain ⟨i1, hj, hj0, hj1, hj2⟩ := info_parts info_ints
  have hRl := h.lt
  go_enter Tryz.func123, Tryz.ntmps123
  go_wp2_with fail
  refine (pick_any R p 4 _ h (by omega) (by omega) (by omega)).mono ?_
  rintro e w1 ⟨n0, rfl, hn0, hRd1, hg1⟩
  clear h
  go_wp2_with fail
  have hRda := hRd1.grown (row := none) (World.grownBy_alloc w1 (.cells #[] 24) none) (fun _ e => by cases e)
  refine (pick_any R (p + 1) 2 _ hRda (by omega) (by omega) (by omega)).mono ?_
  rintro e w2 ⟨k0, rfl, hk0, hRd2, hg2⟩
  have hs1 := hg1.size
  have hL0 : (w1.alloc (.cells #[] 24)).ownsRow w1.heap.size 24 1 (.slice (some ⟨w1.heap.size, 0, none⟩) 0 0) 0 [] := World.ownsRow_lit (base := w1.heap.size) (e := 24) (size := 1) w1 #[] 0 (Nat.le_refl _) (by simp [maxLen]) rfl
  have hov0 : OV w2 w.heap.size (.slice (some ⟨w1.heap.size, 0, none⟩) 0 0) [] [] := OV.rd ⟨own_base hL0 hs1, Inn.nil⟩ hg2 hRl
  have hgg := gb_trans (gb_alloc hg1 (.cells #[] 24)) hg2
  clear hRd1 hg1 hRda hg2 hL0
  go_wp2
  go_loopw [4, 6] (fun v i W => ∃ (k p' : Nat) (vs : List Value) (Ls : List (List Int)), k ≤ 1 + k0 ∧ i = .int .i64 (k : Int) ∧ Ls.length = k ∧ v ≠ .slice none 0 0 ∧ OV W w.heap.size v vs Ls ∧ (∀ L ∈ Ls, L.length ≤ 7) ∧ w.grownBy W (some R) ∧ Rd W R p' ∧ p' ≤ p + 2 + 6 * k) (fun _ i _ => 1 + k0 - (intOf i).toNat)
  case atStart => exact ⟨0, p + 1 + 1, [], [], Nat.zero_le _, rfl, rfl, by simp, hov0, (fun L h => by cases h), hgg, hRd2, by omega⟩
  case round =>
    clear hov0 hgg hRd2 hs1
    obtain ⟨k, p', vs, Ls, hk, rfl, hLl, hv, hov, hls, hg, hRd, hp'⟩ := hrel
    have hc := l91Chart_any R p' (1 + n0) wr hRd (by omega) (by omega) (by omega)
    rw [show ((1 + n0 : Nat) : Int) = 1 + (n0 : Int) from by omega] at hc
    by_cases hlt : k < 1 + k0
    · have hd : decide ((k : Int) < 1 + (k0 : Int)) = true := decide_eq_true (by omega)
      go_wp2_with fail
      refine hc.mono ?_
      rintro e W1 ⟨v1, rfl, L, hL7, o1, hg1, hRd1⟩
      have hov1 := (hov.rd hg1 hRl).alloc (.cells #[v1] 24)
      have hr1 := hov1.row
      rw [hLl] at hr1
      have hsz : w.heap.size ≤ (W1.alloc (.cells #[v1] 24)).heap.size := by have := hg.size; have := hg1.size; simp; omega
      have q1 : k + 1 ≤ maxLen := by unfold maxLen; omega
      have q2 : (k + 1) * 24 ≤ 140737488355328 := by omega
      obtain ⟨A1, c1, rfl⟩ := own_slice o1
      have hone : ∀ u ∈ [Value.slice A1 L.length c1], u.oneCell' = true := fun u hu => by rw [List.mem_singleton.1 hu]; rfl
      have HLl := Lib.hid hLl
      clear hc hLl
      go_wp2_with (at_builtin
                   refine wpList_append_own _ rfl _ _ 23 rfl w.heap.size 24 i1 (.slice none 0 0) 1 24 Tryz.underlying23 hj hj0 hj1 hj2 rfl (by decide) _ k vs rfl hr1 ⟨W1.heap.size, 0, none⟩ 1 1 [.slice A1 L.length c1] rfl rfl (cell_one_new _ _ _) hone q1 q2 hsz ?_
                   intro v2 W2 hown2 hgrow2 hnil2)
      obtain ⟨hovF, hgF, hRdF⟩ := giv_app hRl hov hg hg1 o1 (by rw [HLl.out]; exact hown2) hgrow2 hRd1
      have hv2 : v2 ≠ .slice none 0 0 := fun e => by have := (hnil2.1 e).2; omega
      clear hown2 hgrow2 hnil2 hov1 hr1
      go_wp2
      go_roundw
      case rel => exact ⟨k + 1, _, _, _, by omega, by go_num, by rw [List.length_append, HLl.out]; rfl, hv2, hovF, (fun M hM => by
        rcases List.mem_append.1 hM with h | h
        · exact hls M h
        · rw [List.mem_singleton.1 h]; exact hL7), hgF, hRdF, by omega⟩
      case measure => simp [intOf]; omega
    · have hd : decide ((k : Int) < 1 + (k0 : Int)) = false := decide_eq_false (by omega)
      clear hc
      go_wp2_with fail
      refine (pick_any R p' 30 _ hRd (by omega) (by omega) (by omega)).mono ?_
      rintro e W1 ⟨z, rfl, hz, hRd1, hg1⟩
      have hov1 := hov.rd hg1 hRl
      have hgW := gb_trans hg hg1
      have HLl := Lib.hid hLl
      by_cases hz0 : z = 0
      · subst hz0
        have hc := l91Chart_any R (p' + 1) (1 + n0 + 1) W1 hRd1 (by omega) (by omega) (by omega)
        rw [show ((1 + n0 + 1 : Nat) : Int) = 1 + (n0 : Int) + 1 from by omega] at hc
        clear hLl hov hg hRd hg1
        go_wp2_with fail
        refine hc.mono ?_
        rintro e W2 ⟨v1, rfl, L, hL7, o1, hg2, hRd2⟩
        have hov2 := (hov1.rd hg2 hRl).alloc (.cells #[v1] 24)
        have hr1 := hov2.row
        rw [HLl.out] at hr1
        have hsz : w.heap.size ≤ (W2.alloc (.cells #[v1] 24)).heap.size := by have := hgW.size; have := hg2.size; simp; omega
        have q1 : k + 1 ≤ maxLen := by unfold maxLen; omega
        have q2 : (k + 1) * 24 ≤ 140737488355328 := by omega
        obtain ⟨A1, c1, rfl⟩ := own_slice o1
        have hone : ∀ u ∈ [Value.slice A1 L.length c1], u.oneCell' = true := fun u hu => by rw [List.mem_singleton.1 hu]; rfl
        clear hc
        go_wp2_with (at_builtin
                     refine wpList_append_own _ rfl _ _ 23 rfl w.heap.size 24 i1 (.slice none 0 0) 1 24 Tryz.underlying23 hj hj0 hj1 hj2 rfl (by decide) _ k vs rfl hr1 ⟨W2.heap.size, 0, none⟩ 1 1 [.slice A1 L.length c1] rfl rfl (cell_one_new _ _ _) hone q1 q2 hsz ?_
                     intro v2 W3 hown2 hgrow2 hnil2)
        obtain ⟨hovF, hgF, hRdF⟩ := giv_app hRl hov1 hgW hg2 o1 (by rw [HLl.out]; exact hown2) hgrow2 hRd2
        have hv2 : v2 ≠ .slice none 0 0 := fun e => by have := (hnil2.1 e).2; omega
        clear hown2 hgrow2 hnil2 hov2 hr1
        go_wp2
        go_ret
        exact ⟨_, Ls ++ [L], _, rfl, hv2, hovF.oss, by rw [List.length_append, HLl.out]; simp, by rw [List.length_append, HLl.out]; simp; omega, (fun M hM => by
          rcases List.mem_append.1 hM with h | h
          · exact hls M h
          · rw [List.mem_singleton.1 h]; exact hL7), hgF, hRdF, by omega⟩
      · have hd0 : decide ((z : Int) = 0) = false := decide_eq_false (by omega)
        clear hov hg hRd hg1
        go_wp2
        go_ret
        exact ⟨_, Ls, _, rfl, hv, hov1.oss, by rw [HLl.out]; omega, by rw [HLl.out]; omega, hls, hgW, hRd1, by omega⟩
end

/-! What the laws of chapter 3 draw: a semigroup, seldom another list. -/
section
open Go.RowKit

theorem ofs_len {zs OL : List (List Int)} {OB : Bool} (hO : Ofs zs OL OB) : OL.length ≤ 400 ∧ ∀ L ∈ OL, L.length ≤ 7 := by
  refine ⟨(ofs_le hO).1, ?_⟩
  rcases hO with ⟨⟨h1, hw⟩, _⟩ | ⟨_, rfl, _⟩
  · have hz : ∀ L ∈ zs, isC L = true ∧ L.length = (ent zs 0).length := by
      unfold cfB at h1
      rw [Bool.and_eq_true, chB_iff] at h1
      exact h1.1.2
    have hc := hw.from_ (fun L => isC L = true ∧ L.length = (ent zs 0).length) (facs_ch hz) (nxR_ch hz)
    intro L hL
    have := (isC_len (hc L hL).1).2
    omega
  · intro L hL; cases hL
theorem oss_cap {w : World} {lo hi : Nat} {A : Option Addr} {n c : Nat} {Ls : List (List Int)} (h : OSS w lo hi (.slice A n c) Ls) : n = Ls.length ∧ n ≤ c := by
  obtain ⟨vs, h1, _⟩ := h
  rcases h1.2 with ⟨e, h0⟩ | ⟨g, cap, cur, e, _, _, h2, _⟩
  · injection e with _ e2 e3; omega
  · injection e with _ e2 e3; omega

def SemP (w : World) (R p : Nat) (e : Ending) (w' : World) : Prop := ∃ (A : Option Addr) (n c : Nat) (zs : List (List Int)) (p' : Nat), e = .returned (.slice A n c) ∧ (∀ W', w'.grownBy W' (some R) → RSS W' A n zs) ∧ n ≤ 400 ∧ n ≤ c ∧ (∀ L ∈ zs, L.length ≤ 7) ∧ w.grownBy w' (some R) ∧ Rd w' R p' ∧ p' ≤ p + 50
set_option maxHeartbeats 2000000 in
theorem l91Semi_any (R p : Nat) (w : World) (h : Rd w R p) (hp : p ≤ 70000) :
    Calls Tryz.prog 96 #[.pointer (some ⟨R, 0, none⟩)] w (SemP w R p) := by
  have hRl := h.lt
  go_enter Tryz.func96, Tryz.ntmps96
  go_wp2_with fail
  refine (l91Given_any R p w h (by omega)).mono ?_
  rintro e w1 ⟨v, Ls, p1, rfl, _, oG, h1, h3, hl7, hg1, hRd1, hp1⟩
  obtain ⟨A, c, rfl⟩ := oG.slice
  have hcG := (oss_cap oG).2
  obtain ⟨OL, OB, hO⟩ := ofs_ex Ls
  have hOl := ofs_len hO
  have hsp := specOf_any A Ls.length c Ls OL OB hO w1 (RSS.of_own oG).2 (by omega) (fun L hL => by have := hl7 L hL; omega)
  have hs1 := hg1.size
  clear h hO
  go_wp2_with fail
  refine hsp.mono ?_
  rintro e w2 ⟨v2, rfl, oO, hB⟩
  have oG2 := oG.below hB
  have hg2 := gb_below hg1 hB
  have hRd2 := hRd1.below hB hRd1.lt
  obtain ⟨A2, c2, rfl⟩ := oO.slice
  have hcO := (oss_cap oO).2
  have HGR : Hid (∀ W', w2.grownBy W' (some R) → RSS W' A Ls.length Ls) := fun W' hg => (RSS.of_own ((oG2.more (Nat.le_refl _) hB.size).rd hg hRl)).2
  have hR1 : R < w1.heap.size := by omega
  have hoo : OSS w2 w1.heap.size w2.heap.size (.slice A2 OL.length c2) OL := oO
  clear hsp hg1 hRd1 hB oG oG2 oO
  have hGdone : SemP w R p (.returned (.slice A Ls.length c)) w2 := ⟨A, _, c, Ls, p1, rfl, HGR.out, by omega, hcG, hl7, hg2, hRd2, by omega⟩
  have HGD := Lib.hid hGdone
  clear hGdone
  cases OB
  · clear hoo hg2 hRd2
    go_wp2
    go_ret
    exact HGD.out
  · by_cases h60 : 60 < OL.length
    · have hd : decide ((60 : Int) < (OL.length : Int)) = true := decide_eq_true (by omega)
      clear hoo hg2 hRd2
      go_wp2
      go_ret
      exact HGD.out
    · have hd : decide ((60 : Int) < (OL.length : Int)) = false := decide_eq_false (by omega)
      by_cases h1' : 1 < OL.length
      · have hd1 : decide ((1 : Int) < (OL.length : Int)) = true := decide_eq_true (by omega)
        clear HGD
        go_wp2_with fail
        refine (pick_any R p1 24 _ hRd2 (by omega) (by omega) (by omega)).mono ?_
        rintro e w3 ⟨z, rfl, hz, hRd3, hg3⟩
        have hoo3 := hoo.rd hg3 hR1
        have hgF := gb_trans hg2 hg3
        obtain ⟨go, rfl⟩ : ∃ go, A2 = some ⟨go, 0, none⟩ := by
          obtain ⟨vs, hrw, _⟩ := hoo3
          obtain ⟨g, cap, hv, _⟩ := hrw.form (by omega)
          injection hv with hv
          exact ⟨g, hv⟩
        have HRO : Hid (∀ W', w3.grownBy W' (some R) → RSS W' (some ⟨go, 0, none⟩) OL.length OL) := fun W' hg => (RSS.of_own (hoo3.rd hg hR1)).2
        clear hoo hg2 hRd2 hg3 hoo3
        by_cases hz0 : z = 0
        · subst hz0
          have hc21 : ¬ c2 = 1 := by omega
          have HT : Hid (∀ W', w3.grownBy W' (some R) → RSS W' (some ⟨go, 1, none⟩) (OL.length - 1) (OL.drop 1)) := fun W' hg => by
            have := (HRO.out W' hg).tail (c := c2) (by omega) hcO
            rw [if_neg hc21, Option.map_some, Addr.add_mid, Nat.zero_add] at this
            exact this
          have hgo : (1 : Int) ≤ (OL.length : Int) := by omega
          go_wp2
          go_ret
          exact ⟨_, OL.length - 1, c2 - 1, OL.drop 1, _, by congr 2, HT.out, by omega, by omega, fun L hL => hOl.2 L (List.mem_of_mem_drop hL), hgF, hRd3, by omega⟩
        · have hd0 : decide ((z : Int) = 0) = false := decide_eq_false (by omega)
          go_wp2
          go_ret
          exact ⟨_, _, c2, OL, _, rfl, HRO.out, by omega, hcO, hOl.2, hgF, hRd3, by omega⟩
      · have hd1 : decide ((1 : Int) < (OL.length : Int)) = false := decide_eq_false (by omega)
        have HRO : Hid (∀ W', w2.grownBy W' (some R) → RSS W' A2 OL.length OL) := fun W' hg => (RSS.of_own (hoo.rd hg hR1)).2
        clear hoo HGD
        go_wp2
        go_ret
        exact ⟨A2, _, c2, OL, p1, rfl, HRO.out, by omega, hcO, hOl.2, hg2, hRd2, by omega⟩
def DrwL (w : World) (e : Ending) (w' : World) : Prop := ∃ (A : Option Addr) (n c : Nat) (zs : List (List Int)), e = .returned (.slice A n c) ∧ RSS w' A n zs ∧ n ≤ 400 ∧ n ≤ c ∧ (∀ L ∈ zs, L.length ≤ 7) ∧ Below w.heap.size w w'
theorem l91Some_any (A : Option Addr) (n c : Nat) (bs : Nat → Nat) (w : World) (h : Src w w.heap.size A n bs) (hnc : n ≤ c) (hn : n ≤ 1048576) :
    Calls Tryz.prog 52 #[.slice A n c] w (DrwL w) := by
  go_enter Tryz.func52, Tryz.ntmps52
  go_wp2_with fail
  refine (open_any _ _ _ _ _ h hnc hn).mono ?_
  rintro e w1 ⟨R, rfl, hRl, hRs, hRd, hB⟩
  clear h
  go_wp2_with fail
  refine (l91Semi_any R 0 _ hRd (by omega)).mono ?_
  rintro e w2 ⟨A2, n2, c2, zs, p', rfl, hr, h4, hc2, h7, hg, _, _⟩
  have hB2 := below_gb hB (Nat.le_refl _) hg hRl
  go_wp2
  go_ret
  exact ⟨_, _, _, zs, rfl, hr _ (gb_refl _ _), h4, hc2, h7, hB2⟩
end

/-! The other draws of chapter 3. -/
section
open Go.RowKit

def WthP (w : World) (e : Ending) (w' : World) : Prop := ∃ (A B : Option Addr) (n c m d : Nat) (zs : List (List Int)) (f : List Int), e = .returned (.tuple #[.slice A n c, .slice B m d]) ∧ RSS w' A n zs ∧ RI w' B m f ∧ n ≤ 400 ∧ n ≤ c ∧ (∀ L ∈ zs, L.length ≤ 7) ∧ f.length ≤ 7 ∧ Below w.heap.size w w'
set_option maxHeartbeats 1000000 in
theorem l91With_any (R : Nat) (w w0 : World) (h : Rd w R 0) (hB : Below w0.heap.size w0 w) (hRl : w0.heap.size ≤ R) :
    Calls Tryz.prog 108 #[.pointer (some ⟨R, 0, none⟩)] w (WthP w0) := by
  go_enter Tryz.func108, Tryz.ntmps108
  go_wp2_with fail
  refine (l91Semi_any R 0 w h (by omega)).mono ?_
  rintro e w1 ⟨A, n, c, zs, p1, rfl, hK, h4, hnc, h7, hg1, hRd1, hp1⟩
  have HK := Lib.hid hK
  clear h hK
  have last : ∀ (q : Nat) (wq : World), Rd wq R q → q ≤ 60 → w1.grownBy wq (some R) → ∀ z : Nat, z < 4 → Calls Tryz.prog 132 #[.pointer (some ⟨R, 0, none⟩), .int .i64 (1 + (z : Int))] wq fun e w' => ∃ (B : Option Addr) (m d : Nat) (f : List Int), e = .returned (.slice B m d) ∧ RI w' B m f ∧ f.length ≤ 7 ∧ w1.grownBy w' (some R) := by
    intro q wq hR hq hg z hz
    have hc := l91Chart_any R q (1 + z) wq hR (by omega) (by omega) (by omega)
    rw [show ((1 + z : Nat) : Int) = 1 + (z : Int) from by omega] at hc
    refine hc.mono ?_
    rintro e w' ⟨v, rfl, L, hL, o, hg', _⟩
    obtain ⟨B, d, rfl⟩ := own_slice o
    exact ⟨B, _, d, L, rfl, RI.of_own o, hL, gb_trans hg hg'⟩
  have LAST := Lib.hid last
  clear last
  by_cases hn0 : 0 < n
  · have hd : decide ((0 : Int) < (n : Int)) = true := decide_eq_true (by omega)
    go_wp2_with fail
    refine (pick_any R p1 12 _ hRd1 (by omega) (by omega) (by omega)).mono ?_
    rintro e w2 ⟨z, rfl, hz, hRd2, hg2⟩
    by_cases hz0 : 0 < z
    · have hd0 : decide ((0 : Int) < (z : Int)) = true := decide_eq_true (by omega)
      obtain ⟨ad, rfl⟩ : ∃ ad, A = some ad := by
        obtain ⟨ad, _, _, e, _⟩ := (HK.out _ (gb_refl _ _)).at_ (k := 0) hn0
        exact ⟨ad, e⟩
      go_wp2_with fail
      refine wp_region_held_drew (S := fun _ => True) (by kernel_rfl) ?_ (fun hHeld => ?_)
      · trivial
      refine wpAnyH_take (i := 0) (v := .slice (some ad) n c) (by rw [List.getElem?_toArray]; rfl) (by kernel_rfl) (by kernel_rfl) (by kernel_rfl) (by exact fun _ _ _ h => h) (Or.inl ⟨by rfl, fun w hSw => by (try dsimp only at hSw); go_simp⟩) (by assumption) ?_
      try simp only [Act.put, List.setIfInBounds_toArray, List.set_cons_zero, List.set_cons_succ]
      refine wpAnyH_take (i := 1) (v := .slice (some ad) n c) (by rw [List.getElem?_toArray]; rfl) (by kernel_rfl) (by kernel_rfl) (by kernel_rfl) (by exact fun _ _ _ h => h) (Or.inl ⟨by rfl, fun w hSw => by (try dsimp only at hSw); go_simp⟩) (by assumption) ?_
      try simp only [Act.put, List.setIfInBounds_toArray, List.set_cons_zero, List.set_cons_succ]
      refine wpAnyH_take (i := 2) (v := .pointer (some ⟨R, 0, none⟩)) (by rw [List.getElem?_toArray]; rfl) (by kernel_rfl) (by kernel_rfl) (by kernel_rfl) (by exact fun _ _ _ h => h) (Or.inl ⟨by rfl, fun w hSw => by (try dsimp only at hSw); go_simp⟩) (by assumption) ?_
      try simp only [Act.put, List.setIfInBounds_toArray, List.set_cons_zero, List.set_cons_succ]
      refine wpAnyH_take (i := 3) (v := .slice (some ad) n c) (by rw [List.getElem?_toArray]; rfl) (by kernel_rfl) (by kernel_rfl) (by kernel_rfl) (by exact fun _ _ _ h => h) (Or.inl ⟨by rfl, fun w hSw => by (try dsimp only at hSw); go_simp⟩) (by assumption) ?_
      try simp only [Act.put, List.setIfInBounds_toArray, List.set_cons_zero, List.set_cons_succ]
      refine wpAnyH_take (i := 4) (v := .int .i64 (n : Int)) (by rw [List.getElem?_toArray]; rfl) (by kernel_rfl) (by kernel_rfl) (by kernel_rfl) (by exact fun _ _ _ h => h) (Or.inl ⟨by rfl, fun w hSw => by (try dsimp only at hSw); go_simp⟩) (by assumption) ?_
      try simp only [Act.put, List.setIfInBounds_toArray, List.set_cons_zero, List.set_cons_succ]
      refine wpAnyH_ready (rs := [5]) (by kernel_rfl) (by simp) ?_
      refine AllReadyH.cons (o := _) (by rw [List.getElem?_toArray]; rfl) (fun K hK => ?_) AllReadyH.nil
      go_simp
      go_at_call 109
      refine (pick_any R (p1 + 1) n _ (show Rd w2.drew R (p1 + 1) from hRd2) (by omega) (by omega) (by omega)).mono ?_
      rintro e w3 ⟨y, rfl, hy, hRd3, hg3'⟩
      have hg3 : w2.grownBy w3 (some R) := ⟨hg3'.os, hg3'.tape, hg3'.output, hg3'.size, hg3'.block⟩
      have hg13 := gb_trans hg2 hg3
      have hR3 := HK.out _ hg13
      obtain ⟨ad', Ay, cy, he, _, hcy, hry⟩ := hR3.at_ hy
      obtain rfl := Option.some.inj he
      have hly : (zs[y]?.getD []).length ≤ 7 := get_len zs (k := y) h7
      have hyn : (y : Int) < (n : Int) := by omega
      have HR3 := Lib.hid hR3
      have HRY := Lib.hid hry
      clear hR3 hry he
      generalize zs[y]?.getD [] = L at *
      refine hK.out _ _ ?_ (fun hHeld5 => ?_)
      · trivial
      clear hK K
      try simp only [Act.put, List.setIfInBounds_toArray, List.set_cons_zero, List.set_cons_succ]
      refine wpAnyH_take (i := 6) (v := .pointer (some (ad.add y))) (by rw [List.getElem?_toArray]; rfl) (by kernel_rfl) (by kernel_rfl) (by kernel_rfl) (by exact fun _ _ _ h => h) (Or.inl ⟨by rfl, fun w hSw => by (try dsimp only at hSw); go_simp⟩) (by assumption) ?_
      try simp only [Act.put, List.setIfInBounds_toArray, List.set_cons_zero, List.set_cons_succ]
      refine wpAnyH_take (i := 8) (v := .slice (some ad) n c) (by rw [List.getElem?_toArray]; rfl) (by kernel_rfl) (by kernel_rfl) (by kernel_rfl) (by exact fun _ _ _ h => h) (Or.inl ⟨by rfl, fun w hSw => by (try dsimp only at hSw); go_simp⟩) (by assumption) ?_
      try simp only [Act.put, List.setIfInBounds_toArray, List.set_cons_zero, List.set_cons_succ]
      refine wpAnyH_ready (rs := [7]) (by kernel_rfl) (by simp) ?_
      refine AllReadyH.cons (o := _) (by rw [List.getElem?_toArray]; rfl) (fun K hK => ?_) AllReadyH.nil
      go_simp
      refine hK.out _ _ ?_ (fun hHeld7 => ?_)
      · trivial
      clear hK K
      try simp only [Act.put, List.setIfInBounds_toArray, List.set_cons_zero, List.set_cons_succ]
      refine wpAnyH_take (i := 9) (v := .slice Ay L.length cy) (by rw [List.getElem?_toArray]; rfl) (by kernel_rfl) (by kernel_rfl) (by kernel_rfl) (by exact fun _ _ _ h => h) (Or.inl ⟨by rfl, fun w hSw => by (try dsimp only at hSw); go_simp⟩) (by assumption) ?_
      try simp only [Act.put, List.setIfInBounds_toArray, List.set_cons_zero, List.set_cons_succ]
      refine wpAnyH_done (by kernel_rfl) ?_ _
      have hBF := below_gb (below_gb hB (Nat.le_refl _) hg1 hRl) (Nat.le_refl _) hg13 hRl
      clear hg1 hg2 hg3 hg3' hRd1 hRd2 hRd3
      go_wp2
      go_ret2
      exact ⟨_, _, n, c, _, _, zs, L, rfl, HR3.out, HRY.out, h4, hnc, h7, hly, hBF⟩
    · have hd0 : decide ((0 : Int) < (z : Int)) = false := decide_eq_false (by omega)
      go_wp2_with fail
      refine (pick_any R (p1 + 1) 4 _ hRd2 (by omega) (by omega) (by omega)).mono ?_
      rintro e w3 ⟨y, rfl, hy, hRd3, hg3⟩
      have hg13 := gb_trans hg2 hg3
      clear hg2 hg3 hRd1 hRd2
      go_wp2_with fail
      refine (LAST.out _ _ hRd3 (by omega) hg13 y hy).mono ?_
      rintro e w4 ⟨B, m, d, f, rfl, hrf, hf7, hg4⟩
      have hBF := below_gb (below_gb hB (Nat.le_refl _) hg1 hRl) (Nat.le_refl _) hg4 hRl
      have HR4 := Lib.hid (HK.out _ hg4)
      have HRF := Lib.hid hrf
      clear hrf hg1 hg4 hg13 hRd3
      go_wp2
      go_ret2
      exact ⟨_, _, n, c, _, _, zs, f, rfl, HR4.out, HRF.out, h4, hnc, h7, hf7, hBF⟩
  · have hd : decide ((0 : Int) < (n : Int)) = false := decide_eq_false (by omega)
    go_wp2_with fail
    refine (pick_any R p1 4 _ hRd1 (by omega) (by omega) (by omega)).mono ?_
    rintro e w3 ⟨y, rfl, hy, hRd3, hg3⟩
    clear hRd1
    go_wp2_with fail
    refine (LAST.out _ _ hRd3 (by omega) hg3 y hy).mono ?_
    rintro e w4 ⟨B, m, d, f, rfl, hrf, hf7, hg4⟩
    have hBF := below_gb (below_gb hB (Nat.le_refl _) hg1 hRl) (Nat.le_refl _) hg4 hRl
    have HR4 := Lib.hid (HK.out _ hg4)
    have HRF := Lib.hid hrf
    clear hrf hg1 hg4 hg3 hRd3
    go_wp2
    go_ret2
    exact ⟨_, _, n, c, _, _, zs, f, rfl, HR4.out, HRF.out, h4, hnc, h7, hf7, hBF⟩
end

end Go.Proofs.YtkfiehndlgplgaaGreatDoor
