/-
  Am Av7 Aw7 Ax7 Az7.
-/
import Derived.Test.YtdipcjnnknggnaaGreatDoorMB
import Derived.Test.YtdipcjnnknggnaaGreatDoorMC
import Derived.Test.YtdipcjnnknggnaaGreatDoorNV
import Derived.Test.YtdipcjnnknggnaaGreatDoorOK
import Derived.Test.YtdipcjnnknggnaaGreatDoorOT
import Derived.Test.YtdipcjnnknggnaaGreatDoorOV
import Derived.Test.YtdipcjnnknggnaaGreatDoorPB
import Derived.Test.YtdipcjnnknggnaaGreatDoorPI
import Derived.Test.YtdipcjnnknggnaaGreatDoorPK
import Derived.Test.YtdipcjnnknggnaaGreatDoorPL
import Derived.Test.YtdipcjnnknggnaaGreatDoorPN
namespace Go.Proofs.YtdipcjnnknggnaaGreatDoor
set_option maxRecDepth 100000
set_option linter.unusedVariables false
set_option linter.unusedSimpArgs false
set_option linter.unusedSectionVars false

/-! Charts that join: what their product has; no program. -/
section
theorem joB_iff {f g : List Int} : joB f g = true ↔ isP f g = true ∧ raN f = doN g := by unfold joB; rw [Bool.and_eq_true, decide_eq_true_eq]
theorem atL_yes {f g : List Int} (h : joB f g = true) : atL f g = tiL f g := if_pos h
theorem joB_dom {f g : List Int} (h : joB f g = true) : doN (tiL f g) = doN f := by
  obtain ⟨hP, hr⟩ := joB_iff.1 h
  obtain ⟨hf, hg, hl⟩ := isP_yes hP
  refine Nat.eq_of_testBit_eq (fun j => ?_)
  rw [doN_bit (tiL_isC hP), doN_bit hf, tiL_len hP]
  by_cases hj : j < f.length
  · rw [tiL_get hP hj]
    congr 1
    apply decide_eq_decide.2
    unfold cmp
    rcases en_ofL hf j hj with hn | ⟨h0, h1⟩
    · rw [hn]; simp
    · rw [if_pos ⟨h0, h1⟩]
      constructor
      · intro _ e; omega
      · intro _ e
        have hm : (ofL f j).toNat < f.length := by omega
        have hb : (doN g).testBit (ofL f j).toNat = true := by
          rw [← hr, raN_tu hf, doN_bit (tuL_isC hf), tuL_len hf, tuL_get hf hm, decide_eq_true hm, Bool.true_and, decide_eq_true_eq]
          intro e2
          have := (trn_none (isC_CH hf) hm).1 e2 j hj
          omega
        rw [doN_bit hg, Bool.and_eq_true, decide_eq_true_eq, decide_eq_true_eq] at hb
        exact hb.2 e
  · rw [decide_eq_false hj]; rfl
theorem joB_turn {f g : List Int} (h : joB f g = true) : joB (tuL g) (tuL f) = true := by
  obtain ⟨hP, hr⟩ := joB_iff.1 h
  obtain ⟨hf, hg, hl⟩ := isP_yes hP
  refine joB_iff.2 ⟨(tuL_tiL hP).1, ?_⟩
  rw [raN_tu (tuL_isC hg), tuL_tuL hg, ← hr, raN_tu hf]
theorem joB_ran {f g : List Int} (h : joB f g = true) : raN (tiL f g) = raN g := by
  obtain ⟨hP, hr⟩ := joB_iff.1 h
  obtain ⟨hf, hg, hl⟩ := isP_yes hP
  rw [raN_tu (tiL_isC hP), (tuL_tiL hP).2, joB_dom (joB_turn h), raN_tu hg]
theorem joins_law {f g : List Int} (h : joB f g = true) : isC g = true ∧ isC f = true ∧ isP f g = true ∧ isC (tiL f g) = true ∧ popK (doN g) 6 = popK (doN f) 6 ∧ popK (doN (tiL f g)) 6 = popK (doN f) 6 ∧ joB (tuL g) (tuL f) = true := by
  obtain ⟨hP, hr⟩ := joB_iff.1 h
  obtain ⟨hf, hg, hl⟩ := isP_yes hP
  exact ⟨hg, hf, hP, tiL_isC hP, by rw [← hr, range_law hf], by rw [joB_dom h], joB_turn h⟩
theorem arrow_law {f g : List Int} (h : joB f g = true) : isC (atL f g) = true ∧ isC f = true ∧ isC g = true ∧ isP f g = true ∧ doN (atL f g) = doN f ∧ raN (atL f g) = raN g ∧ tiL f g = atL f g := by
  obtain ⟨hP, hr⟩ := joB_iff.1 h
  obtain ⟨hf, hg, hl⟩ := isP_yes hP
  rw [atL_yes h]
  exact ⟨tiL_isC hP, hf, hg, hP, joB_dom h, joB_ran h, rfl⟩
end

/-! draw of ArrowObjects; the objects are as many as the charts that move no point to another one. -/
section
open Go.RowKit Go.Maps

theorem nums_nodup {l : List Int} (h : l.Nodup) : (nums l).length = l.length := by
  have h2 : (nums l).Nodup := (nums_asc l).imp (fun h => by omega)
  exact ((List.perm_ext_iff_of_nodup h2 h).2 (fun x => nums_mem l x)).length_eq
theorem map_nodup {zs : List (List Int)} {g : List Int → Int} (h : zs.Nodup) (hi : ∀ L ∈ zs, ∀ M ∈ zs, g L = g M → L = M) : (zs.map g).Nodup := by
  unfold List.Nodup at h ⊢
  rw [List.pairwise_map]
  exact List.Pairwise.imp_of_mem (fun hL hM hne e => hne (hi _ hL _ hM e)) h
theorem idem_dom {f g : List Int} (hf : isC f = true) (hg : isC g = true) (hif : idB f = true) (hig : idB g = true) (hl : f.length = g.length) (hd : doN f = doN g) : f = g := by
  refine ofL_ext (n := f.length) rfl hl.symm (fun j hj => ?_)
  have h1 := doN_bit hf j
  have h2 := doN_bit hg j
  rw [hd, h2] at h1
  have e1 := (idB_iff hf).1 hif j hj
  have e2 := (idB_iff hg).1 hig j (by omega)
  rcases e1 with e1 | e1 <;> rcases e2 with e2 | e2
  · rw [e1, e2]
  · exfalso
    rw [e1, e2, decide_eq_true (show j < g.length by omega), decide_eq_true (show j < f.length by omega), decide_eq_true (show (j : Int) ≠ -1 by omega)] at h1
    simp at h1
  · exfalso
    rw [e1, e2, decide_eq_true (show j < g.length by omega), decide_eq_true (show j < f.length by omega), decide_eq_true (show (j : Int) ≠ -1 by omega)] at h1
    simp at h1
  · rw [e1, e2]
theorem idem_at {f : List Int} (h : isC f = true) : doN (tiL f (tuL f)) = doN f ∧ idB (tiL f (tuL f)) = true := by
  obtain ⟨h1, _, h3⟩ := domain_law h
  obtain ⟨_, h5, h6⟩ := set_law h1
  rw [h3]
  exact ⟨by omega, h6⟩
theorem obj_len {zs : List (List Int)} (h : sgS zs = true) : (idL zs).length = (objI zs).length := by
  have S := sgS_iff.1 h
  have hI : idL zs = zs.filter idB := by unfold idL; rw [h]; rfl
  rw [objI_yes h, hI]
  have hn : ((zs.filter idB).map doI).Nodup := by
    refine map_nodup (List.Pairwise.filter _ (srt_nodup S.srt)) (fun L hL M hM e => ?_)
    obtain ⟨hL1, hL2⟩ := List.mem_filter.1 hL
    obtain ⟨hM1, hM2⟩ := List.mem_filter.1 hM
    have c1 := S.ch L hL1
    have c2 := S.ch M hM1
    unfold doI at e
    exact idem_dom c1.1 c2.1 hL2 hM2 (c1.2.trans c2.2.symm) (by omega)
  have e : nums (zs.map doI) = nums ((zs.filter idB).map doI) := by
    refine nums_is (nums_asc _) (fun x => ?_)
    rw [nums_mem, List.mem_map, List.mem_map]
    constructor
    · rintro ⟨L, hL, rfl⟩
      exact ⟨L, (List.mem_filter.1 hL).1, rfl⟩
    · rintro ⟨L, hL, rfl⟩
      obtain ⟨h1, h2⟩ := idem_at (S.ch L hL).1
      exact ⟨tiL L (tuL L), List.mem_filter.2 ⟨S.ti L hL _ (S.tu L hL), h2⟩, by unfold doI; rw [h1]⟩
  rw [e, nums_nodup hn, List.length_map]
theorem objI_up {zs : List (List Int)} {p k : Nat} (hk : p + 1 = k) (h : k < (objI zs).length) : ((objI zs)[p]?.getD 0) < ((objI zs)[k]?.getD 0) := by
  have ha : Asc (objI zs) := nums_asc _
  rw [List.getElem?_eq_getElem h, List.getElem?_eq_getElem (show p < (objI zs).length by omega)]
  exact List.pairwise_iff_getElem.1 ha p k (by omega) h (by omega)
theorem objI_one {zs : List (List Int)} (h : sgS zs = true) : 1 ≤ (objI zs).length := by
  have S := sgS_iff.1 h
  have hz := S.one
  obtain ⟨L, hL⟩ : ∃ L, L ∈ zs := ⟨_, ent_mem (show 0 < zs.length by omega)⟩
  have : doI L ∈ objI zs := by rw [objI_yes h, nums_mem]; exact List.mem_map.2 ⟨L, hL, rfl⟩
  exact List.length_pos_of_mem this
end

/-! draws of a semigroup and a point; the points to which a point is moved. -/
section
open Go.RowKit Go.Maps

theorem plc_mem {zs : List (List Int)} {p : Nat} (h : atOK zs (p : Int) = true) {x : Int} : x ∈ plcI zs (p : Int) ↔ ∃ L ∈ zs, ofL L p = x ∧ x ≠ -1 := by
  obtain ⟨hS, _, hp⟩ := atOK_iff.1 h
  have S := sgS_iff.1 hS
  have hL0 : ∀ L ∈ zs, isC L = true ∧ L.length = m0 zs := S.ch
  unfold plcI
  rw [nums_mem, List.mem_map]
  constructor
  · rintro ⟨L, hL, rfl⟩
    obtain ⟨_, _, _, hLz, hm⟩ := atLs_mem hL
    have hl := hL0 L hLz
    unfold mvB at hm
    rw [doN_bit hl.1, Bool.and_eq_true, decide_eq_true_eq, decide_eq_true_eq] at hm
    exact ⟨L, hLz, rfl, hm.2⟩
  · rintro ⟨L, hL, rfl, hx⟩
    have hl := hL0 L hL
    refine ⟨L, ?_, rfl⟩
    unfold atLs
    rw [h, if_pos rfl]
    refine List.mem_filter.2 ⟨hL, ?_⟩
    unfold mvB
    rw [doN_bit hl.1, Bool.and_eq_true, decide_eq_true_eq, decide_eq_true_eq]
    exact ⟨by rw [hl.2]; show p < m0 zs; omega, hx⟩
theorem mv_back {f : List Int} (h : isC f = true) {p q : Nat} (hp : p < f.length) (hq : q < f.length) (e : ofL f p = (q : Int)) : ofL (tuL f) q = (p : Int) := by
  rw [tuL_get h hq]
  exact (trn_iff (isC_CH h) hp hq).2 e
theorem mv_on {f g : List Int} (h : isP f g = true) {p q : Nat} (hp : p < f.length) (hq : q < f.length) (e : ofL f p = (q : Int)) : ofL (tiL f g) p = ofL g q := by
  rw [tiL_get h hp]
  unfold cmp
  rw [e, if_pos (by omega)]
  rfl
theorem plc_law {zs : List (List Int)} {p : Int} (h : atOK zs p = true) : (∀ q ∈ plcI zs p, atOK zs q = true ∧ plcI zs q = plcI zs p) ∧ (plcI zs p ≠ [] → p ∈ plcI zs p) := by
  obtain ⟨hS, h0, hp⟩ := atOK_iff.1 h
  obtain ⟨p, rfl⟩ : ∃ n : Nat, p = (n : Int) := ⟨p.toNat, by omega⟩
  have S := sgS_iff.1 hS
  have hL0 : ∀ L ∈ zs, isC L = true ∧ L.length = m0 zs := S.ch
  have hpm : p < m0 zs := by omega
  have hat : ∀ q : Nat, q < m0 zs → atOK zs (q : Int) = true := fun q hq => atOK_iff.2 ⟨hS, by omega, by omega⟩
  have key : ∀ x, x ∈ plcI zs (p : Int) → ∃ (q : Nat) (L : List Int), q < m0 zs ∧ L ∈ zs ∧ ofL L p = (q : Int) ∧ x = (q : Int) := fun x hx => by
    obtain ⟨L, hL, e, hne⟩ := (plc_mem h).1 hx
    have hl := hL0 L hL
    rcases plc_ent hl.1 (show p < L.length by omega) with e1 | ⟨q, hq, e1⟩
    · exact absurd (e.symm.trans e1) hne
    · exact ⟨q, L, by omega, hL, e1, by rw [← e, e1]⟩
  constructor
  · intro x hx
    obtain ⟨q, L, hq, hL, e, rfl⟩ := key x hx
    have hl := hL0 L hL
    have hb : ofL (tuL L) q = (p : Int) := mv_back hl.1 (by omega) (by omega) e
    have hT := S.tu L hL
    have hlT := hL0 _ hT
    refine ⟨hat q hq, asc_ext (nums_asc _) (nums_asc _) (fun y => ?_)⟩
    show y ∈ plcI zs (q : Int) ↔ y ∈ plcI zs (p : Int)
    rw [plc_mem (hat q hq), plc_mem h]
    constructor
    · rintro ⟨M, hM, e2, hne⟩
      have hm := hL0 M hM
      refine ⟨tiL L M, S.ti L hL M hM, ?_, hne⟩
      rw [mv_on (isP_of hl.1 hm.1 (hl.2.trans hm.2.symm)) (by omega) (by omega) e, e2]
    · rintro ⟨M, hM, e2, hne⟩
      have hm := hL0 M hM
      refine ⟨tiL (tuL L) M, S.ti _ hT M hM, ?_, hne⟩
      rw [mv_on (isP_of hlT.1 hm.1 (hlT.2.trans hm.2.symm)) (by omega) (by omega) hb, e2]
  · intro hne
    obtain ⟨x, hx⟩ := List.exists_mem_of_ne_nil _ hne
    obtain ⟨q, L, hq, hL, e, rfl⟩ := key x hx
    have hl := hL0 L hL
    have hb : ofL (tuL L) q = (p : Int) := mv_back hl.1 (by omega) (by omega) e
    have hT := S.tu L hL
    have hlT := hL0 _ hT
    refine (plc_mem h).2 ⟨tiL L (tuL L), S.ti L hL _ hT, ?_, by omega⟩
    rw [mv_on (isP_of hl.1 hlT.1 (hl.2.trans hlT.2.symm)) (by omega) (by omega) e, hb]
def DrwPt (w : World) (e : Ending) (w' : World) : Prop := ∃ (A : Option Addr) (n c : Nat) (zs : List (List Int)) (p : Int), e = .returned (.tuple #[.slice A n c, .int .i64 p]) ∧ RSS w' A n zs ∧ n ≤ 400 ∧ n ≤ c ∧ (∀ L ∈ zs, L.length ≤ 7) ∧ Below w.heap.size w w'
set_option maxHeartbeats 1000000 in
theorem drawGerm_any (A : Option Addr) (n c : Nat) (bs : Nat → Nat) (w : World) (h : Src w w.heap.size A n bs) (hnc : n ≤ c) (hn : n ≤ 1048576) :
    Calls Tryz.prog 24 #[.slice A n c] w (DrwPt w) := by
  go_enter Tryz.func24, Tryz.ntmps24
  go_wp2_with fail
  refine (open_any _ _ _ _ _ h hnc hn).mono ?_
  rintro e w1 ⟨R, rfl, hRl, hRs, hRd, hB⟩
  clear h
  go_wp2_with fail
  refine (l91Semi_any R 0 _ hRd (by omega)).mono ?_
  rintro e w2 ⟨A2, n2, c2, zs, p', rfl, hr, h4, hc2, h7, hg, hRd2, hp'⟩
  have HR := Lib.hid hr
  clear hr
  go_wp2_with fail
  refine (pick_any R p' 4 _ hRd2 (by omega) (by omega) (by omega)).mono ?_
  rintro e w3 ⟨z, rfl, hz, hRd3, hg3⟩
  go_wp2_with fail
  refine (pick_any R (p' + 1) 24 _ hRd3 (by omega) (by omega) (by omega)).mono ?_
  rintro e w4 ⟨y, rfl, hy, hRd4, hg4⟩
  have hg34 := gb_trans hg3 hg4
  have hB2 := below_gb hB (Nat.le_refl _) (gb_trans hg hg34) hRl
  have hR4 := HR.out _ hg34
  clear hRd hRd2 hRd3 hRd4 hg hg3 hg4 hg34
  go_wp2
  go_ret2
  exact ⟨_, _, _, zs, _, rfl, hR4, h4, hc2, h7, hB2⟩
theorem drawSgPlaces_any (A : Option Addr) (n c : Nat) (bs : Nat → Nat) (w : World) (h : Src w w.heap.size A n bs) (hnc : n ≤ c) (hn : n ≤ 1048576) :
    Calls Tryz.prog 28 #[.slice A n c] w (DrwPt w) := by
  go_enter Tryz.func28, Tryz.ntmps28
  go_wp2_with fail
  refine (drawGerm_any A n c bs w h hnc hn).mono ?_
  rintro e w2 ⟨A2, n2, c2, zs, p, rfl, hr⟩
  go_wp2
  go_ret2
  exact ⟨_, _, _, zs, p, rfl, hr⟩
end

/-! draws of a semigroup and sets. -/
section
open Go.RowKit Go.Maps

def WthR (w : World) (R : Nat) (e : Ending) (w' : World) : Prop := ∃ (A B : Option Addr) (n c m d : Nat) (zs : List (List Int)) (f : List Int) (q : Nat), e = .returned (.tuple #[.slice A n c, .slice B m d]) ∧ (∀ W', w'.grownBy W' (some R) → RSS W' A n zs) ∧ RI w' B m f ∧ n ≤ 400 ∧ n ≤ c ∧ (∀ L ∈ zs, L.length ≤ 7) ∧ f.length ≤ 7 ∧ Rd w' R q ∧ q ≤ 100 ∧ Below w.heap.size w w'
set_option maxHeartbeats 1000000 in
theorem l91WithR_any (R : Nat) (w w0 : World) (h : Rd w R 0) (hB : Below w0.heap.size w0 w) (hRl : w0.heap.size ≤ R) :
    Calls Tryz.prog 46 #[.pointer (some ⟨R, 0, none⟩)] w (WthR w0 R) := by
  go_enter Tryz.func46, Tryz.ntmps46
  go_wp2_with fail
  refine (l91Semi_any R 0 w h (by omega)).mono ?_
  rintro e w1 ⟨A, n, c, zs, p1, rfl, hK, h4, hnc, h7, hg1, hRd1, hp1⟩
  have HK := Lib.hid hK
  clear h hK
  have last : ∀ (q : Nat) (wq : World), Rd wq R q → q ≤ 60 → w1.grownBy wq (some R) → ∀ z : Nat, z < 4 → Calls Tryz.prog 83 #[.pointer (some ⟨R, 0, none⟩), .int .i64 (1 + (z : Int))] wq fun e w' => ∃ (B : Option Addr) (m d : Nat) (f : List Int), e = .returned (.slice B m d) ∧ RI w' B m f ∧ f.length ≤ 7 ∧ w1.grownBy w' (some R) ∧ Rd w' R (q + (1 + z) + 1) := by
    intro q wq hR hq hg z hz
    have hc := l91Chart_any R q (1 + z) wq hR (by omega) (by omega) (by omega)
    rw [show ((1 + z : Nat) : Int) = 1 + (z : Int) from by omega] at hc
    refine hc.mono ?_
    rintro e w' ⟨v, rfl, L, hL, o, hg', hRd'⟩
    obtain ⟨B, d, rfl⟩ := own_slice o
    exact ⟨B, _, d, L, rfl, RI.of_own o, hL, gb_trans hg hg', hRd'⟩
  have LAST := Lib.hid last
  clear last
  by_cases hn0 : 0 < n
  · have hd : decide ((0 : Int) < (n : Int)) = true := decide_eq_true (by omega)
    go_wp2_with fail
    refine (pick_any R p1 12 _ hRd1 (by omega) (by omega) (by omega)).mono ?_
    rintro e w2 ⟨z, rfl, hz, hRd2, hg2⟩
    by_cases hz0 : 0 < z
    · have hd0 : decide ((0 : Int) < (z : Int)) = true := decide_eq_true (by omega)
      obtain ⟨ad, rfl⟩ : ∃ ad, A = some ad := by
        obtain ⟨ad, _, _, e, _⟩ := (HK.out _ (gb_refl _ _)).at_ (k := 0) hn0
        exact ⟨ad, e⟩
      go_wp2_with fail
      refine wp_region_held_drew (S := fun _ => True) (by kernel_rfl) ?_ (fun hHeld => ?_)
      · trivial
      refine wpAnyH_take (i := 0) (v := .slice (some ad) n c) (by rw [List.getElem?_toArray]; rfl) (by kernel_rfl) (by kernel_rfl) (by kernel_rfl) (by exact fun _ _ _ h => h) (Or.inl ⟨by rfl, fun w hSw => by (try dsimp only at hSw); go_simp⟩) (by assumption) ?_
      try simp only [Act.put, List.setIfInBounds_toArray, List.set_cons_zero, List.set_cons_succ]
      refine wpAnyH_take (i := 1) (v := .slice (some ad) n c) (by rw [List.getElem?_toArray]; rfl) (by kernel_rfl) (by kernel_rfl) (by kernel_rfl) (by exact fun _ _ _ h => h) (Or.inl ⟨by rfl, fun w hSw => by (try dsimp only at hSw); go_simp⟩) (by assumption) ?_
      try simp only [Act.put, List.setIfInBounds_toArray, List.set_cons_zero, List.set_cons_succ]
      refine wpAnyH_take (i := 2) (v := .pointer (some ⟨R, 0, none⟩)) (by rw [List.getElem?_toArray]; rfl) (by kernel_rfl) (by kernel_rfl) (by kernel_rfl) (by exact fun _ _ _ h => h) (Or.inl ⟨by rfl, fun w hSw => by (try dsimp only at hSw); go_simp⟩) (by assumption) ?_
      try simp only [Act.put, List.setIfInBounds_toArray, List.set_cons_zero, List.set_cons_succ]
      refine wpAnyH_take (i := 3) (v := .slice (some ad) n c) (by rw [List.getElem?_toArray]; rfl) (by kernel_rfl) (by kernel_rfl) (by kernel_rfl) (by exact fun _ _ _ h => h) (Or.inl ⟨by rfl, fun w hSw => by (try dsimp only at hSw); go_simp⟩) (by assumption) ?_
      try simp only [Act.put, List.setIfInBounds_toArray, List.set_cons_zero, List.set_cons_succ]
      refine wpAnyH_take (i := 4) (v := .int .i64 (n : Int)) (by rw [List.getElem?_toArray]; rfl) (by kernel_rfl) (by kernel_rfl) (by kernel_rfl) (by exact fun _ _ _ h => h) (Or.inl ⟨by rfl, fun w hSw => by (try dsimp only at hSw); go_simp⟩) (by assumption) ?_
      try simp only [Act.put, List.setIfInBounds_toArray, List.set_cons_zero, List.set_cons_succ]
      refine wpAnyH_ready (rs := [5]) (by kernel_rfl) (by simp) ?_
      refine AllReadyH.cons (o := _) (by rw [List.getElem?_toArray]; rfl) (fun K hK => ?_) AllReadyH.nil
      go_simp
      go_at_call 49
      refine (pick_any R (p1 + 1) n _ (show Rd w2.drew R (p1 + 1) from hRd2) (by omega) (by omega) (by omega)).mono ?_
      rintro e w3 ⟨y, rfl, hy, hRd3, hg3'⟩
      have hg3 : w2.grownBy w3 (some R) := ⟨hg3'.os, hg3'.tape, hg3'.output, hg3'.size, hg3'.block⟩
      have hg13 := gb_trans hg2 hg3
      have hR3 := HK.out _ hg13
      obtain ⟨ad', Ay, cy, he, _, hcy, hry⟩ := hR3.at_ hy
      obtain rfl := Option.some.inj he
      have hly : (zs[y]?.getD []).length ≤ 7 := get_len zs (k := y) h7
      have hyn : (y : Int) < (n : Int) := by omega
      have HR3 := Lib.hid hR3
      have HRY := Lib.hid hry
      clear hR3 hry he
      generalize zs[y]?.getD [] = L at *
      refine hK.out _ _ ?_ (fun hHeld5 => ?_)
      · trivial
      clear hK K
      try simp only [Act.put, List.setIfInBounds_toArray, List.set_cons_zero, List.set_cons_succ]
      refine wpAnyH_take (i := 6) (v := .pointer (some (ad.add y))) (by rw [List.getElem?_toArray]; rfl) (by kernel_rfl) (by kernel_rfl) (by kernel_rfl) (by exact fun _ _ _ h => h) (Or.inl ⟨by rfl, fun w hSw => by (try dsimp only at hSw); go_simp⟩) (by assumption) ?_
      try simp only [Act.put, List.setIfInBounds_toArray, List.set_cons_zero, List.set_cons_succ]
      refine wpAnyH_take (i := 8) (v := .slice (some ad) n c) (by rw [List.getElem?_toArray]; rfl) (by kernel_rfl) (by kernel_rfl) (by kernel_rfl) (by exact fun _ _ _ h => h) (Or.inl ⟨by rfl, fun w hSw => by (try dsimp only at hSw); go_simp⟩) (by assumption) ?_
      try simp only [Act.put, List.setIfInBounds_toArray, List.set_cons_zero, List.set_cons_succ]
      refine wpAnyH_ready (rs := [7]) (by kernel_rfl) (by simp) ?_
      refine AllReadyH.cons (o := _) (by rw [List.getElem?_toArray]; rfl) (fun K hK => ?_) AllReadyH.nil
      go_simp
      refine hK.out _ _ ?_ (fun hHeld7 => ?_)
      · trivial
      clear hK K
      try simp only [Act.put, List.setIfInBounds_toArray, List.set_cons_zero, List.set_cons_succ]
      refine wpAnyH_take (i := 9) (v := .slice Ay L.length cy) (by rw [List.getElem?_toArray]; rfl) (by kernel_rfl) (by kernel_rfl) (by kernel_rfl) (by exact fun _ _ _ h => h) (Or.inl ⟨by rfl, fun w hSw => by (try dsimp only at hSw); go_simp⟩) (by assumption) ?_
      try simp only [Act.put, List.setIfInBounds_toArray, List.set_cons_zero, List.set_cons_succ]
      refine wpAnyH_done (by kernel_rfl) ?_ _
      have hBF := below_gb (below_gb hB (Nat.le_refl _) hg1 hRl) (Nat.le_refl _) hg13 hRl
      have HRK : Hid (∀ W', w3.grownBy W' (some R) → RSS W' (some ad) n zs) := fun W' hg => HK.out _ (gb_trans hg13 hg)
      clear hg1 hg2 hg3 hg3' hRd1 hRd2 HR3
      go_wp2
      go_ret2
      exact ⟨_, _, n, c, _, _, zs, L, _, rfl, HRK.out, HRY.out, h4, hnc, h7, hly, hRd3, by omega, hBF⟩
    · have hd0 : decide ((0 : Int) < (z : Int)) = false := decide_eq_false (by omega)
      go_wp2_with fail
      refine (pick_any R (p1 + 1) 4 _ hRd2 (by omega) (by omega) (by omega)).mono ?_
      rintro e w3 ⟨y, rfl, hy, hRd3, hg3⟩
      have hg13 := gb_trans hg2 hg3
      clear hg2 hg3 hRd1 hRd2
      go_wp2_with fail
      refine (LAST.out _ _ hRd3 (by omega) hg13 y hy).mono ?_
      rintro e w4 ⟨B, m, d, f, rfl, hrf, hf7, hg4, hRd4⟩
      have hBF := below_gb (below_gb hB (Nat.le_refl _) hg1 hRl) (Nat.le_refl _) hg4 hRl
      have HR4 : Hid (∀ W', w4.grownBy W' (some R) → RSS W' A n zs) := fun W' hg => HK.out _ (gb_trans hg4 hg)
      have HRF := Lib.hid hrf
      clear hrf hg1 hg4 hg13 hRd3
      go_wp2
      go_ret2
      exact ⟨_, _, n, c, _, _, zs, f, _, rfl, HR4.out, HRF.out, h4, hnc, h7, hf7, hRd4, by omega, hBF⟩
  · have hd : decide ((0 : Int) < (n : Int)) = false := decide_eq_false (by omega)
    go_wp2_with fail
    refine (pick_any R p1 4 _ hRd1 (by omega) (by omega) (by omega)).mono ?_
    rintro e w3 ⟨y, rfl, hy, hRd3, hg3⟩
    clear hRd1
    go_wp2_with fail
    refine (LAST.out _ _ hRd3 (by omega) hg3 y hy).mono ?_
    rintro e w4 ⟨B, m, d, f, rfl, hrf, hf7, hg4, hRd4⟩
    have hBF := below_gb (below_gb hB (Nat.le_refl _) hg1 hRl) (Nat.le_refl _) hg4 hRl
    have HR4 : Hid (∀ W', w4.grownBy W' (some R) → RSS W' A n zs) := fun W' hg => HK.out _ (gb_trans hg4 hg)
    have HRF := Lib.hid hrf
    clear hrf hg1 hg4 hg3 hRd3
    go_wp2
    go_ret2
    exact ⟨_, _, n, c, _, _, zs, f, _, rfl, HR4.out, HRF.out, h4, hnc, h7, hf7, hRd4, by omega, hBF⟩
theorem gb_rdr {w w' : World} {R : Nat} (b : Below w.heap.size w w') : w.grownBy w' (some R) := ⟨b.os, b.tape, b.output, b.size, fun k hk _ => b.block k hk⟩
def DrwOb (w : World) (e : Ending) (w' : World) : Prop := ∃ (A : Option Addr) (n c : Nat) (zs : List (List Int)) (s : Int), e = .returned (.tuple #[.slice A n c, .int .i64 s]) ∧ RSS w' A n zs ∧ n ≤ 400 ∧ n ≤ c ∧ (∀ L ∈ zs, L.length ≤ 7) ∧ Below w.heap.size w w'
set_option maxHeartbeats 1000000 in
theorem l92Object_any (R : Nat) (w w0 : World) (h : Rd w R 0) (hB : Below w0.heap.size w0 w) (hRl : w0.heap.size ≤ R) :
    Calls Tryz.prog 40 #[.pointer (some ⟨R, 0, none⟩)] w (DrwOb w0) := by
  go_enter Tryz.func40, Tryz.ntmps40
  go_wp2_with fail
  refine (l91WithR_any R w w0 h hB hRl).mono ?_
  rintro e w1 ⟨A, B, n, c, m, d, zs, f, q, rfl, hK, hf, h4, hnc, h7, hf7, hRd, hq, hB1⟩
  obtain rfl := hf.len
  have hD := specDomain_any B _ d f w1 hf (by omega)
  have HK := Lib.hid hK
  clear h hK hf hB
  go_wp2_with fail
  refine hD.mono ?_
  rintro e w2 ⟨rfl, hb2⟩
  have hRd2 := hRd.below hb2 hRd.lt
  have hB2 := hB1.trans (hb2.mono hB1.size)
  have HK2 : Hid (∀ W', w2.grownBy W' (some R) → RSS W' A n zs) := fun W' hg => HK.out _ (gb_trans (gb_rdr hb2) hg)
  clear hD hRd hb2 hB1 HK
  cases hc : isC f
  · clear hc
    go_wp2_with fail
    refine (pick_any R q 16 _ hRd2 (by omega) (by omega) (by omega)).mono ?_
    rintro e w3 ⟨z, rfl, hz, hRd3, hg3⟩
    have hR3 := HK2.out _ hg3
    have hB3 := below_gb hB2 (Nat.le_refl _) hg3 hRl
    clear hRd2 hRd3 hg3
    go_wp2
    go_ret2
    exact ⟨_, _, _, zs, _, rfl, hR3, h4, hnc, h7, hB3⟩
  · clear hc
    go_wp2_with fail
    refine (pick_any R q 6 _ hRd2 (by omega) (by omega) (by omega)).mono ?_
    rintro e w3 ⟨z, rfl, hz, hRd3, hg3⟩
    have hR3 := HK2.out _ hg3
    have hB3 := below_gb hB2 (Nat.le_refl _) hg3 hRl
    by_cases hz0 : 0 < z
    · have hd0 : decide ((0 : Int) < (z : Int)) = true := decide_eq_true (by omega)
      clear hRd2 hRd3 hg3
      go_wp2
      go_ret2
      exact ⟨_, _, _, zs, _, rfl, hR3, h4, hnc, h7, hB3⟩
    · have hd0 : decide ((0 : Int) < (z : Int)) = false := decide_eq_false (by omega)
      go_wp2_with fail
      refine (pick_any R (q + 1) 16 _ hRd3 (by omega) (by omega) (by omega)).mono ?_
      rintro e w4 ⟨y, rfl, hy, hRd4, hg4⟩
      have hR4 := HK2.out _ (gb_trans hg3 hg4)
      have hB4 := below_gb hB3 (Nat.le_refl _) hg4 hRl
      clear hRd2 hRd3 hg3 hRd4 hg4 hR3 hB3
      go_wp2
      go_ret2
      exact ⟨_, _, _, zs, _, rfl, hR4, h4, hnc, h7, hB4⟩
theorem drawSgLocal_any (A : Option Addr) (n c : Nat) (bs : Nat → Nat) (w : World) (h : Src w w.heap.size A n bs) (hnc : n ≤ c) (hn : n ≤ 1048576) :
    Calls Tryz.prog 15 #[.slice A n c] w (DrwOb w) := by
  go_enter Tryz.func15, Tryz.ntmps15
  go_wp2_with fail
  refine (open_any _ _ _ _ _ h hnc hn).mono ?_
  rintro e w1 ⟨R, rfl, hRl, hRs, hRd, hB⟩
  clear h
  go_wp2_with fail
  refine (l92Object_any R w1 w hRd hB hRl).mono ?_
  rintro e w2 ⟨A2, n2, c2, zs, s, rfl, hr⟩
  go_wp2
  go_ret2
  exact ⟨_, _, _, zs, s, rfl, hr⟩
def DrwFr (w : World) (e : Ending) (w' : World) : Prop := ∃ (A : Option Addr) (n c : Nat) (zs : List (List Int)) (s t : Int), e = .returned (.tuple #[.slice A n c, .int .i64 s, .int .i64 t]) ∧ RSS w' A n zs ∧ n ≤ 400 ∧ n ≤ c ∧ (∀ L ∈ zs, L.length ≤ 7) ∧ Below w.heap.size w w'
set_option maxHeartbeats 1000000 in
theorem drawSgFrom_any (A : Option Addr) (n c : Nat) (bs : Nat → Nat) (w : World) (h : Src w w.heap.size A n bs) (hnc : n ≤ c) (hn : n ≤ 1048576) :
    Calls Tryz.prog 19 #[.slice A n c] w (DrwFr w) := by
  go_enter Tryz.func19, Tryz.ntmps19
  go_wp2_with fail
  refine (open_any _ _ _ _ _ h hnc hn).mono ?_
  rintro e w0 ⟨R, rfl, hRl, hRs, hRd, hB⟩
  clear h
  go_wp2_with fail
  refine (l91WithR_any R w0 w hRd hB hRl).mono ?_
  rintro e w1 ⟨A, B, n, c, m, d, zs, f, q, rfl, hK, hf, h4, hnc, h7, hf7, hRd, hq, hB1⟩
  obtain rfl := hf.len
  have hD := specDomain_any B _ d f w1 hf (by omega)
  have HK := Lib.hid hK
  clear hK hB
  go_wp2_with fail
  refine hD.mono ?_
  rintro e w2 ⟨rfl, hb2⟩
  have hD2 := specRange_any B _ d f w2 (hf.below hb2) (by omega)
  have hRd2 := hRd.below hb2 hRd.lt
  have hB2 := hB1.trans (hb2.mono hB1.size)
  have HK2 : Hid (∀ W', w2.grownBy W' (some R) → RSS W' A n zs) := fun W' hg => HK.out _ (gb_trans (gb_rdr hb2) hg)
  clear hD hRd hb2 hB1 HK hf
  go_wp2_with fail
  refine hD2.mono ?_
  rintro e w3 ⟨rfl, hb3⟩
  have hRd3 := hRd2.below hb3 hRd2.lt
  have hB3 := hB2.trans (hb3.mono hB2.size)
  have HK3 : Hid (∀ W', w3.grownBy W' (some R) → RSS W' A n zs) := fun W' hg => HK2.out _ (gb_trans (gb_rdr hb3) hg)
  clear hD2 hRd2 hb3 hB2 HK2
  cases hc : isC f
  · clear hc
    go_wp2_with fail
    refine (pick_any R q 16 _ hRd3 (by omega) (by omega) (by omega)).mono ?_
    rintro e w4 ⟨z, rfl, hz, hRd4, hg4⟩
    have hR4 := HK3.out _ hg4
    have hB4 := below_gb hB3 (Nat.le_refl _) hg4 hRl
    clear hRd3 hRd4 hg4
    go_wp2
    go_ret3
    exact ⟨_, _, _, zs, _, _, rfl, hR4, h4, hnc, h7, hB4⟩
  · clear hc
    go_wp2_with fail
    refine (pick_any R q 4 _ hRd3 (by omega) (by omega) (by omega)).mono ?_
    rintro e w4 ⟨z, rfl, hz, hRd4, hg4⟩
    have hR4 := HK3.out _ hg4
    have hB4 := below_gb hB3 (Nat.le_refl _) hg4 hRl
    by_cases hz0 : 0 < z
    · have hd0 : decide ((0 : Int) < (z : Int)) = true := decide_eq_true (by omega)
      clear hRd3 hRd4 hg4
      go_wp2
      go_ret3
      exact ⟨_, _, _, zs, _, _, rfl, hR4, h4, hnc, h7, hB4⟩
    · have hd0 : decide ((0 : Int) < (z : Int)) = false := decide_eq_false (by omega)
      go_wp2_with fail
      refine (pick_any R (q + 1) 16 _ hRd4 (by omega) (by omega) (by omega)).mono ?_
      rintro e w5 ⟨y, rfl, hy, hRd5, hg5⟩
      have hR5 := HK3.out _ (gb_trans hg4 hg5)
      have hB5 := below_gb hB4 (Nat.le_refl _) hg5 hRl
      clear hRd3 hRd4 hg4 hRd5 hg5 hR4 hB4
      go_wp2
      go_ret3
      exact ⟨_, _, _, zs, _, _, rfl, hR5, h4, hnc, h7, hB5⟩
end

/-! the charts from one object to another one: mathematics. -/
section
open Go.RowKit Go.Maps

theorem raN_idem {f : List Int} (h : isC f = true) (hi : idB f = true) : raN f = doN f := by rw [raN_tu h, (idem_law h hi).2.2]
theorem mul_one {f e : List Int} (h : isP f e = true) (hi : idB e = true) (hr : raN f = doN e) : tiL f e = f := by
  obtain ⟨hf, he, hl⟩ := isP_yes h
  refine ofL_ext (n := f.length) (tiL_len h) rfl (fun j hj => ?_)
  rcases plc_ent hf hj with e1 | ⟨q, hq, e1⟩
  · rw [tiL_get h hj, e1]
    unfold cmp
    rw [e1, if_neg (by omega)]
  · rw [mv_on h hj hq e1, e1]
    rcases (idB_iff he).1 hi q (by omega) with e2 | e2
    · exfalso
      have hb := mv_back hf hj hq e1
      have h1 := doN_bit (tuL_isC hf) q
      rw [← raN_tu hf, hr, doN_bit he, e2, hb, tuL_len hf, decide_eq_true hq, decide_eq_true (show (j : Int) ≠ -1 by omega)] at h1
      simp at h1
    · exact e2
theorem fr_mem {zs : List (List Int)} (hS : sgS zs = true) {a b : Int} {L : List Int} : L ∈ frL zs a b ↔ L ∈ zs ∧ doI L = a ∧ raI L = b := by
  unfold frL
  rw [sgl_yes hS, List.mem_filter]
  unfold btB
  rw [Bool.and_eq_true, decide_eq_true_eq, decide_eq_true_eq]
theorem fr_nodup {zs : List (List Int)} (hS : sgS zs = true) (a b : Int) : (frL zs a b).Nodup := by
  unfold frL
  rw [sgl_yes hS]
  exact List.Pairwise.filter _ (srt_nodup (sgS_iff.1 hS).srt)
theorem map_nodup2 {zs : List (List Int)} {g : List Int → List Int} (h : zs.Nodup) (hi : ∀ L ∈ zs, ∀ M ∈ zs, g L = g M → L = M) : (zs.map g).Nodup := by
  unfold List.Nodup at h ⊢
  rw [List.pairwise_map]
  exact List.Pairwise.imp_of_mem (fun hL hM hne e => hne (hi _ hL _ hM e)) h
theorem len_of_mem {l m : List (List Int)} (h1 : l.Nodup) (h2 : m.Nodup) (h : ∀ x, x ∈ l ↔ x ∈ m) : l.length = m.length := ((List.perm_ext_iff_of_nodup h1 h2).2 h).length_eq
theorem fr_back {zs : List (List Int)} (hS : sgS zs = true) (a b : Int) : (frL zs a b).length = (frL zs b a).length := by
  have S := sgS_iff.1 hS
  rw [← List.length_map (f := tuL)]
  refine len_of_mem (map_nodup2 (fr_nodup hS a b) (fun L hL M hM e => ?_)) (fr_nodup hS b a) (fun x => ?_)
  · have h1 := (S.ch L ((fr_mem hS).1 hL).1).1
    have h2 := (S.ch M ((fr_mem hS).1 hM).1).1
    rw [← tuL_tuL h1, ← tuL_tuL h2, e]
  · have tur : ∀ {u v : Int} {L : List Int}, L ∈ frL zs u v → tuL L ∈ frL zs v u := fun {u v L} hL => by
      obtain ⟨h1, h2, h3⟩ := (fr_mem hS).1 hL
      have c := (S.ch L h1).1
      refine (fr_mem hS).2 ⟨S.tu L h1, ?_, ?_⟩
      · unfold doI; rw [← raN_tu c]; exact h3
      · unfold raI; rw [raN_tu (tuL_isC c), tuL_tuL c]; exact h2
    rw [List.mem_map]
    constructor
    · rintro ⟨L, hL, rfl⟩; exact tur hL
    · intro hx
      exact ⟨tuL x, tur hx, tuL_tuL (S.ch x ((fr_mem hS).1 hx).1).1⟩
theorem fr_local {zs : List (List Int)} (hS : sgS zs = true) (a b : Int) (hne : frL zs a b ≠ []) : (frL zs a b).length = (frL zs a a).length := by
  have S := sgS_iff.1 hS
  obtain ⟨K, hK⟩ := List.exists_mem_of_ne_nil _ hne
  obtain ⟨k1, k2, k3⟩ := (fr_mem hS).1 hK
  have cK := S.ch K k1
  have kT := S.tu K k1
  have cT := S.ch _ kT
  have hKT : isP K (tuL K) = true := isP_of cK.1 cT.1 (cK.2.trans cT.2.symm)
  have hTK : isP (tuL K) K = true := isP_of cT.1 cK.1 (cT.2.trans cK.2.symm)
  have i1 := idem_at cK.1
  have i2 := idem_at cT.1
  rw [tuL_tuL cK.1] at i2
  have jo : ∀ {u v : Int} {L M : List Int}, L ∈ zs → M ∈ zs → doI L = u → raI M = v → raI L = doI M → tiL L M ∈ frL zs u v := fun {u v L M} hL hM h1 h2 h3 => by
    have cL := S.ch L hL
    have cM := S.ch M hM
    have hj : joB L M = true := joB_iff.2 ⟨isP_of cL.1 cM.1 (cL.2.trans cM.2.symm), by unfold doI raI at h3; omega⟩
    obtain ⟨_, _, _, _, h5, h6, h7⟩ := arrow_law hj
    refine (fr_mem hS).2 ⟨S.ti L hL M hM, ?_, ?_⟩
    · unfold doI; rw [h7, h5]; exact h1
    · unfold raI; rw [h7, h6]; exact h2
  have back : ∀ L, L ∈ frL zs a a → tiL (tiL L K) (tuL K) = L := fun L hL => by
    obtain ⟨h1, h2, h3⟩ := (fr_mem hS).1 hL
    have cL := S.ch L h1
    have hP := isP_of cL.1 cK.1 (cL.2.trans cK.2.symm)
    rw [(tiL_assoc hP hKT).2.2]
    have hI := S.ti K k1 _ kT
    have cI := S.ch _ hI
    exact mul_one (isP_of cL.1 cI.1 (cL.2.trans cI.2.symm)) i1.2 (by rw [i1.1]; unfold raI at h3; unfold doI at k2; omega)
  symm
  rw [← List.length_map (f := fun M => tiL M K)]
  refine len_of_mem (map_nodup2 (fr_nodup hS a a) (fun L hL M hM e => ?_)) (fr_nodup hS a b) (fun x => ?_)
  · rw [← back L hL, ← back M hM]
    have e : tiL L K = tiL M K := e
    rw [e]
  · rw [List.mem_map]
    constructor
    · rintro ⟨L, hL, rfl⟩
      obtain ⟨h1, h2, h3⟩ := (fr_mem hS).1 hL
      exact jo h1 k1 h2 k3 (by rw [h3, k2])
    · intro hx
      obtain ⟨h1, h2, h3⟩ := (fr_mem hS).1 hx
      have cx := S.ch x h1
      have dT : doI (tuL K) = b := by unfold doI; rw [← raN_tu cK.1]; exact k3
      have rT : raI (tuL K) = a := by unfold raI; rw [raN_tu cT.1, tuL_tuL cK.1]; exact k2
      refine ⟨tiL x (tuL K), jo h1 kT h2 rT (by rw [h3, dT]), ?_⟩
      show tiL (tiL x (tuL K)) K = x
      rw [(tiL_assoc (isP_of cx.1 cT.1 (cx.2.trans cT.2.symm)) hTK).2.2]
      have hI := S.ti _ kT K k1
      have cI := S.ch _ hI
      exact mul_one (isP_of cx.1 cI.1 (cx.2.trans cI.2.symm)) i2.2 (by rw [i2.1]; unfold raI at h3; unfold doI at dT; omega)
theorem one_only {l : List (List Int)} (hn : l.Nodup) (hne : l ≠ []) (he : ∀ L ∈ l, ∀ M ∈ l, L = M) : l.length = 1 := by
  match l, hn, hne, he with
  | [_], _, _, _ => rfl
  | x :: y :: r, hn, _, he =>
    exfalso
    have h1 := (List.nodup_cons.1 hn).1
    exact h1 (by rw [he x (by simp) y (by simp)]; simp)
theorem loc_group {zs : List (List Int)} (hS : sgS zs = true) {s : Int} (ho : obB zs s = true) : sgrB (frL zs s s) = true := by
  have S := sgS_iff.1 hS
  have h0 : ∃ E, E ∈ frL zs s s ∧ idB E = true := by
    unfold obB at ho
    rw [sgl_yes hS, List.any_eq_true] at ho
    obtain ⟨L, hL, h1⟩ := ho
    have h1 : doI L = s := of_decide_eq_true h1
    have c := (S.ch L hL).1
    obtain ⟨h2, h3⟩ := idem_at c
    have hI := S.ti L hL _ (S.tu L hL)
    refine ⟨tiL L (tuL L), (fr_mem hS).2 ⟨hI, ?_, ?_⟩, h3⟩
    · unfold doI; rw [h2]; exact h1
    · unfold raI; rw [raN_idem (S.ch _ hI).1 h3, h2]; exact h1
  obtain ⟨E, hE, hEi⟩ := h0
  have hl : 1 ≤ (frL zs s s).length := List.length_pos_of_mem hE
  have hmem : ∀ L ∈ frL zs s s, L ∈ zs := fun L hL => ((fr_mem hS).1 hL).1
  have hch : ∀ L ∈ frL zs s s, isC L = true ∧ L.length = (ent (frL zs s s) 0).length := fun L hL => by
    have c := S.ch L (hmem L hL)
    exact ⟨c.1, c.2.trans (S.ch _ (hmem _ (ent_mem (show 0 < (frL zs s s).length by omega)))).2.symm⟩
  have hsg : sgS (frL zs s s) = true := sgS_iff.2 {
    one := hl
    most := frL_len zs s s
    ch := hch
    srt := by
      rw [srt_pw]
      unfold frL
      rw [sgl_yes hS]
      exact List.Pairwise.filter _ (srt_pw.1 S.srt)
    tu := fun L hL => by
      obtain ⟨h1, h2, h3⟩ := (fr_mem hS).1 hL
      have c := (S.ch L h1).1
      refine (fr_mem hS).2 ⟨S.tu L h1, ?_, ?_⟩
      · unfold doI; rw [← raN_tu c]; exact h3
      · unfold raI; rw [raN_tu (tuL_isC c), tuL_tuL c]; exact h2
    ti := fun L hL M hM => by
      obtain ⟨h1, h2, h3⟩ := (fr_mem hS).1 hL
      obtain ⟨g1, g2, g3⟩ := (fr_mem hS).1 hM
      have cL := S.ch L h1
      have cM := S.ch M g1
      have hj : joB L M = true := joB_iff.2 ⟨isP_of cL.1 cM.1 (cL.2.trans cM.2.symm), by unfold raI at h3; unfold doI at g2; omega⟩
      obtain ⟨_, _, _, _, h5, h6, h7⟩ := arrow_law hj
      refine (fr_mem hS).2 ⟨S.ti L h1 M g1, ?_, ?_⟩
      · unfold doI; rw [h7, h5]; exact h2
      · unfold raI; rw [h7, h6]; exact g3 }
  unfold sgrB
  rw [hsg, Bool.true_and]
  refine decide_eq_true (one_only (List.Pairwise.filter _ (fr_nodup hS s s)) (List.ne_nil_of_mem (List.mem_filter.2 ⟨hE, hEi⟩)) (fun L hL M hM => ?_))
  obtain ⟨h1, h2⟩ := List.mem_filter.1 hL
  obtain ⟨g1, g2⟩ := List.mem_filter.1 hM
  have cL := hch L h1
  have cM := hch M g1
  have e1 := ((fr_mem hS).1 h1).2.1
  have e2 := ((fr_mem hS).1 g1).2.1
  unfold doI at e1 e2
  exact idem_dom cL.1 cM.1 h2 g2 (cL.2.trans cM.2.symm) (by omega)
end

end Go.Proofs.YtdipcjnnknggnaaGreatDoor
