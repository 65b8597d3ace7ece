/-
  At8.
-/
import Derived.Deep.RegionHeld3
import Derived.Test.YtoomeimloaloaaaGreatDoorPS
namespace Go.Proofs.YtoomeimloaloaaaGreatDoor
set_option maxRecDepth 100000
set_option linter.unusedVariables false
set_option linter.unusedSimpArgs false
set_option linter.unusedSectionVars false

/-! ArrowParts of the spec. -/
section
open Go.RowKit Go.Maps

theorem own_ne {w : World} {b b' s s' n n' : Nat} {e e' : TypeId} {v v' : Value} {xs xs' : List Value} (h : w.ownsRow b e s v n xs) (h' : w.ownsRow b' e' s' v' n' xs') (hne : e ≠ e') {g : Nat} (hg : v.ownBlock = some g) : v'.ownBlock ≠ some g := by
  rcases h.2 with ⟨rfl, _⟩ | ⟨g1, c1, cur1, rfl, _, hh1, _⟩
  · simp [Value.ownBlock] at hg
  · rcases h'.2 with ⟨rfl, _⟩ | ⟨g2, c2, cur2, rfl, _, hh2, _⟩
    · simp [Value.ownBlock]
    · intro e
      have e1 : g1 = g := by simpa [Value.ownBlock] using hg
      have e2 : g2 = g := by simpa [Value.ownBlock] using e
      subst e1
      subst e2
      rw [hh1] at hh2
      injection hh2 with hh2
      injection hh2 with _ ht _
      exact hne ht
theorem own_ne2 {w : World} {b b' s s' n n' : Nat} {e e' : TypeId} {v v' : Value} {xs xs' : List Value} (h : w.ownsRow b e s v n xs) (h' : w.ownsRow b' e' s' v' n' xs') (hne : e ≠ e') : v.ownBlock = none ∨ v.ownBlock ≠ v'.ownBlock := by
  cases hv : v.ownBlock with
  | none => exact .inl rfl
  | some g => exact .inr (fun e1 => own_ne h h' hne hv e1.symm)
/-- the rows of ArrowParts while a part is made -/
structure Pst (w : World) (lo h5 D q : Nat) (ad : Addr) (c2 : Nat) (vo vp : Value) (vs : List Value) (Ls : List (List Int)) (P os : List Int) (ds : List Bool) : Prop where
  row : w.ownsRow lo 24 1 vo Ls.length vs
  inn : Inn w lo h5 vs Ls
  prt : w.ownsRow h5 3 1 vp P.length (ivs P)
  don : w.ownsRow lo 4 1 (.slice (some ⟨D, 0, none⟩) q q) q (bvs ds)
  obj : w.ownsRow lo 3 1 (.slice (some ad) q c2) q (ivs os)
  adh : ad.block < h5
  h5s : h5 ≤ w.heap.size
section
variable {w w' : World} {lo h5 D q : Nat} {ad : Addr} {c2 : Nat} {vo vp : Value} {vs : List Value} {Ls : List (List Int)} {P os : List Int} {ds : List Bool}
theorem Pst.below (h : Pst w lo h5 D q ad c2 vo vp vs Ls P os ds) (hb : Below w.heap.size w w') : Pst w' lo h5 D q ad c2 vo vp vs Ls P os ds :=
  ⟨own_below h.row hb, h.inn.below hb, own_below h.prt hb, own_below h.don hb, own_below h.obj hb, h.adh, Nat.le_trans h.h5s hb.size⟩
theorem Pst.app {vp' : Value} {b : Int} {o : Obj} (h0 : Pst w lo h5 D q ad c2 vo vp vs Ls P os ds) (hgrow : (w.alloc o).grownBy w' vp.ownBlock)
    (hown' : w'.ownsRow h5 3 1 vp' (P.length + 1) (ivs P ++ [.int .i64 b])) : Pst w' lo h5 D q ad c2 vo vp' vs Ls (P ++ [b]) os ds := by
  have h := h0.below ((Below.refl _ w).alloc (Nat.le_refl _) o)
  refine ⟨h.row.kept hgrow (own_ne2 h.row h.prt (by decide)), h.inn.same (fun i u hu g hg => ?_), ?_, h.don.kept hgrow (own_ne2 h.don h.prt (by decide)), h.obj.kept hgrow (.inr (fun e => ?_)), h.adh, Nat.le_trans h.h5s hgrow.size⟩
  · have h1 := h.inn.lt hu hg
    exact hgrow.block g h1.2.2 (fun e => by have := (h.prt.lt g e.symm).1; omega)
  · rw [List.length_append]
    unfold ivs at hown' ⊢
    rw [List.map_append]
    exact hown'
  · have h1 := (h.prt.lt ad.block e.symm).1
    have := h.adh
    omega
theorem Pst.store (h : Pst w lo h5 D q ad c2 vo vp vs Ls P os ds) (k : Nat) : Pst (w.setCell ⟨D, k, none⟩ (.bool true)) lo h5 D q ad c2 vo vp vs Ls P os (ds.set k true) := by
  obtain ⟨s1, hg⟩ := h.don.stored k (.bool true)
  have hse : (bvs ds).set k (.bool true) = bvs (ds.set k true) := by unfold bvs; rw [← List.map_set]
  rw [hse] at s1
  refine ⟨h.row.kept hg (own_ne2 h.row h.don (by decide)), h.inn.same (fun i u hu g hgu => ?_), h.prt.kept hg (own_ne2 h.prt h.don (by decide)), s1, h.obj.kept hg (own_ne2 h.obj h.don (by decide)), h.adh, Nat.le_trans h.h5s hg.size⟩
  have hl : i < vs.length := (List.getElem?_eq_some_iff.1 hu).1
  have o := h.inn.own i u _ hu (List.getElem?_eq_getElem (show i < Ls.length by rw [← h.inn.len]; exact hl))
  exact hg.block g (h.inn.lt hu hgu).2.2 (fun e => own_ne o.1 h.don (by decide) hgu e.symm)
theorem Pst.over {v' : Value} (h : Pst w lo h5 D q ad c2 vo vp vs Ls P os ds) (hlo : lo ≤ h5) (hown' : w'.ownsRow lo 24 1 v' (Ls.length + 1) (vs ++ [vp])) (hgrow : (w.alloc (.cells #[vp] 24)).grownBy w' vo.ownBlock) :
    OSS w' lo w'.heap.size v' (Ls ++ [P]) ∧ w'.ownsRow lo 4 1 (.slice (some ⟨D, 0, none⟩) q q) q (bvs ds) ∧ w'.ownsRow lo 3 1 (.slice (some ad) q c2) q (ivs os) := by
  have h2 := h.below ((Below.refl _ w).alloc (Nat.le_refl _) (.cells #[vp] 24))
  refine ⟨OSS.app h.row (h.inn.more (Nat.le_refl _) h.h5s) (OI.of (own_base h.prt hlo)) (fun i u hi g e1 e2 => ?_) hown' hgrow, h2.don.kept hgrow (own_ne2 h2.don h2.row (by decide)), h2.obj.kept hgrow (own_ne2 h2.obj h2.row (by decide))⟩
  have h3 := (h.inn.lt hi e1).2.1
  have h4 := (h.prt.lt g e2).1
  omega
end
def Dn (zs : List (List Int)) (os : List Int) (i : Nat) (ds : List Bool) : Prop := ds.length = os.length ∧ ∀ t, i ≤ t → t < os.length → (ds[t]?.getD false = true ↔ ∃ j, j < i ∧ rlB zs (os[j]?.getD 0) (os[t]?.getD 0) = true)
def Dk (zs : List (List Int)) (os : List Int) (i k : Nat) (ds : List Bool) : Prop := ds.length = os.length ∧ ∀ t, i + 1 ≤ t → t < os.length → (ds[t]?.getD false = true ↔ (∃ j, j < i ∧ rlB zs (os[j]?.getD 0) (os[t]?.getD 0) = true) ∨ (t < k ∧ rlB zs (os[i]?.getD 0) (os[t]?.getD 0) = true))
section
variable {zs : List (List Int)} {os : List Int} {i k : Nat} {ds : List Bool}
theorem dn_zero (os : List Int) : Dn zs os 0 (List.replicate os.length false) := ⟨by simp, fun t _ ht => by
  rw [List.getElem?_replicate, if_pos ht]
  constructor
  · intro h; cases h
  · rintro ⟨j, hj, _⟩; omega⟩
theorem Dn.start (h : Dn zs os i ds) : Dk zs os i i ds := ⟨h.1, fun t h1 h2 => by
  rw [h.2 t (by omega) h2]
  constructor
  · intro h; exact .inl h
  · rintro (h | ⟨h, _⟩)
    · exact h
    · omega⟩
theorem Dk.no (h : Dk zs os i k ds) (hr : rlB zs (os[i]?.getD 0) (os[k]?.getD 0) = false) : Dk zs os i (k + 1) ds := ⟨h.1, fun t h1 h2 => by
  rw [h.2 t h1 h2]
  constructor
  · rintro (h | ⟨h, e⟩)
    · exact .inl h
    · exact .inr ⟨by omega, e⟩
  · rintro (h | ⟨h, e⟩)
    · exact .inl h
    · refine .inr ⟨?_, e⟩
      rcases Nat.lt_or_ge t k with h3 | h3
      · exact h3
      · obtain rfl : t = k := by omega
        rw [hr] at e; cases e⟩
theorem Dk.yes (h : Dk zs os i k ds) (hr : rlB zs (os[i]?.getD 0) (os[k]?.getD 0) = true) : Dk zs os i (k + 1) (ds.set k true) := ⟨by rw [List.length_set]; exact h.1, fun t h1 h2 => by
  rw [List.getElem?_set]
  by_cases e : k = t
  · subst e
    rw [if_pos rfl, if_pos (by rw [h.1]; exact h2)]
    constructor
    · intro _; exact .inr ⟨by omega, hr⟩
    · intro _; rfl
  · rw [if_neg e, h.2 t h1 h2]
    constructor
    · rintro (h | ⟨h, e⟩)
      · exact .inl h
      · exact .inr ⟨by omega, e⟩
    · rintro (h | ⟨h, e⟩)
      · exact .inl h
      · exact .inr ⟨by omega, e⟩⟩
theorem Dk.stop (h : Dk zs os i os.length ds) : Dn zs os (i + 1) ds := ⟨h.1, fun t h1 h2 => by
  rw [h.2 t h1 h2]
  constructor
  · rintro (⟨j, hj, e⟩ | ⟨_, e⟩)
    · exact ⟨j, by omega, e⟩
    · exact ⟨i, by omega, e⟩
  · rintro ⟨j, hj, e⟩
    rcases Nat.lt_or_ge j i with h3 | h3
    · exact .inl ⟨j, h3, e⟩
    · obtain rfl : j = i := by omega
      exact .inr ⟨h2, e⟩⟩
theorem Dn.skip (S : Sg zs) (h : Dn zs os i ds) (hi : i < os.length) (hd : ds[i]?.getD false = true) : Dn zs os (i + 1) ds := ⟨h.1, fun t h1 h2 => by
  rw [h.2 t (by omega) h2]
  obtain ⟨j0, hj0, e0⟩ := (h.2 i (Nat.le_refl _) hi).1 hd
  constructor
  · rintro ⟨j, hj, e⟩; exact ⟨j, by omega, e⟩
  · rintro ⟨j, hj, e⟩
    rcases Nat.lt_or_ge j i with h3 | h3
    · exact ⟨j, h3, e⟩
    · obtain rfl : j = i := by omega
      exact ⟨j0, hj0, rlB_trans S e0 e⟩⟩
theorem Dn.head (S : Sg zs) (ho : os = nums (zs.map doI)) (h : Dn zs os i ds) (hi : i < os.length) : hdB zs (os[i]?.getD 0) = !(ds[i]?.getD false) := by
  have h1 := hdB_iff S ho hi
  have h2 := h.2 i (Nat.le_refl _) hi
  cases hd : ds[i]?.getD false
  · exact h1.2 (fun j hj => by
      cases e : rlB zs (os[j]?.getD 0) (os[i]?.getD 0)
      · rfl
      · have := h2.2 ⟨j, hj, e⟩; rw [hd] at this; cases this)
  · cases e : hdB zs (os[i]?.getD 0)
    · rfl
    · obtain ⟨j, hj, e2⟩ := h2.1 hd
      rw [h1.1 e j hj] at e2; cases e2
theorem take_none (S : Sg zs) (ho : os = nums (zs.map doI)) (hi : i < os.length) (hd : hdB zs (os[i]?.getD 0) = true) : (os.take i).filter (rlB zs (os[i]?.getD 0)) = [] := by
  rw [List.filter_eq_nil_iff]
  intro b hb hc
  obtain ⟨j, hj, rfl⟩ := List.mem_take_iff_getElem.1 hb
  have h1 := (hdB_iff S ho hi).1 hd j (by omega)
  rw [show os[j]?.getD 0 = os[j] by rw [List.getElem?_eq_getElem (by omega)]; rfl, rlB_symm S hc] at h1
  cases h1
theorem tf_yes {p : Int → Bool} (hk : k < os.length) (h : p (os[k]?.getD 0) = true) : (os.take (k + 1)).filter p = (os.take k).filter p ++ [os[k]?.getD 0] := by
  have e : os[k]?.getD 0 = os[k] := by rw [List.getElem?_eq_getElem hk]; rfl
  rw [e] at h
  rw [e, List.take_succ_eq_append_getElem hk, List.filter_append]; simp [h]
theorem tf_no {p : Int → Bool} (hk : k < os.length) (h : p (os[k]?.getD 0) = false) : (os.take (k + 1)).filter p = (os.take k).filter p := by
  have e : os[k]?.getD 0 = os[k] := by rw [List.getElem?_eq_getElem hk]; rfl
  rw [e] at h
  rw [List.take_succ_eq_append_getElem hk, List.filter_append]; simp [h]
theorem rl_len (zs : List (List Int)) (a b : Int) : (0 < (zs.filter (btB a b)).length) ↔ rlB zs a b = true := by
  unfold rlB
  rw [List.length_pos_iff, Ne, List.filter_eq_nil_iff, List.any_eq_true]
  constructor
  · intro h
    exact Classical.byContradiction (fun hn => h (fun x hx e => hn ⟨x, hx, e⟩))
  · rintro ⟨x, hx, e⟩ h
    exact h x hx e
end
theorem parI_yes {zs : List (List Int)} (h : sgS zs = true) : parI zs = ((objI zs).filter (hdB zs)).map (lkd zs) := by unfold parI; rw [sgl_yes h]
theorem parI_no {zs : List (List Int)} (h : sgS zs = false) : parI zs = [] := by unfold parI; rw [objI_no h]; rfl
theorem totL_400 : ∀ Ls : List (List Int), (∀ L ∈ Ls, L.length ≤ 400) → totL Ls ≤ Ls.length * 400
  | [], _ => Nat.le_refl _
  | L :: Ls, h => by
    have h1 := h L (List.mem_cons_self ..)
    have h2 := totL_400 Ls (fun M hM => h M (List.mem_cons_of_mem _ hM))
    have e : totL (L :: Ls) = L.length + totL Ls := rfl
    rw [e, List.length_cons]; omega
theorem parI_le (zs : List (List Int)) : (parI zs).length ≤ 400 ∧ totL (parI zs) ≤ 160000 ∧ ∀ L ∈ parI zs, L.length ≤ 1048576 := by
  have h0 : (parI zs).length ≤ 400 := by
    unfold parI
    rw [List.length_map]
    exact Nat.le_trans (List.length_filter_le _ _) (objI_len zs)
  have h1 : ∀ L ∈ parI zs, L.length ≤ 400 := fun L hL => by
    unfold parI at hL
    obtain ⟨a, _, rfl⟩ := List.mem_map.1 hL
    exact lkd_len (sgl_len zs) a
  have h2 := totL_400 _ h1
  exact ⟨h0, by omega, fun L hL => Nat.le_trans (h1 L hL) (by omega)⟩
theorem objI_pos {zs : List (List Int)} (h : sgS zs = true) : 1 ≤ (objI zs).length := by
  have S := sgS_iff.1 h
  have hz := S.one
  obtain ⟨L, hL⟩ : ∃ L, L ∈ zs := ⟨_, ent_mem (show 0 < zs.length by omega)⟩
  have : doI L ∈ objI zs := by rw [objI_yes h, nums_mem]; exact List.mem_map.2 ⟨L, hL, rfl⟩
  exact List.length_pos_of_mem this
set_option maxHeartbeats 4000000 in
theorem specPar_any (A : Option Addr) (n c : Nat) (zs : List (List Int)) (w : World) (h : RSS w A n zs) (hn : n ≤ 1048576) (hl : ∀ L ∈ zs, L.length ≤ 1048576) :
    Calls Tryz.prog 20 #[.slice A n c] w fun e w' => ∃ v, e = .returned (.tuple #[v, .bool (sgS zs)]) ∧ OSS w' w.heap.size w'.heap.size v (parI zs) ∧ Below w.heap.size w w' := by
  have hB0 := ((Below.refl _ w).alloc (Nat.le_refl _) (.cells #[] 24))
  obtain ⟨i0, hi, hz0, hz1, hz2⟩ := info_parts info_int
  obtain ⟨i1, hj, hj0, hj1, hj2⟩ := info_parts info_partsS
  obtain ⟨i2, hb, hb0, hb1, hb2⟩ := info_parts info_bool
  have hsg := specSg_any A n c zs _ (h.below hB0) hn hl
  have hO0 : OSS (w.alloc (.cells #[] 24)) w.heap.size (w.alloc (.cells #[] 24)).heap.size (.slice (some ⟨w.heap.size, 0, none⟩) 0 0) [] := (OSS.lit0 w).more (Nat.le_refl _) (by simp)
  have hs0 := hB0.size
  cases hS : sgS zs
  · have HK := Lib.hid hS
    have HO := Lib.hid (parI_no hS)
    rw [hS] at hsg
    clear hS h hl
    go_enter Tryz.func20, Tryz.ntmps20
    go_wp2_with fail
    generalize w.alloc (.cells #[] 24) = w0 at *
    refine hsg.mono ?_
    rintro e w2 ⟨rfl, hb⟩
    have hB := hB0.trans (hb.mono hs0)
    have hR := (hO0.below hb).more (Nat.le_refl _) hb.size
    clear hO0 hsg hb
    go_wp2
    go_ret2
    exact ⟨_, rfl, by rw [HO.out]; exact hR, hB⟩
  · have HX := Lib.hid (sgS_iff.1 hS)
    have HPI := Lib.hid (parI_yes hS)
    have HEQ := Lib.hid (objI_yes hS)
    have hol := objI_len zs
    have HZ : Hid (∀ L ∈ zs, isC L = true) := fun L hL => (HX.out.ch L hL).1
    have h1 := objI_pos hS
    have HH := Lib.hid h
    have hOb : ∀ w', Below w.heap.size w w' → Calls Tryz.prog 39 #[.slice A n c] w' fun e w2 => ∃ v, e = .returned v ∧ NewL w' (objI zs) v w2 := fun w' hb => by rw [HEQ.out]; exact l7Obj_any A n c zs w' (h.below hb) HX.out
    have HOb := Lib.hid hOb
    rw [hS] at hsg
    clear hS h hl hOb
    go_enter Tryz.func20, Tryz.ntmps20
    go_wp2_with fail
    generalize w.alloc (.cells #[] 24) = w0 at *
    refine hsg.mono ?_
    rintro e w1 ⟨rfl, hb⟩
    have hB1 := hB0.trans (hb.mono hs0)
    have hR1 := (hO0.below hb).more (Nat.le_refl _) hb.size
    have ho := HOb.out w1 hB1
    clear hO0 hsg hb hB0 hs0
    generalize objI zs = os at *
    generalize hq : os.length = q at *
    go_wp2_with fail
    refine ho.mono ?_
    rintro e w2 ⟨v, rfl, oO, b⟩
    obtain ⟨gO, c2, hv, _, _⟩ := oO.form (by omega)
    subst hv
    obtain ⟨ad, had⟩ : ∃ ad : Addr, (⟨gO, 0, none⟩ : Addr) = ad := ⟨_, rfl⟩
    rw [had] at oO
    have hR2 := (hR1.below b).more (Nat.le_refl _) b.size
    have hB2 := hB1.trans (b.mono hB1.size)
    have hO2 : w2.ownsRow w.heap.size 3 1 (.slice (some ad) q c2) q (ivs os) := by have := own_base oO hB1.size; rw [hq] at this; exact this
    clear oO b ho hR1 hB1
    have hs2 := hB2.size
    have hb8 : i2.bytes * q ≤ 281474976710656 := by rw [hb2]; omega
    have hmx : q ≤ maxLen := by unfold maxLen; omega
    go_wp2_with (at_make; refine wpList_make_full _ rfl _ _ _ rfl w2.heap.size 4 i2 _ 1 Tryz.underlying51 hb hb0 hb1 _ _ _ _ q rfl rfl rfl rfl hb8 hmx (Nat.le_refl _) ?_; intro w3 hown hg)
    have hD3 : w3.ownsRow w.heap.size 4 1 (.slice (some ⟨w2.heap.size, 0, none⟩) q q) q (bvs (List.replicate q false)) := by
      have e : (madeCells (Value.bool false).cells (q * 1)).toList = bvs (List.replicate q false) := by
        show (madeCells #[Value.bool false] (q * 1)).toList = _
        rw [toList_madeCells_one]; simp [bvs]
      rw [← e]; exact own_base hown hs2
    have hb23 : Below w2.heap.size w2 w3 := (Below.refl _ _).grown hg (Nat.le_refl _) (fun k e => by cases e)
    have hR3 := (hR2.below hb23).more (Nat.le_refl _) hb23.size
    have hO3 := own_below hO2 hb23
    have hB3 := hB2.trans (hb23.mono hs2)
    have HDZ : Hid (Dn zs os 0 (List.replicate q false)) := by show Dn _ _ _ _; rw [← hq]; exact dn_zero os
    have HQ := Lib.hid hq
    have hDw : w.heap.size ≤ w2.heap.size := hs2
    generalize w2.heap.size = D at *
    clear hown hg hb23 hR2 hO2 hB2 hb8 hmx hb hb0 hb1 hb2 hs2
    go_loopw [4, 7] (fun v i wr => ∃ (i' : Nat) (ds : List Bool), i' ≤ q ∧ i = .int .i64 (i' : Int) ∧ OSS wr w.heap.size wr.heap.size v (((os.take i').filter (hdB zs)).map (lkd zs)) ∧ wr.ownsRow w.heap.size 4 1 (.slice (some ⟨D, 0, none⟩) q q) q (bvs ds) ∧ wr.ownsRow w.heap.size 3 1 (.slice (some ad) q c2) q (ivs os) ∧ Hid (Dn zs os i' ds) ∧ Below w.heap.size w wr) (fun _ i _ => q - (intOf i).toNat)
    case atStart => exact ⟨0, _, Nat.zero_le _, rfl, hR3, hD3, hO3, HDZ, hB3⟩
    case round =>
      clear hR3 hD3 hO3 HDZ hB3
      obtain ⟨i, ds, hiq, rfl, hO, hD, hJ, HDN, hB⟩ := hrel
      by_cases hlt : i < q
      · have hio : i < os.length := by have := HQ.out; omega
        have hdl : ds.length = os.length := HDN.out.1
        have hcd := hD.cellAt i (by omega)
        unfold bvs at hcd
        rw [List.getElem?_map, List.getElem?_eq_getElem (show i < ds.length by omega)] at hcd
        replace hcd : wr.cell? ⟨D, i, none⟩ = some (.bool ds[i]) := hcd
        have hgd : ds[i]?.getD false = ds[i] := by rw [List.getElem?_eq_getElem (show i < ds.length by omega)]; rfl
        have hhd := HDN.out.head HX.out HEQ.out hio
        rw [hgd] at hhd
        have hii : (i : Int) < (q : Int) := by omega
        cases hdi : ds[i]
        · rw [hdi] at hcd hhd hgd
          replace hhd : hdB zs (os[i]?.getD 0) = true := hhd
          have HT := Lib.hid (fm_yes (p := hdB zs) (g := lkd zs) hio hhd)
          have HTN := Lib.hid (take_none HX.out HEQ.out hio hhd)
          have HDK := Lib.hid HDN.out.start
          have HLK : Hid (os.filter (rlB zs (os[i]?.getD 0)) = lkd zs (os[i]?.getD 0)) := by show _ = _; rw [lkd_is HX.out, ← HEQ.out]
          have hfl := fm_len os (hdB zs) (lkd zs) i
          obtain ⟨vs, hrow0, hvb0, hinn0⟩ := hO
          generalize ha : os[i]?.getD 0 = a at *
          have HA := Lib.hid ha
          clear ha hdi hhd hgd hdl
          generalize ((os.take i).filter (hdB zs)).map (lkd zs) = Ls at *
          obtain ⟨w5, hw5⟩ : ∃ w5, w5 = wr := ⟨_, rfl⟩
          subst hw5
          have hP0 : Pst (w5.alloc (.cells #[] 3)) w.heap.size w5.heap.size D q ad c2 u4 (.slice (some ⟨w5.heap.size, 0, none⟩) 0 0) vs Ls [] os ds :=
            ⟨hrow0.alloc _, hinn0.below ((Below.refl _ _).alloc (Nat.le_refl _) _), own_lit0 w5, hD.alloc _, hJ.alloc _, (hJ.lt _ rfl).2, by simp⟩
          have hB0 := hB.alloc hB.size (.cells #[] 3)
          have hlo := hB.size
          clear hrow0 hvb0 hinn0 hD hJ hB HDN
          go_wp2
          go_loopw [8, 9] (fun vp kk wq => ∃ (k : Nat) (ds' : List Bool), k ≤ q ∧ kk = .int .i64 (k : Int) ∧ Pst wq w.heap.size w5.heap.size D q ad c2 u4 vp vs Ls ((os.take k).filter (rlB zs a)) os ds' ∧ Hid (Dk zs os i k ds') ∧ Below w.heap.size w wq) (fun _ kk _ => q - (intOf kk).toNat)
          case atStart => exact ⟨i, ds, hiq, rfl, by rw [HTN.out]; exact hP0, HDK, hB0⟩
          case round =>
            clear hP0 hB0 HDK hcd
            obtain ⟨k, ds', hkq, rfl, hP, HDK, hB⟩ := hrel
            have hpl : ((os.take k).filter (rlB zs a)).length ≤ 400 := Nat.le_trans (List.length_filter_le _ _) (by rw [List.length_take]; omega)
            by_cases hltk : k < q
            · have hko : k < os.length := by have := HQ.out; omega
              have hJ' : wr.ownsRow w.heap.size 3 1 (.slice (some ad) os.length c2) os.length (ivs os) := by rw [HQ.out]; exact hP.obj
              obtain ⟨ad1, e1, hab1, hci⟩ := (RI.of_own hJ').at_ hio
              obtain rfl := Option.some.inj e1
              obtain ⟨ad2, e2, hab2, hck⟩ := (RI.of_own hJ').at_ hko
              obtain rfl := Option.some.inj e2
              have hbi : (ad.add i).block < wr.heap.size := by rw [block_of_add]; exact hab1
              have hbk : (ad.add k).block < wr.heap.size := by rw [block_of_add]; exact hab1
              rw [HA.out] at hci
              have HYES : Hid (rlB zs a (os[k]?.getD 0) = true → Dk zs os i (k + 1) (ds'.set k true)) := fun e => HDK.out.yes (by rw [HA.out]; exact e)
              have HNO : Hid (rlB zs a (os[k]?.getD 0) = false → Dk zs os i (k + 1) ds') := fun e => HDK.out.no (by rw [HA.out]; exact e)
              have HFY := Lib.hid (tf_yes (p := rlB zs a) hko)
              have HFN := Lib.hid (tf_no (p := rlB zs a) hko)
              have hds : ds'.length = os.length := HDK.out.1
              have hkd : k < ds'.length := by omega
              have hki : (k : Int) < (q : Int) := by omega
              generalize os[k]?.getD 0 = b at *
              obtain ⟨q6, HFL⟩ : ∃ q6, Hid ((zs.filter (btB a b)).length = q6) := ⟨_, rfl⟩
              have HR6 : Hid (∀ W, Below w.heap.size w W → Calls Tryz.prog 42 #[.slice A n c, .int .i64 a, .int .i64 b] W fun e w' => ∃ A6 c6, e = .returned (.slice A6 q6 c6) ∧ Below W.heap.size W w') := fun W hW => by
                refine (l7From_any A n c zs a b W (HH.out.below hW) hn HZ.out).mono ?_
                rintro e w6 ⟨v6, rfl, ho6, hb6⟩
                obtain ⟨A6, c6, rfl⟩ := ho6.slice
                exact ⟨A6, c6, by rw [HFL.out], hb6⟩
              have hrl := rl_len zs a b
              rw [HFL.out] at hrl
              clear hJ' e1 e2 hab1 hab2 HFL
              by_cases hr : 0 < q6
              · have HDK2 := Lib.hid (HYES.out (hrl.1 hr))
                have HF := Lib.hid (HFY.out (hrl.1 hr))
                have hgt : decide ((q6 : Int) > 0) = true := decide_eq_true (by omega)
                have hgt2 : decide ((0 : Int) < (q6 : Int)) = true := decide_eq_true (by omega)
                clear hrl HYES HNO HFN HFY
                generalize (os.take k).filter (rlB zs a) = P at *
                go_wp2_with fail
                refine wp_region_held_drew (S := (fun w' => w'.cell? (ad.add i) = some (.int .i64 a) ∧ w'.cell? (ad.add k) = some (.int .i64 b))) (by kernel_rfl) ?_ (fun hHeld => ?_)
                · exact ⟨hci, hck⟩
                refine wpAnyH_take (i := 0) (v := .slice A n c) (by rw [List.getElem?_toArray]; rfl) (by kernel_rfl) (by kernel_rfl) (by kernel_rfl) (by exact fun _ _ _ h => h) (Or.inl ⟨by rfl, fun w hSw => by (try dsimp only at hSw); (go_simp <;> omega)⟩) (by assumption) ?_
                try simp only [Act.put, List.setIfInBounds_toArray, List.set_cons_zero, List.set_cons_succ]
                refine wpAnyH_take (i := 1) (v := .slice (some ad) q c2) (by rw [List.getElem?_toArray]; rfl) (by kernel_rfl) (by kernel_rfl) (by kernel_rfl) (by exact fun _ _ _ h => h) (Or.inl ⟨by rfl, fun w hSw => by (try dsimp only at hSw); (go_simp <;> omega)⟩) (by assumption) ?_
                try simp only [Act.put, List.setIfInBounds_toArray, List.set_cons_zero, List.set_cons_succ]
                refine wpAnyH_take (i := 2) (v := .int .i64 (i : Int)) (by rw [List.getElem?_toArray]; rfl) (by kernel_rfl) (by kernel_rfl) (by kernel_rfl) (by exact fun _ _ _ h => h) (Or.inl ⟨by rfl, fun w hSw => by (try dsimp only at hSw); (go_simp <;> omega)⟩) (by assumption) ?_
                try simp only [Act.put, List.setIfInBounds_toArray, List.set_cons_zero, List.set_cons_succ]
                refine wpAnyH_take (i := 3) (v := .pointer (some (ad.add i))) (by rw [List.getElem?_toArray]; rfl) (by kernel_rfl) (by kernel_rfl) (by kernel_rfl) (by exact fun _ _ _ h => h) (Or.inl ⟨by rfl, fun w hSw => by (try dsimp only at hSw); (go_simp <;> omega)⟩) (by assumption) ?_
                try simp only [Act.put, List.setIfInBounds_toArray, List.set_cons_zero, List.set_cons_succ]
                refine wpAnyH_take (i := 4) (v := .int .i64 a) (by rw [List.getElem?_toArray]; rfl) (by kernel_rfl) (by kernel_rfl) (by kernel_rfl) (by exact fun _ _ _ h => h) (Or.inl ⟨by rfl, fun w hSw => by (try dsimp only at hSw); (go_simp <;> omega)⟩) (by assumption) ?_
                try simp only [Act.put, List.setIfInBounds_toArray, List.set_cons_zero, List.set_cons_succ]
                refine wpAnyH_take (i := 5) (v := .slice (some ad) q c2) (by rw [List.getElem?_toArray]; rfl) (by kernel_rfl) (by kernel_rfl) (by kernel_rfl) (by exact fun _ _ _ h => h) (Or.inl ⟨by rfl, fun w hSw => by (try dsimp only at hSw); (go_simp <;> omega)⟩) (by assumption) ?_
                try simp only [Act.put, List.setIfInBounds_toArray, List.set_cons_zero, List.set_cons_succ]
                refine wpAnyH_take (i := 6) (v := .int .i64 (k : Int)) (by rw [List.getElem?_toArray]; rfl) (by kernel_rfl) (by kernel_rfl) (by kernel_rfl) (by exact fun _ _ _ h => h) (Or.inl ⟨by rfl, fun w hSw => by (try dsimp only at hSw); (go_simp <;> omega)⟩) (by assumption) ?_
                try simp only [Act.put, List.setIfInBounds_toArray, List.set_cons_zero, List.set_cons_succ]
                refine wpAnyH_take (i := 7) (v := .pointer (some (ad.add k))) (by rw [List.getElem?_toArray]; rfl) (by kernel_rfl) (by kernel_rfl) (by kernel_rfl) (by exact fun _ _ _ h => h) (Or.inl ⟨by rfl, fun w hSw => by (try dsimp only at hSw); (go_simp <;> omega)⟩) (by assumption) ?_
                try simp only [Act.put, List.setIfInBounds_toArray, List.set_cons_zero, List.set_cons_succ]
                refine wpAnyH_take (i := 8) (v := .int .i64 b) (by rw [List.getElem?_toArray]; rfl) (by kernel_rfl) (by kernel_rfl) (by kernel_rfl) (by exact fun _ _ _ h => h) (Or.inl ⟨by rfl, fun w hSw => by (try dsimp only at hSw); (go_simp <;> omega)⟩) (by assumption) ?_
                try simp only [Act.put, List.setIfInBounds_toArray, List.set_cons_zero, List.set_cons_succ]
                refine wpAnyH_ready (rs := [9]) (by kernel_rfl) (by simp) ?_
                refine AllReadyH.cons (o := _) (by rw [List.getElem?_toArray]; rfl) (fun K hK => ?_) AllReadyH.nil
                go_simp
                go_at_call 42
                refine (HR6.out _ hB.drew).mono ?_
                rintro e w6 ⟨A6, c6, rfl, hb6⟩
                replace hP := hP.below ((Below.refl _ wr).drew.trans hb6)
                replace hB := hB.drew.trans (hb6.mono hB.drew.size)
                replace hci : w6.cell? (ad.add i) = some (.int .i64 a) := (hb6.cell hbi).trans hci
                replace hck : w6.cell? (ad.add k) = some (.int .i64 b) := (hb6.cell hbk).trans hck
                clear hb6
                refine hK.out _ _ ?_ (fun hHeld9 => ?_)
                · exact ⟨hci, hck⟩
                clear hK K
                try simp only [Act.put, List.setIfInBounds_toArray, List.set_cons_zero, List.set_cons_succ]
                refine wpAnyH_take (i := 10) (v := .int .i64 (q6 : Int)) (by rw [List.getElem?_toArray]; rfl) (by kernel_rfl) (by kernel_rfl) (by kernel_rfl) (by exact fun _ _ _ h => h) (Or.inl ⟨by rfl, fun w hSw => by (try dsimp only at hSw); (go_simp <;> omega)⟩) (by assumption) ?_
                try simp only [Act.put, List.setIfInBounds_toArray, List.set_cons_zero, List.set_cons_succ]
                refine wpAnyH_take (i := 11) (v := .bool true) (by rw [List.getElem?_toArray]; rfl) (by kernel_rfl) (by kernel_rfl) (by kernel_rfl) (by exact fun _ _ _ h => h) (Or.inl ⟨by rfl, fun w hSw => by (try dsimp only at hSw); (go_simp <;> omega)⟩) (by assumption) ?_
                try simp only [Act.put, List.setIfInBounds_toArray, List.set_cons_zero, List.set_cons_succ]
                refine wpAnyH_done (by kernel_rfl) ?_ _
                have p1 : P.length + 1 ≤ maxLen := by unfold maxLen; omega
                have p2 : (P.length + 1) * 8 ≤ 140737488355328 := by omega
                have p3 : ∀ o : Obj, w5.heap.size ≤ (w6.alloc o).heap.size := fun o => by have := hP.h5s; simp; omega
                go_wp2_with (at_builtin; refine wpList_append_own _ rfl _ _ 24 rfl w5.heap.size 3 i0 (.int .i64 0) 1 8 Tryz.underlying24 hi hz0 hz1 hz2 rfl (by decide) _ _ _ rfl (hP.prt.alloc _) ⟨w6.heap.size, 0, none⟩ 1 1 [.int .i64 b] rfl rfl (cell_one_new _ _ _) (by simp [Value.oneCell']) p1 p2 (p3 _) ?_; intro v7 w7 hown7 hgrow7 _; have hP7 := hP.app hgrow7 hown7; have hB7 := (hB.alloc hB.size (.cells #[.int .i64 b] 3)).grown hgrow7 (by have := hB.size; simp; omega) (fun g e => Nat.le_trans hlo (hP.prt.lt g e).1); have hfz := hP7.don.frozenAt k; have hlD := (hP7.don.lt D rfl).2; have hcd7 := hP7.don.cellAt k (by omega); unfold bvs at hcd7; rw [List.getElem?_map, List.getElem?_eq_getElem hkd] at hcd7; replace hcd7 : w7.cell? ⟨D, k, none⟩ = some (.bool ds'[k]) := hcd7; have HP8 := Lib.hid (hP7.store k); have HB8 := Lib.hid (hB7.setCell (p := ⟨D, k, none⟩) hDw (.bool true)); clear hown7 hgrow7 hP7 hB7)
                go_roundw
                case rel => exact ⟨k + 1, ds'.set k true, by omega, by go_num, by rw [HF.out]; exact HP8.out, HDK2, HB8.out⟩
                case measure => simp [intOf]; omega
              · have hrf : rlB zs a b = false := by
                  cases e : rlB zs a b
                  · rfl
                  · exact absurd (hrl.2 e) hr
                have HDK2 := Lib.hid (HNO.out hrf)
                have HF := Lib.hid (HFN.out hrf)
                have hgt : decide ((q6 : Int) > 0) = false := decide_eq_false (by omega)
                have hgt2 : decide ((0 : Int) < (q6 : Int)) = false := decide_eq_false (by omega)
                clear hrl hrf HYES HNO HFN HFY
                generalize (os.take k).filter (rlB zs a) = P at *
                go_wp2_with fail
                refine wp_region_held_drew (S := (fun w' => w'.cell? (ad.add i) = some (.int .i64 a) ∧ w'.cell? (ad.add k) = some (.int .i64 b))) (by kernel_rfl) ?_ (fun hHeld => ?_)
                · exact ⟨hci, hck⟩
                refine wpAnyH_take (i := 0) (v := .slice A n c) (by rw [List.getElem?_toArray]; rfl) (by kernel_rfl) (by kernel_rfl) (by kernel_rfl) (by exact fun _ _ _ h => h) (Or.inl ⟨by rfl, fun w hSw => by (try dsimp only at hSw); (go_simp <;> omega)⟩) (by assumption) ?_
                try simp only [Act.put, List.setIfInBounds_toArray, List.set_cons_zero, List.set_cons_succ]
                refine wpAnyH_take (i := 1) (v := .slice (some ad) q c2) (by rw [List.getElem?_toArray]; rfl) (by kernel_rfl) (by kernel_rfl) (by kernel_rfl) (by exact fun _ _ _ h => h) (Or.inl ⟨by rfl, fun w hSw => by (try dsimp only at hSw); (go_simp <;> omega)⟩) (by assumption) ?_
                try simp only [Act.put, List.setIfInBounds_toArray, List.set_cons_zero, List.set_cons_succ]
                refine wpAnyH_take (i := 2) (v := .int .i64 (i : Int)) (by rw [List.getElem?_toArray]; rfl) (by kernel_rfl) (by kernel_rfl) (by kernel_rfl) (by exact fun _ _ _ h => h) (Or.inl ⟨by rfl, fun w hSw => by (try dsimp only at hSw); (go_simp <;> omega)⟩) (by assumption) ?_
                try simp only [Act.put, List.setIfInBounds_toArray, List.set_cons_zero, List.set_cons_succ]
                refine wpAnyH_take (i := 3) (v := .pointer (some (ad.add i))) (by rw [List.getElem?_toArray]; rfl) (by kernel_rfl) (by kernel_rfl) (by kernel_rfl) (by exact fun _ _ _ h => h) (Or.inl ⟨by rfl, fun w hSw => by (try dsimp only at hSw); (go_simp <;> omega)⟩) (by assumption) ?_
                try simp only [Act.put, List.setIfInBounds_toArray, List.set_cons_zero, List.set_cons_succ]
                refine wpAnyH_take (i := 4) (v := .int .i64 a) (by rw [List.getElem?_toArray]; rfl) (by kernel_rfl) (by kernel_rfl) (by kernel_rfl) (by exact fun _ _ _ h => h) (Or.inl ⟨by rfl, fun w hSw => by (try dsimp only at hSw); (go_simp <;> omega)⟩) (by assumption) ?_
                try simp only [Act.put, List.setIfInBounds_toArray, List.set_cons_zero, List.set_cons_succ]
                refine wpAnyH_take (i := 5) (v := .slice (some ad) q c2) (by rw [List.getElem?_toArray]; rfl) (by kernel_rfl) (by kernel_rfl) (by kernel_rfl) (by exact fun _ _ _ h => h) (Or.inl ⟨by rfl, fun w hSw => by (try dsimp only at hSw); (go_simp <;> omega)⟩) (by assumption) ?_
                try simp only [Act.put, List.setIfInBounds_toArray, List.set_cons_zero, List.set_cons_succ]
                refine wpAnyH_take (i := 6) (v := .int .i64 (k : Int)) (by rw [List.getElem?_toArray]; rfl) (by kernel_rfl) (by kernel_rfl) (by kernel_rfl) (by exact fun _ _ _ h => h) (Or.inl ⟨by rfl, fun w hSw => by (try dsimp only at hSw); (go_simp <;> omega)⟩) (by assumption) ?_
                try simp only [Act.put, List.setIfInBounds_toArray, List.set_cons_zero, List.set_cons_succ]
                refine wpAnyH_take (i := 7) (v := .pointer (some (ad.add k))) (by rw [List.getElem?_toArray]; rfl) (by kernel_rfl) (by kernel_rfl) (by kernel_rfl) (by exact fun _ _ _ h => h) (Or.inl ⟨by rfl, fun w hSw => by (try dsimp only at hSw); (go_simp <;> omega)⟩) (by assumption) ?_
                try simp only [Act.put, List.setIfInBounds_toArray, List.set_cons_zero, List.set_cons_succ]
                refine wpAnyH_take (i := 8) (v := .int .i64 b) (by rw [List.getElem?_toArray]; rfl) (by kernel_rfl) (by kernel_rfl) (by kernel_rfl) (by exact fun _ _ _ h => h) (Or.inl ⟨by rfl, fun w hSw => by (try dsimp only at hSw); (go_simp <;> omega)⟩) (by assumption) ?_
                try simp only [Act.put, List.setIfInBounds_toArray, List.set_cons_zero, List.set_cons_succ]
                refine wpAnyH_ready (rs := [9]) (by kernel_rfl) (by simp) ?_
                refine AllReadyH.cons (o := _) (by rw [List.getElem?_toArray]; rfl) (fun K hK => ?_) AllReadyH.nil
                go_simp
                go_at_call 42
                refine (HR6.out _ hB.drew).mono ?_
                rintro e w6 ⟨A6, c6, rfl, hb6⟩
                replace hP := hP.below ((Below.refl _ wr).drew.trans hb6)
                replace hB := hB.drew.trans (hb6.mono hB.drew.size)
                replace hci : w6.cell? (ad.add i) = some (.int .i64 a) := (hb6.cell hbi).trans hci
                replace hck : w6.cell? (ad.add k) = some (.int .i64 b) := (hb6.cell hbk).trans hck
                clear hb6
                refine hK.out _ _ ?_ (fun hHeld9 => ?_)
                · exact ⟨hci, hck⟩
                clear hK K
                try simp only [Act.put, List.setIfInBounds_toArray, List.set_cons_zero, List.set_cons_succ]
                refine wpAnyH_take (i := 10) (v := .int .i64 (q6 : Int)) (by rw [List.getElem?_toArray]; rfl) (by kernel_rfl) (by kernel_rfl) (by kernel_rfl) (by exact fun _ _ _ h => h) (Or.inl ⟨by rfl, fun w hSw => by (try dsimp only at hSw); (go_simp <;> omega)⟩) (by assumption) ?_
                try simp only [Act.put, List.setIfInBounds_toArray, List.set_cons_zero, List.set_cons_succ]
                refine wpAnyH_take (i := 11) (v := .bool false) (by rw [List.getElem?_toArray]; rfl) (by kernel_rfl) (by kernel_rfl) (by kernel_rfl) (by exact fun _ _ _ h => h) (Or.inl ⟨by rfl, fun w hSw => by (try dsimp only at hSw); (go_simp <;> omega)⟩) (by assumption) ?_
                try simp only [Act.put, List.setIfInBounds_toArray, List.set_cons_zero, List.set_cons_succ]
                refine wpAnyH_done (by kernel_rfl) ?_ _
                go_wp2
                go_roundw
                case rel => exact ⟨k + 1, ds', by omega, by go_num, by rw [HF.out]; exact hP, HDK2, hB⟩
                case measure => simp [intOf]; omega
            · obtain rfl : k = q := by omega
              have HP1 : Hid ((os.take k).filter (rlB zs a) = lkd zs a) := by show _ = _; rw [← HQ.out, List.take_of_length_le (Nat.le_refl _), HLK.out]
              have HDK2 : Hid (Dn zs os (i + 1) ds') := by
                have h3 := HDK.out
                rw [← HQ.out] at h3
                exact h3.stop
              rw [HP1.out] at hP hpl
              generalize lkd zs a = P at *
              obtain ⟨A8, c8, rfl⟩ := own_slice hP.prt
              have p1 : Ls.length + 1 ≤ maxLen := by unfold maxLen; omega
              have p2 : (Ls.length + 1) * 24 ≤ 140737488355328 := by omega
              have p3 : ∀ o : Obj, w.heap.size ≤ (wr.alloc o).heap.size := fun o => by have := hB.size; simp; omega
              go_wp2_with (at_builtin; refine wpList_append_own _ rfl _ _ 22 rfl w.heap.size 24 i1 (.slice none 0 0) 1 24 Tryz.underlying22 hj hj0 hj1 hj2 rfl (by decide) _ _ _ rfl (hP.row.alloc _) ⟨wr.heap.size, 0, none⟩ 1 1 [.slice A8 P.length c8] rfl rfl (cell_one_new _ _ _) (by simp [Value.oneCell']) p1 p2 (p3 _) ?_; intro v7 w7 hown7 hgrow7 _; have hov := hP.over hlo hown7 hgrow7; have hB7 := below_app hB hP.row (Nat.le_refl _) hgrow7; clear hown7 hgrow7 hP)
              go_roundw
              case rel => exact ⟨i + 1, ds', by omega, by go_num, by rw [← HT.out]; exact hov.1, hov.2.1, hov.2.2, HDK2, hB7⟩
              case measure => simp [intOf]; omega
        · rw [hdi] at hcd hhd hgd
          have HT := Lib.hid (fm_no (p := hdB zs) (g := lkd zs) hio hhd)
          have HDN2 := Lib.hid (HDN.out.skip HX.out hio hgd)
          clear hdi hhd hgd hdl hio
          go_wp2
          go_roundw
          case rel => exact ⟨i + 1, ds, by omega, by go_num, by rw [HT.out]; exact hO, hD, hJ, HDN2, hB⟩
          case measure => simp [intOf]; omega
      · obtain rfl : i = q := by omega
        have HE : Hid (((os.take i).filter (hdB zs)).map (lkd zs) = parI zs) := by show _ = _; rw [← HQ.out, List.take_of_length_le (Nat.le_refl _), HPI.out]
        obtain ⟨A9, c9, rfl⟩ := hO.slice
        go_wp2
        go_ret2
        exact ⟨_, rfl, by rw [← HE.out]; exact hO, hB⟩
end

end Go.Proofs.YtoomeimloaloaaaGreatDoor
