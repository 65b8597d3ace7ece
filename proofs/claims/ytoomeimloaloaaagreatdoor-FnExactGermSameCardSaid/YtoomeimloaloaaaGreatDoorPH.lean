/-
  Ah.
-/
import Derived.Test.YtoomeimloaloaaaGreatDoorPG
namespace Go.Proofs.YtoomeimloaloaaaGreatDoor
set_option maxRecDepth 100000
set_option linter.unusedVariables false
set_option linter.unusedSimpArgs false
set_option linter.unusedSectionVars false

/-! (impl.arrows).lists; ArrowObjects, ArrowLocal, ArrowFrom of the program. -/
section
open Go.RowKit Go.Maps

set_option maxHeartbeats 2000000 in
theorem alists_any (m lo : Nat) (v : Value) (Ls : List (List Int)) (hLs : ∀ L ∈ Ls, isC L = true ∧ L.length = m) (hq : Ls.length ≤ 1048576) (w : World) (hown : w.ownsRow lo 65 9 v Ls.length (awc m Ls)) :
    Calls Tryz.prog 47 #[v] w fun e w' => ∃ v', e = .returned v' ∧ OSS w' w.heap.size w'.heap.size v' Ls ∧ Below w.heap.size w w' := by
  obtain ⟨i1, hj, hj0, hj1, hj2⟩ := info_parts info_partsS
  obtain ⟨A, cp, rfl⟩ := own_shape hown
  have HZ := Lib.hid hLs
  have HOW := Lib.hid hown
  clear hLs hown
  go_enter Tryz.func47, Tryz.ntmps47
  go_wp2
  go_loopw [3, 8] (fun v i wr => ∃ t : Nat, t ≤ Ls.length ∧ i = .int .i64 (t : Int) ∧ OSS wr w.heap.size wr.heap.size v (Ls.take t) ∧ Below w.heap.size w wr) (fun _ i _ => Ls.length - (intOf i).toNat)
  case atStart => exact ⟨0, Nat.zero_le _, rfl, oss_nil _ _ _, Below.refl _ _⟩
  case round =>
    obtain ⟨t, ht, rfl, hO, hbr⟩ := hrel
    by_cases hlt : t < Ls.length
    · obtain ⟨L, hL⟩ : ∃ L, Ls[t]? = some L := ⟨_, List.getElem?_eq_getElem hlt⟩
      have hLz := HZ.out L (List.mem_of_getElem? hL)
      have hr1 := own_below HOW.out hbr
      obtain ⟨g1, cp1, hv, _, hg1⟩ := hr1.form (by omega)
      injection hv with hv1 _ hv3
      subst hv1
      have hC1 : Ars wr g1 m Ls := Ars.of_own hr1
      obtain ⟨c0, c1, c2, c3, c4, c5, c6, c7, c8⟩ := hC1.all hL
      have hm6 : m ≤ 6 := by have := (isC_len hLz.1).2; omega
      have HLL : Hid (L.length = m) := hLz.2
      have HT : Hid (Ls.take (t + 1) = Ls.take t ++ [L]) := by show _ = _; rw [List.take_add_one, hL]; rfl
      have HTL : Hid ((Ls.take t).length = t) := by show _ = _; rw [List.length_take]; omega
      have hsb := hbr.size
      clear hL hLz hr1 hC1 hv3
      go_wp2_with fail
      refine (list_any m hm6 (ofL L) _).mono ?_
      rintro e w3 ⟨B, rfl, hown, hb3⟩
      have hbw : Below wr.heap.size wr w3 := ((Below.refl _ wr).alloc (Nat.le_refl _) _).trans (hb3.mono (by simp))
      have hlt' : LT m (ofL L) = L := by rw [← HLL.out]; exact LT_ofL rfl
      rw [hlt', World.size_alloc] at hown
      have hown2 : w3.ownsRow (wr.heap.size + 1) 3 1 (.slice (some B) m m) L.length (ivs L) := by rw [HLL.out]; exact hown
      obtain ⟨vs, hrow0, hvb, hinn0⟩ := hO
      have hrow3 := own_below hrow0 hbw
      have hinn3 := (hinn0.below hbw).more (Nat.le_refl _) hbw.size
      have hu : OI w3 w.heap.size w3.heap.size (.slice (some B) m m) L := OI.of (own_base hown2 (by omega))
      have hap : ∀ (i : Nat) (u' : Value), vs[i]? = some u' → ∀ q : Nat, u'.ownBlock = some q → (Value.slice (some B) m m).ownBlock = some q → False := fun i u' hi q e1 e2 => by
        have h1 := hinn0.lt hi e1
        have h2 := hown.lt q e2
        omega
      have hbr3 : Below w.heap.size w w3 := hbr.trans (hbw.mono hbr.size)
      have p1 : (Ls.take t).length + 1 ≤ maxLen := by rw [HTL.out]; unfold maxLen; omega
      have p2 : ((Ls.take t).length + 1) * 24 ≤ 140737488355328 := by rw [HTL.out]; omega
      have p3 : ∀ o : Obj, w.heap.size ≤ (w3.alloc o).heap.size := fun o => by have := hbr3.size; simp; omega
      clear hinn0 hrow0 hown hown2 hb3 hbw c0 c1 c2 c3 c4 c5 c6 c7 c8 hlt'
      go_wp2_with (at_builtin; refine wpList_append_own _ rfl _ _ 22 rfl w.heap.size 24 i1 (.slice none 0 0) 1 24 Tryz.underlying22 hj hj0 hj1 hj2 rfl (by decide) _ _ _ rfl (hrow3.alloc _) ⟨w3.heap.size, 0, none⟩ 1 1 [.slice (some B) m m] rfl rfl (cell_one_new _ _ _) (by simp [Value.oneCell']) p1 p2 (p3 _) ?_; intro v' w4 hown' hgrow _; have hO4 := OSS.app hrow3 hinn3 hu hap hown' hgrow; have hB4 := below_app hbr3 hrow3 (Nat.le_refl _) hgrow; clear hown' hgrow hrow3 hinn3 hu hap)
      go_roundw
      case rel => exact ⟨t + 1, by omega, by go_num, by rw [HT.out]; exact hO4, hB4⟩
      case measure => simp [intOf]; omega
    · have HE : Hid (Ls.take t = Ls) := List.take_of_length_le (by omega)
      obtain rfl : t = Ls.length := by omega
      go_wp2
      go_ret
      exact ⟨_, rfl, by rw [HE.out] at hO; exact hO, hbr⟩
def objI (zs : List (List Int)) : List Int := nums ((sgl zs).map doI)
def frL (zs : List (List Int)) (a b : Int) : List (List Int) := (sgl zs).filter (btB a b)
def obB (zs : List (List Int)) (a : Int) : Bool := (sgl zs).any (isO a)
theorem frL_ch {zs : List (List Int)} {a b : Int} : ∀ L ∈ frL zs a b, isC L = true ∧ L.length = m0 zs := fun L hL => sgl_ch L (List.mem_filter.1 hL).1
theorem frL_len (zs : List (List Int)) (a b : Int) : (frL zs a b).length ≤ 400 := Nat.le_trans (List.length_filter_le _ _) (sgl_len zs)
set_option maxHeartbeats 400000 in
theorem implObj_any (A : Option Addr) (n c : Nat) (zs : List (List Int)) (w : World) (h : RSS w A n zs) (hg : EtAt w) :
    Calls Tryz.prog 14 #[.slice A n c] w fun e w' => ∃ v, e = .returned (.tuple #[v, .bool (sgS zs)]) ∧ NewL w (objI zs) v w' := by
  have hF := arrowsFrom_any A n c zs w h hg
  have hq : (sgl zs).length ≤ 1048576 := by have := sgl_len zs; omega
  clear h hg
  go_enter Tryz.func14, Tryz.ntmps14
  go_wp2_with fail
  refine hF.mono ?_
  rintro e w1 ⟨v, rfl, hown, hb⟩
  have hO := objects_any (m0 zs) _ v (sgl zs) hq w1 hown
  obtain ⟨A1, c1, rfl⟩ := own_shape hown
  have hs := hb.size
  clear hown hF
  go_wp2_with fail
  refine hO.mono ?_
  rintro e w2 ⟨v', rfl, ho, hb2⟩
  have hB := hb.trans (hb2.mono hs)
  clear hb hb2 hO
  go_wp2
  go_ret2
  exact ⟨_, rfl, own_base ho hs, hB⟩
set_option maxHeartbeats 400000 in
theorem implLoc_any (A : Option Addr) (n c : Nat) (zs : List (List Int)) (a : Int) (w : World) (h : RSS w A n zs) (hg : EtAt w) :
    Calls Tryz.prog 24 #[.slice A n c, .int .i64 a] w fun e w' => e = .returned (.tuple #[.int .i64 ((frL zs a a).length : Nat), .bool (obB zs a)]) ∧ Below w.heap.size w w' := by
  have hF := arrowsFrom_any A n c zs w h hg
  have hq : (sgl zs).length ≤ 1048576 := by have := sgl_len zs; omega
  clear h hg
  go_enter Tryz.func24, Tryz.ntmps24
  go_wp2_with fail
  refine hF.mono ?_
  rintro e w1 ⟨v, rfl, hown, hb⟩
  have hP := between_any (m0 zs) _ a a v (sgl zs) hq w1 hown
  have HOW := Lib.hid hown
  obtain ⟨A1, c1, rfl⟩ := own_shape hown
  have hs := hb.size
  clear hown hF
  go_wp2_with fail
  refine hP.mono ?_
  rintro e w2 ⟨v', rfl, ho, hb2⟩
  have hI := isObject_any (m0 zs) _ a _ (sgl zs) hq w2 (own_below HOW.out hb2)
  obtain ⟨A2, c2, rfl⟩ := own_shape ho
  have hB := hb.trans (hb2.mono hs)
  have hs2 := hB.size
  clear ho hb hb2 hP
  go_wp2_with fail
  refine hI.mono ?_
  rintro e w3 ⟨rfl, hb3⟩
  have hB3 := hB.trans (hb3.mono hs2)
  go_wp2
  go_ret2
  exact ⟨rfl, hB3⟩
set_option maxHeartbeats 1000000 in
theorem implFrm_any (A : Option Addr) (n c : Nat) (zs : List (List Int)) (a b : Int) (w : World) (h : RSS w A n zs) (hg : EtAt w) :
    Calls Tryz.prog 26 #[.slice A n c, .int .i64 a, .int .i64 b] w fun e w' => ∃ v, e = .returned (.tuple #[v, .bool (obB zs a && obB zs b)]) ∧ OSS w' w.heap.size w'.heap.size v (frL zs a b) ∧ Below w.heap.size w w' := by
  have hF := arrowsFrom_any A n c zs w h hg
  have hq : (sgl zs).length ≤ 1048576 := by have := sgl_len zs; omega
  have hq2 : (frL zs a b).length ≤ 1048576 := by have := frL_len zs a b; omega
  clear h hg
  go_enter Tryz.func26, Tryz.ntmps26
  go_wp2_with fail
  refine hF.mono ?_
  rintro e w1 ⟨v, rfl, hown, hb⟩
  have hP := between_any (m0 zs) _ a b v (sgl zs) hq w1 hown
  have HOW := Lib.hid hown
  obtain ⟨A1, c1, rfl⟩ := own_shape hown
  have hs := hb.size
  clear hown hF
  go_wp2_with fail
  refine hP.mono ?_
  rintro e w2 ⟨v', rfl, ho, hb2⟩
  have hL := alists_any (m0 zs) _ v' (frL zs a b) frL_ch hq2 w2 ho
  have HO2 := Lib.hid (own_below HOW.out hb2)
  obtain ⟨A2, c2, rfl⟩ := own_shape ho
  have hB := hb.trans (hb2.mono hs)
  have hs2 := hB.size
  clear ho hb hb2 hP HOW
  go_wp2_with fail
  refine hL.mono ?_
  rintro e w3 ⟨v3, rfl, ho3, hb3⟩
  have hI := isObject_any (m0 zs) _ a _ (sgl zs) hq w3 (own_below HO2.out hb3)
  have HO3 := Lib.hid (own_below HO2.out hb3)
  have HL3 := Lib.hid ho3
  have hB3 := hB.trans (hb3.mono hs2)
  have hs3 := hB3.size
  have hs23 := hb3.size
  clear ho3 hb3 hB hL HO2
  have hE : obB zs a = (sgl zs).any (isO a) := rfl
  have hE2 : obB zs b = (sgl zs).any (isO b) := rfl
  rw [← hE] at hI
  cases hA : obB zs a
  · have HA := Lib.hid hA
    rw [hA] at hI
    clear hE hE2 hA
    go_wp2_with fail
    refine hI.mono ?_
    rintro e w4 ⟨rfl, hb4⟩
    have HX := Lib.hid ((HL3.out.below hb4).more hs2 hb4.size)
    have hB4 := hB3.trans (hb4.mono hs3)
    obtain ⟨A5, c5, rfl⟩ := HL3.out.slice
    clear hb4 hB3 HL3 HO3 hI
    go_wp2
    go_ret2
    exact ⟨_, (by rw [HA.out]; rfl), HX.out, hB4⟩
  · have HA := Lib.hid hA
    rw [hA] at hI
    clear hE hA
    go_wp2_with fail
    refine hI.mono ?_
    rintro e w4 ⟨rfl, hb4⟩
    have hI2 := isObject_any (m0 zs) _ b _ (sgl zs) hq w4 (own_below HO3.out hb4)
    rw [← hE2] at hI2
    have hB4 := hB3.trans (hb4.mono hs3)
    have hs4 := hB4.size
    have HX := Lib.hid ((HL3.out.below hb4).more (Nat.le_refl _) hb4.size)
    clear hb4 hB3 HL3 HO3 hI hE2
    go_wp2_with fail
    refine hI2.mono ?_
    rintro e w5 ⟨rfl, hb5⟩
    have HX5 := Lib.hid ((HX.out.below hb5).more hs2 hb5.size)
    have hB5 := hB4.trans (hb5.mono hs4)
    obtain ⟨A5, c5, rfl⟩ := HX.out.slice
    clear hb5 hB4 HX hI2
    go_wp2
    go_ret2
    exact ⟨_, (by rw [HA.out]; rfl), HX5.out, hB5⟩
end

end Go.Proofs.YtoomeimloaloaaaGreatDoor
