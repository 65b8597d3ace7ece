/-
  Ar8.
-/
import Derived.Test.YtoomeimloaloaaaGreatDoorPR
namespace Go.Proofs.YtoomeimloaloaaaGreatDoor
set_option maxRecDepth 100000
set_option linter.unusedVariables false
set_option linter.unusedSimpArgs false
set_option linter.unusedSectionVars false

/-! (impl.arrows).linkedWith, ArrowParts of the program. -/
section
open Go.RowKit Go.Maps

theorem fm_yes {os : List Int} {p : Int → Bool} {g : Int → List Int} {t : Nat} (ht : t < os.length) (h : p (os[t]?.getD 0) = true) : ((os.take t).filter p).map g ++ [g (os[t]?.getD 0)] = ((os.take (t + 1)).filter p).map g := by
  have e : os[t]?.getD 0 = os[t] := by rw [List.getElem?_eq_getElem ht]; rfl
  rw [e] at h
  rw [e, List.take_succ_eq_append_getElem ht, List.filter_append, List.map_append]; simp [h]
theorem fm_no {os : List Int} {p : Int → Bool} {g : Int → List Int} {t : Nat} (ht : t < os.length) (h : p (os[t]?.getD 0) = false) : ((os.take (t + 1)).filter p).map g = ((os.take t).filter p).map g := by
  have e : os[t]?.getD 0 = os[t] := by rw [List.getElem?_eq_getElem ht]; rfl
  rw [e] at h
  rw [List.take_succ_eq_append_getElem ht, List.filter_append, List.map_append]; simp [h]
theorem fm_len (os : List Int) (p : Int → Bool) (g : Int → List Int) (t : Nat) : (((os.take t).filter p).map g).length ≤ t := by
  rw [List.length_map]; exact Nat.le_trans (List.length_filter_le _ _) (by rw [List.length_take]; omega)
theorem lkd_one {zs : List (List Int)} {t : Nat} (h : t < (nums (zs.map doI)).length) : 0 < (lkd zs ((nums (zs.map doI))[t]?.getD 0)).length := by
  rw [List.getElem?_eq_getElem h]
  have hm : (nums (zs.map doI))[t] ∈ nums (zs.map doI) := List.getElem_mem h
  rw [nums_mem, List.mem_map] at hm
  obtain ⟨L, hL, e⟩ := hm
  have : raI L ∈ lkd zs (nums (zs.map doI))[t] := by
    unfold lkd; rw [nums_mem, List.mem_map]; exact ⟨L, List.mem_filter.2 ⟨hL, isO_iff.2 e⟩, rfl⟩
  exact List.length_pos_of_mem this
theorem linked1_in (m x : Nat) (a : Int) (L : List Int) (W : World) (hx : W.cell? ⟨x, 0, none⟩ = some (.int .i64 a)) (hxl : x < W.heap.size) :
    Calls Tryz.prog 73 #[.agg #[.int .i64 ((m : Int)), .int .i64 (ofL L 0), .int .i64 (ofL L 1), .int .i64 (ofL L 2), .int .i64 (ofL L 3), .int .i64 (ofL L 4), .int .i64 (ofL L 5), .int .i64 ((doN L : Nat)), .int .i64 ((raN L : Nat))], .pointer (some ⟨x, 0, none⟩)] W fun e W' => e = .returned (.bool (isO a L)) ∧ Below W.heap.size W W' := by
  have hB : Below W.heap.size W (W.alloc (.cells #[.int .i64 ((m : Int)), .int .i64 (ofL L 0), .int .i64 (ofL L 1), .int .i64 (ofL L 2), .int .i64 (ofL L 3), .int .i64 (ofL L 4), .int .i64 (ofL L 5), .int .i64 ((doN L : Nat)), .int .i64 ((raN L : Nat))] 65)) := (Below.refl _ _).alloc (Nat.le_refl _) _
  have hx1 : (W.alloc (.cells #[.int .i64 ((m : Int)), .int .i64 (ofL L 0), .int .i64 (ofL L 1), .int .i64 (ofL L 2), .int .i64 (ofL L 3), .int .i64 (ofL L 4), .int .i64 (ofL L 5), .int .i64 ((doN L : Nat)), .int .i64 ((raN L : Nat))] 65)).cell? ⟨x, 0, none⟩ = some (.int .i64 a) := (hB.cell hxl).trans hx
  have H1 : Hid ((((doN L : Nat) : Int) == a) = isO a L) := eqI_dec (doN L : Nat) a
  clear hx
  go_enter Tryz.func73, Tryz.ntmps73
  go_wp2
  go_ret
  exact ⟨by rw [← H1.out]; rfl, hB⟩
theorem linked2_in (m : Nat) (L : List Int) (W : World) : Calls Tryz.prog 74 #[.agg #[.int .i64 ((m : Int)), .int .i64 (ofL L 0), .int .i64 (ofL L 1), .int .i64 (ofL L 2), .int .i64 (ofL L 3), .int .i64 (ofL L 4), .int .i64 (ofL L 5), .int .i64 ((doN L : Nat)), .int .i64 ((raN L : Nat))]] W fun e W' => e = .returned (.int .i64 (raN L : Nat)) ∧ Below W.heap.size W W' := by
  have hB : Below W.heap.size W (W.alloc (.cells #[.int .i64 ((m : Int)), .int .i64 (ofL L 0), .int .i64 (ofL L 1), .int .i64 (ofL L 2), .int .i64 (ofL L 3), .int .i64 (ofL L 4), .int .i64 (ofL L 5), .int .i64 ((doN L : Nat)), .int .i64 ((raN L : Nat))] 65)) := (Below.refl _ _).alloc (Nat.le_refl _) _
  go_enter Tryz.func74, Tryz.ntmps74
  go_wp2
  go_ret
  exact ⟨rfl, hB⟩
set_option maxHeartbeats 400000 in
theorem linked_any (m lo : Nat) (a : Int) (v : Value) (Ls : List (List Int)) (hq : Ls.length ≤ 1048576) (w : World) (hown : w.ownsRow lo 65 9 v Ls.length (awc m Ls)) :
    Calls Tryz.prog 43 #[v, .int .i64 a] w fun e w' => ∃ v', e = .returned v' ∧ NewL w (lkd Ls a) v' w' := by
  have eg : ∀ args w, (callFunc 73 args).run Tryz.prog w = .ok (.enter 73 args) w := enters_of Tryz.func73 (by kernel_rfl) rfl
  have eg2 : ∀ args w, (callFunc 74 args).run Tryz.prog w = .ok (.enter 74 args) w := enters_of Tryz.func74 (by kernel_rfl) rfl
  have hB0 : Below w.heap.size w (w.alloc (.cells #[.int .i64 a] 3)) := (Below.refl _ w).alloc (Nat.le_refl _) _
  have hX := Blk.new w 3 #[.int .i64 a]
  have hP := apart_any m 73 lo #[] #[.pointer (some ⟨w.heap.size, 0, none⟩)] v Ls hq (isO a) (w.alloc (.cells #[.int .i64 a] 3)) eg
    (fun L _ W hW => linked1_in m w.heap.size a L W ((hX.below hW hX.lt).cell 0) (hX.below hW hX.lt).lt) (hown.alloc _)
  have hN : ∀ lo' v' w', w'.ownsRow lo' 65 9 v' (Ls.filter (isO a)).length (awc m (Ls.filter (isO a))) → Calls Tryz.prog 70 #[v', .func (.func 74) #[] #[]] w' fun e w2 => ∃ v2, e = .returned v2 ∧ NewL w' (lkd Ls a) v2 w2 :=
    fun lo' v' w' ho => numbers_any m 74 lo' #[] #[] v' (Ls.filter (isO a)) (Nat.le_trans (List.length_filter_le _ _) hq) raI w' eg2 (fun L _ W _ => linked2_in m L W) ho
  have HN := Lib.hid hN
  obtain ⟨A, cp, rfl⟩ := own_shape hown
  have hs0 := hB0.size
  clear hown hX hN
  go_enter Tryz.func43, Tryz.ntmps43
  go_wp2_with fail
  refine hP.mono ?_
  rintro e w1 ⟨v', rfl, ho, hb⟩
  have hn := HN.out _ v' w1 ho
  obtain ⟨A1, c1, rfl⟩ := own_shape ho
  have hB := hB0.trans (hb.mono hs0)
  have hs := hB.size
  clear ho hb hP
  go_wp2_with fail
  refine hn.mono ?_
  rintro e w2 ⟨v2, rfl, ho2, hb2⟩
  have hB2 := hB.trans (hb2.mono hs)
  have hR := own_base ho2 hs
  clear ho2 hb2 hn
  go_wp2
  go_ret
  exact ⟨_, rfl, hR, hB2⟩
set_option maxHeartbeats 2000000 in
theorem implPar_any (A : Option Addr) (n c : Nat) (zs : List (List Int)) (w : World) (h : RSS w A n zs) (hg : EtAt w) :
    Calls Tryz.prog 21 #[.slice A n c] w fun e w' => ∃ v, e = .returned (.tuple #[v, .bool (sgS zs)]) ∧ OSS w' w.heap.size w'.heap.size v (parI zs) ∧ Below w.heap.size w w' := by
  obtain ⟨i1, hj, hj0, hj1, hj2⟩ := info_parts info_partsS
  have hF := arrowsFrom_any A n c zs w h hg
  have hq : (sgl zs).length ≤ 1048576 := by have := sgl_len zs; omega
  have HONE : Hid (∀ t, t < (objI zs).length → 0 < (lkd (sgl zs) ((objI zs)[t]?.getD 0)).length) := fun t ht => lkd_one ht
  have hol := objI_len zs
  have HPI : Hid (parI zs = ((objI zs).filter (hdB (sgl zs))).map (lkd (sgl zs))) := rfl
  have HLL : Hid (∀ a, (lkd (sgl zs) a).length ≤ 400) := fun a => lkd_len (sgl_len zs) a
  clear h hg
  go_enter Tryz.func21, Tryz.ntmps21
  go_wp2_with fail
  refine hF.mono ?_
  rintro e w1 ⟨v, rfl, hown, hb⟩
  have hO := objects_any (m0 zs) _ v (sgl zs) hq w1 hown
  replace hO : Calls Tryz.prog 41 #[v] w1 fun e w' => ∃ v', e = .returned v' ∧ w'.ownsRow w1.heap.size 3 1 v' (objI zs).length (ivs (objI zs)) ∧ Below w1.heap.size w1 w' := hO
  have HOW1 := Lib.hid hown
  obtain ⟨A1, c1, rfl⟩ := own_shape hown
  have hs := hb.size
  clear hown hF
  go_wp2_with fail
  refine hO.mono ?_
  rintro e w2 ⟨v', rfl, ho, hb2⟩
  have HOW := Lib.hid (own_below HOW1.out hb2)
  obtain ⟨A2, c2, rfl⟩ := own_slice ho
  have HRO := Lib.hid (RI.of_own ho)
  have HB2 := Lib.hid (hb.trans (hb2.mono hs))
  clear hb hb2 hO HOW1 ho
  generalize objI zs = os at *
  generalize sgl zs = Ls at *
  go_wp2
  go_loopw [6, 18] (fun v i wr => ∃ t : Nat, t ≤ os.length ∧ i = .int .i64 (t : Int) ∧ OSS wr w2.heap.size wr.heap.size v (((os.take t).filter (hdB Ls)).map (lkd Ls)) ∧ Below w2.heap.size w2 wr) (fun _ i _ => os.length - (intOf i).toNat)
  case atStart => exact ⟨0, Nat.zero_le _, rfl, oss_nil _ _ _, Below.refl _ _⟩
  case round =>
    obtain ⟨t, ht, rfl, hO, hbr⟩ := hrel
    by_cases hlt : t < os.length
    · obtain ⟨ad, rfl, hab, hc⟩ := (HRO.out.below hbr).at_ hlt
      have HY := Lib.hid (fm_yes (p := hdB Ls) (g := lkd Ls) hlt)
      have HN := Lib.hid (fm_no (p := hdB Ls) (g := lkd Ls) hlt)
      have h1 := HONE.out t hlt
      have hti : (t : Int) < (os.length : Int) := by omega
      have hfl := fm_len os (hdB Ls) (lkd Ls) t
      generalize os[t]?.getD 0 = z at *
      have hk := linked_any (m0 zs) _ z (.slice A1 Ls.length c1) Ls hq wr (own_below HOW.out hbr)
      have hsb := hbr.size
      have HH : Hid (hdB Ls z = decide ((lkd Ls z)[0]?.getD 0 = z)) := rfl
      go_wp2_with fail
      refine hk.mono ?_
      rintro e w3 ⟨v3, rfl, ho3, hb3⟩
      obtain ⟨g3, c3, hv3, _, _⟩ := ho3.form h1
      subst hv3
      obtain ⟨ad3, he3, hab3, hc3⟩ := (RI.of_own ho3).at_ h1
      obtain rfl := Option.some.inj he3
      rw [add_zero_] at hc3
      have hq0 : (0 : Int) < ((lkd Ls z).length : Int) := by omega
      have hO3 := (hO.below hb3).more (Nat.le_refl _) hb3.size
      obtain ⟨vs, hrow0, hvb, hinn0⟩ := hO
      have hrow3 := own_below hrow0 hb3
      have hinn3 := (hinn0.below hb3).more (Nat.le_refl _) hb3.size
      have hu : OI w3 w2.heap.size w3.heap.size (.slice (some ⟨g3, 0, none⟩) (lkd Ls z).length c3) (lkd Ls z) := OI.of (own_base ho3 (by omega))
      have hap : ∀ (i : Nat) (u' : Value), vs[i]? = some u' → ∀ q : Nat, u'.ownBlock = some q → (Value.slice (some ⟨g3, 0, none⟩) (lkd Ls z).length c3).ownBlock = some q → False := fun i u' hi q e1 e2 => by
        have h1 := hinn0.lt hi e1
        have h2 := ho3.lt q e2
        omega
      have hbr3 : Below w2.heap.size w2 w3 := hbr.trans (hb3.mono hbr.size)
      have p1 : (((os.take t).filter (hdB Ls)).map (lkd Ls)).length + 1 ≤ maxLen := by unfold maxLen; omega
      have p2 : ((((os.take t).filter (hdB Ls)).map (lkd Ls)).length + 1) * 24 ≤ 140737488355328 := by omega
      have p3 : ∀ o : Obj, w2.heap.size ≤ (w3.alloc o).heap.size := fun o => by have := hbr3.size; simp; omega
      have hl4 := HLL.out z
      clear hinn0 hrow0 hb3 ho3 hk hc hab h1
      generalize (lkd Ls z)[0]?.getD 0 = y at *
      by_cases hyz : y = z
      · have hcmp : (y == z) = true := by simp [hyz]
        have HT := Lib.hid (HY.out (by rw [HH.out]; exact decide_eq_true hyz))
        clear hyz
        go_wp2_with (at_builtin; refine wpList_append_own _ rfl _ _ 22 rfl w2.heap.size 24 i1 (.slice none 0 0) 1 24 Tryz.underlying22 hj hj0 hj1 hj2 rfl (by decide) _ _ _ rfl (hrow3.alloc _) ⟨w3.heap.size, 0, none⟩ 1 1 [.slice (some ⟨g3, 0, none⟩) (lkd Ls z).length c3] rfl rfl (cell_one_new _ _ _) (by simp [Value.oneCell']) p1 p2 (p3 _) ?_; intro v' w4 hown' hgrow _; have hO4 := OSS.app hrow3 hinn3 hu hap hown' hgrow; have hB4 := below_app hbr3 hrow3 (Nat.le_refl _) hgrow; clear hown' hgrow hrow3 hinn3 hu hap hbr3)
        go_roundw
        case rel => exact ⟨t + 1, by omega, by go_num, by rw [← HT.out]; exact hO4, hB4⟩
        case measure => simp [intOf]; omega
      · have hcmp : (y == z) = false := by simp [hyz]
        have HT := Lib.hid (HN.out (by rw [HH.out]; exact decide_eq_false hyz))
        clear hyz hrow3 hinn3 hu hap
        go_wp2
        go_roundw
        case rel => exact ⟨t + 1, by omega, by go_num, by rw [HT.out]; exact hO3, hbr3⟩
        case measure => simp [intOf]; omega
    · obtain rfl : t = os.length := by omega
      have HE : Hid ((((os.take os.length).filter (hdB Ls)).map (lkd Ls)) = parI zs) := by show _ = _; rw [List.take_of_length_le (Nat.le_refl _), HPI.out]
      obtain ⟨A9, c9, rfl⟩ := hO.slice
      go_wp2
      go_ret2
      have hs2 := HB2.out.size
      exact ⟨_, rfl, by rw [← HE.out]; exact hO.more hs2 (Nat.le_refl _), HB2.out.trans (hbr.mono hs2)⟩
end

end Go.Proofs.YtoomeimloaloaaaGreatDoor
