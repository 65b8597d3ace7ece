/-
  Am Ap7 Ar8 At8 Av7 Aw7 Az7 Ba7.
-/
import Derived.Deep.RegionHeld3
import Derived.Test.YtdipcjnnknggnaaGreatDoorMC
import Derived.Test.YtdipcjnnknggnaaGreatDoorNV
import Derived.Test.YtdipcjnnknggnaaGreatDoorOK
import Derived.Test.YtdipcjnnknggnaaGreatDoorOT
import Derived.Test.YtdipcjnnknggnaaGreatDoorPB
import Derived.Test.YtdipcjnnknggnaaGreatDoorPI
import Derived.Test.YtdipcjnnknggnaaGreatDoorPL
import Derived.Test.YtdipcjnnknggnaaGreatDoorPN
namespace Go.Proofs.YtdipcjnnknggnaaGreatDoor
set_option maxRecDepth 100000
set_option linter.unusedVariables false
set_option linter.unusedSimpArgs false
set_option linter.unusedSectionVars false

/-! Charts that join: what their product has; no program. -/
section
theorem joB_iff {f g : List Int} : joB f g = true ↔ isP f g = true ∧ raN f = doN g := by unfold joB; rw [Bool.and_eq_true, decide_eq_true_eq]
theorem atL_yes {f g : List Int} (h : joB f g = true) : atL f g = tiL f g := if_pos h
theorem joB_dom {f g : List Int} (h : joB f g = true) : doN (tiL f g) = doN f := by
  obtain ⟨hP, hr⟩ := joB_iff.1 h
  obtain ⟨hf, hg, hl⟩ := isP_yes hP
  refine Nat.eq_of_testBit_eq (fun j => ?_)
  rw [doN_bit (tiL_isC hP), doN_bit hf, tiL_len hP]
  by_cases hj : j < f.length
  · rw [tiL_get hP hj]
    congr 1
    apply decide_eq_decide.2
    unfold cmp
    rcases en_ofL hf j hj with hn | ⟨h0, h1⟩
    · rw [hn]; simp
    · rw [if_pos ⟨h0, h1⟩]
      constructor
      · intro _ e; omega
      · intro _ e
        have hm : (ofL f j).toNat < f.length := by omega
        have hb : (doN g).testBit (ofL f j).toNat = true := by
          rw [← hr, raN_tu hf, doN_bit (tuL_isC hf), tuL_len hf, tuL_get hf hm, decide_eq_true hm, Bool.true_and, decide_eq_true_eq]
          intro e2
          have := (trn_none (isC_CH hf) hm).1 e2 j hj
          omega
        rw [doN_bit hg, Bool.and_eq_true, decide_eq_true_eq, decide_eq_true_eq] at hb
        exact hb.2 e
  · rw [decide_eq_false hj]; rfl
theorem joB_turn {f g : List Int} (h : joB f g = true) : joB (tuL g) (tuL f) = true := by
  obtain ⟨hP, hr⟩ := joB_iff.1 h
  obtain ⟨hf, hg, hl⟩ := isP_yes hP
  refine joB_iff.2 ⟨(tuL_tiL hP).1, ?_⟩
  rw [raN_tu (tuL_isC hg), tuL_tuL hg, ← hr, raN_tu hf]
theorem joB_ran {f g : List Int} (h : joB f g = true) : raN (tiL f g) = raN g := by
  obtain ⟨hP, hr⟩ := joB_iff.1 h
  obtain ⟨hf, hg, hl⟩ := isP_yes hP
  rw [raN_tu (tiL_isC hP), (tuL_tiL hP).2, joB_dom (joB_turn h), raN_tu hg]
theorem joins_law {f g : List Int} (h : joB f g = true) : isC g = true ∧ isC f = true ∧ isP f g = true ∧ isC (tiL f g) = true ∧ popK (doN g) 6 = popK (doN f) 6 ∧ popK (doN (tiL f g)) 6 = popK (doN f) 6 ∧ joB (tuL g) (tuL f) = true := by
  obtain ⟨hP, hr⟩ := joB_iff.1 h
  obtain ⟨hf, hg, hl⟩ := isP_yes hP
  exact ⟨hg, hf, hP, tiL_isC hP, by rw [← hr, range_law hf], by rw [joB_dom h], joB_turn h⟩
theorem arrow_law {f g : List Int} (h : joB f g = true) : isC (atL f g) = true ∧ isC f = true ∧ isC g = true ∧ isP f g = true ∧ doN (atL f g) = doN f ∧ raN (atL f g) = raN g ∧ tiL f g = atL f g := by
  obtain ⟨hP, hr⟩ := joB_iff.1 h
  obtain ⟨hf, hg, hl⟩ := isP_yes hP
  rw [atL_yes h]
  exact ⟨tiL_isC hP, hf, hg, hP, joB_dom h, joB_ran h, rfl⟩
end

/-! the parts of a semigroup's objects: mathematics. -/
section
open Go.RowKit Go.Maps

def rlB (zs : List (List Int)) (a b : Int) : Bool := zs.any (btB a b)
/-- the objects that are linked with an object: the ends of the arrows from it -/
def lkd (zs : List (List Int)) (a : Int) : List Int := nums ((zs.filter (isO a)).map raI)
def hdB (zs : List (List Int)) (a : Int) : Bool := decide ((lkd zs a)[0]?.getD 0 = a)
def parI (zs : List (List Int)) : List (List Int) := ((objI zs).filter (hdB (sgl zs))).map (lkd (sgl zs))
theorem btB_iff {a b : Int} {L : List Int} : btB a b L = true ↔ doI L = a ∧ raI L = b := by unfold btB; rw [Bool.and_eq_true, decide_eq_true_eq, decide_eq_true_eq]
theorem isO_iff {a : Int} {L : List Int} : isO a L = true ↔ doI L = a := by unfold isO; rw [decide_eq_true_eq]
theorem rlB_iff {zs : List (List Int)} {a b : Int} : rlB zs a b = true ↔ ∃ L ∈ zs, doI L = a ∧ raI L = b := by
  unfold rlB; rw [List.any_eq_true]
  constructor
  · rintro ⟨L, h, e⟩; exact ⟨L, h, btB_iff.1 e⟩
  · rintro ⟨L, h, e⟩; exact ⟨L, h, btB_iff.2 e⟩
theorem rlB_symm {zs : List (List Int)} (S : Sg zs) {a b : Int} (h : rlB zs a b = true) : rlB zs b a = true := by
  obtain ⟨L, hL, rfl, rfl⟩ := rlB_iff.1 h
  have c := (S.ch L hL).1
  refine rlB_iff.2 ⟨tuL L, S.tu L hL, ?_, ?_⟩
  · unfold doI raI; rw [← raN_tu c]
  · unfold doI raI; rw [raN_tu (tuL_isC c), tuL_tuL c]
theorem rlB_trans {zs : List (List Int)} (S : Sg zs) {a b c : Int} (h : rlB zs a b = true) (h2 : rlB zs b c = true) : rlB zs a c = true := by
  obtain ⟨L, hL, rfl, rfl⟩ := rlB_iff.1 h
  obtain ⟨M, hM, e, rfl⟩ := rlB_iff.1 h2
  have cL := S.ch L hL
  have cM := S.ch M hM
  have hj : joB L M = true := joB_iff.2 ⟨isP_of cL.1 cM.1 (cL.2.trans cM.2.symm), by unfold doI raI at e; omega⟩
  obtain ⟨_, _, _, _, h5, h6, h7⟩ := arrow_law hj
  refine rlB_iff.2 ⟨tiL L M, S.ti L hL M hM, ?_, ?_⟩
  · unfold doI; rw [h7, h5]
  · unfold raI; rw [h7, h6]
theorem rlB_refl {zs : List (List Int)} (S : Sg zs) {a : Int} (h : a ∈ nums (zs.map doI)) : rlB zs a a = true := by
  rw [nums_mem, List.mem_map] at h
  obtain ⟨L, hL, rfl⟩ := h
  have h1 : rlB zs (doI L) (raI L) = true := rlB_iff.2 ⟨L, hL, rfl, rfl⟩
  exact rlB_trans S h1 (rlB_symm S h1)
theorem lkd_is {zs : List (List Int)} (S : Sg zs) (a : Int) : lkd zs a = (nums (zs.map doI)).filter (rlB zs a) := by
  unfold lkd
  refine nums_is ((nums_asc _).filter _) (fun x => ?_)
  rw [List.mem_filter, nums_mem, List.mem_map, List.mem_map, rlB_iff]
  constructor
  · rintro ⟨_, L, hL, e1, e2⟩
    exact ⟨L, List.mem_filter.2 ⟨hL, isO_iff.2 e1⟩, e2⟩
  · rintro ⟨L, hL, rfl⟩
    obtain ⟨h1, h2⟩ := List.mem_filter.1 hL
    have c := (S.ch L h1).1
    exact ⟨⟨tuL L, S.tu L h1, by unfold doI raI; rw [← raN_tu c]⟩, L, h1, isO_iff.1 h2, rfl⟩
theorem lkd_len {zs : List (List Int)} (h : zs.length ≤ 400) (a : Int) : (lkd zs a).length ≤ 400 := Nat.le_trans (nums_len _) (by rw [List.length_map]; exact Nat.le_trans (List.length_filter_le _ _) h)
/-- ahead of the i-th object none is linked with it: it is the first of its part -/
theorem hdB_iff {zs : List (List Int)} (S : Sg zs) {os : List Int} (ho : os = nums (zs.map doI)) {i : Nat} (hi : i < os.length) :
    hdB zs (os[i]?.getD 0) = true ↔ ∀ j, j < i → rlB zs (os[j]?.getD 0) (os[i]?.getD 0) = false := by
  have ha : Asc os := by rw [ho]; exact nums_asc _
  have hgi : os[i]?.getD 0 = os[i] := by rw [List.getElem?_eq_getElem hi]; rfl
  have hm : os[i] ∈ nums (zs.map doI) := by rw [← ho]; exact List.getElem_mem hi
  have hr := rlB_refl S hm
  unfold hdB
  rw [hgi, decide_eq_true_eq, lkd_is S, ← ho]
  have hsplit : os = os.take i ++ os[i] :: os.drop (i + 1) := by rw [← List.drop_eq_getElem_cons hi, List.take_append_drop]
  have hf : os.filter (rlB zs os[i]) = (os.take i).filter (rlB zs os[i]) ++ os[i] :: (os.drop (i + 1)).filter (rlB zs os[i]) := by
    have h1 := congrArg (List.filter (rlB zs os[i])) hsplit
    rw [List.filter_append, List.filter_cons, if_pos hr] at h1
    exact h1
  rw [hf]
  constructor
  · intro h j hj
    cases hc : rlB zs (os[j]?.getD 0) os[i]
    · rfl
    · exfalso
      have hjl : j < os.length := by omega
      have hgj : os[j]?.getD 0 = os[j] := by rw [List.getElem?_eq_getElem hjl]; rfl
      rw [hgj] at hc
      have hmj : os[j] ∈ (os.take i).filter (rlB zs os[i]) := List.mem_filter.2 ⟨List.mem_take_iff_getElem.2 ⟨j, by omega, rfl⟩, rlB_symm S hc⟩
      cases hT : (os.take i).filter (rlB zs os[i]) with
      | nil => rw [hT] at hmj; cases hmj
      | cons t ts =>
        rw [hT] at h
        have h : t = os[i] := h
        have htm : t ∈ (os.take i).filter (rlB zs os[i]) := by rw [hT]; exact List.mem_cons_self ..
        obtain ⟨q, hq, e⟩ := List.mem_take_iff_getElem.1 (List.mem_filter.1 htm).1
        have hlt := List.pairwise_iff_getElem.1 ha q i (by omega) hi (by omega)
        rw [e, h] at hlt
        omega
  · intro h
    have hT : (os.take i).filter (rlB zs os[i]) = [] := by
      rw [List.filter_eq_nil_iff]
      intro b hb hc
      obtain ⟨q, hq, rfl⟩ := List.mem_take_iff_getElem.1 hb
      have := h q (by omega)
      rw [show os[q]?.getD 0 = os[q] by rw [List.getElem?_eq_getElem (by omega)]; rfl, rlB_symm S hc] at this
      cases this
    rw [hT]; rfl
end

/-! (impl.arrows).linkedWith, ArrowParts of the program. -/
section
open Go.RowKit Go.Maps

theorem fm_yes {os : List Int} {p : Int → Bool} {g : Int → List Int} {t : Nat} (ht : t < os.length) (h : p (os[t]?.getD 0) = true) : ((os.take t).filter p).map g ++ [g (os[t]?.getD 0)] = ((os.take (t + 1)).filter p).map g := by
  have e : os[t]?.getD 0 = os[t] := by rw [List.getElem?_eq_getElem ht]; rfl
  rw [e] at h
  rw [e, List.take_succ_eq_append_getElem ht, List.filter_append, List.map_append]; simp [h]
theorem fm_no {os : List Int} {p : Int → Bool} {g : Int → List Int} {t : Nat} (ht : t < os.length) (h : p (os[t]?.getD 0) = false) : ((os.take (t + 1)).filter p).map g = ((os.take t).filter p).map g := by
  have e : os[t]?.getD 0 = os[t] := by rw [List.getElem?_eq_getElem ht]; rfl
  rw [e] at h
  rw [List.take_succ_eq_append_getElem ht, List.filter_append, List.map_append]; simp [h]
theorem fm_len (os : List Int) (p : Int → Bool) (g : Int → List Int) (t : Nat) : (((os.take t).filter p).map g).length ≤ t := by
  rw [List.length_map]; exact Nat.le_trans (List.length_filter_le _ _) (by rw [List.length_take]; omega)
theorem lkd_one {zs : List (List Int)} {t : Nat} (h : t < (nums (zs.map doI)).length) : 0 < (lkd zs ((nums (zs.map doI))[t]?.getD 0)).length := by
  rw [List.getElem?_eq_getElem h]
  have hm : (nums (zs.map doI))[t] ∈ nums (zs.map doI) := List.getElem_mem h
  rw [nums_mem, List.mem_map] at hm
  obtain ⟨L, hL, e⟩ := hm
  have : raI L ∈ lkd zs (nums (zs.map doI))[t] := by
    unfold lkd; rw [nums_mem, List.mem_map]; exact ⟨L, List.mem_filter.2 ⟨hL, isO_iff.2 e⟩, rfl⟩
  exact List.length_pos_of_mem this
theorem linked1_in (m x : Nat) (a : Int) (L : List Int) (W : World) (hx : W.cell? ⟨x, 0, none⟩ = some (.int .i64 a)) (hxl : x < W.heap.size) :
    Calls Tryz.prog 66 #[.agg #[.int .i64 ((m : Int)), .int .i64 (ofL L 0), .int .i64 (ofL L 1), .int .i64 (ofL L 2), .int .i64 (ofL L 3), .int .i64 (ofL L 4), .int .i64 (ofL L 5), .int .i64 ((doN L : Nat)), .int .i64 ((raN L : Nat))], .pointer (some ⟨x, 0, none⟩)] W fun e W' => e = .returned (.bool (isO a L)) ∧ Below W.heap.size W W' := by
  have hB : Below W.heap.size W (W.alloc (.cells #[.int .i64 ((m : Int)), .int .i64 (ofL L 0), .int .i64 (ofL L 1), .int .i64 (ofL L 2), .int .i64 (ofL L 3), .int .i64 (ofL L 4), .int .i64 (ofL L 5), .int .i64 ((doN L : Nat)), .int .i64 ((raN L : Nat))] 78)) := (Below.refl _ _).alloc (Nat.le_refl _) _
  have hx1 : (W.alloc (.cells #[.int .i64 ((m : Int)), .int .i64 (ofL L 0), .int .i64 (ofL L 1), .int .i64 (ofL L 2), .int .i64 (ofL L 3), .int .i64 (ofL L 4), .int .i64 (ofL L 5), .int .i64 ((doN L : Nat)), .int .i64 ((raN L : Nat))] 78)).cell? ⟨x, 0, none⟩ = some (.int .i64 a) := (hB.cell hxl).trans hx
  have H1 : Hid ((((doN L : Nat) : Int) == a) = isO a L) := eqI_dec (doN L : Nat) a
  clear hx
  go_enter Tryz.func66, Tryz.ntmps66
  go_wp2
  go_ret
  exact ⟨by rw [← H1.out]; rfl, hB⟩
theorem linked2_in (m : Nat) (L : List Int) (W : World) : Calls Tryz.prog 67 #[.agg #[.int .i64 ((m : Int)), .int .i64 (ofL L 0), .int .i64 (ofL L 1), .int .i64 (ofL L 2), .int .i64 (ofL L 3), .int .i64 (ofL L 4), .int .i64 (ofL L 5), .int .i64 ((doN L : Nat)), .int .i64 ((raN L : Nat))]] W fun e W' => e = .returned (.int .i64 (raN L : Nat)) ∧ Below W.heap.size W W' := by
  have hB : Below W.heap.size W (W.alloc (.cells #[.int .i64 ((m : Int)), .int .i64 (ofL L 0), .int .i64 (ofL L 1), .int .i64 (ofL L 2), .int .i64 (ofL L 3), .int .i64 (ofL L 4), .int .i64 (ofL L 5), .int .i64 ((doN L : Nat)), .int .i64 ((raN L : Nat))] 78)) := (Below.refl _ _).alloc (Nat.le_refl _) _
  go_enter Tryz.func67, Tryz.ntmps67
  go_wp2
  go_ret
  exact ⟨rfl, hB⟩
set_option maxHeartbeats 400000 in
theorem linked_any (m lo : Nat) (a : Int) (v : Value) (Ls : List (List Int)) (hq : Ls.length ≤ 1048576) (w : World) (hown : w.ownsRow lo 78 9 v Ls.length (awc m Ls)) :
    Calls Tryz.prog 34 #[v, .int .i64 a] w fun e w' => ∃ v', e = .returned v' ∧ NewL w (lkd Ls a) v' w' := by
  have eg : ∀ args w, (callFunc 66 args).run Tryz.prog w = .ok (.enter 66 args) w := enters_of Tryz.func66 (by kernel_rfl) rfl
  have eg2 : ∀ args w, (callFunc 67 args).run Tryz.prog w = .ok (.enter 67 args) w := enters_of Tryz.func67 (by kernel_rfl) rfl
  have hB0 : Below w.heap.size w (w.alloc (.cells #[.int .i64 a] 3)) := (Below.refl _ w).alloc (Nat.le_refl _) _
  have hX := Blk.new w 3 #[.int .i64 a]
  have hP := apart_any m 66 lo #[] #[.pointer (some ⟨w.heap.size, 0, none⟩)] v Ls hq (isO a) (w.alloc (.cells #[.int .i64 a] 3)) eg
    (fun L _ W hW => linked1_in m w.heap.size a L W ((hX.below hW hX.lt).cell 0) (hX.below hW hX.lt).lt) (hown.alloc _)
  have hN : ∀ lo' v' w', w'.ownsRow lo' 78 9 v' (Ls.filter (isO a)).length (awc m (Ls.filter (isO a))) → Calls Tryz.prog 63 #[v', .func (.func 67) #[] #[]] w' fun e w2 => ∃ v2, e = .returned v2 ∧ NewL w' (lkd Ls a) v2 w2 :=
    fun lo' v' w' ho => numbers_any m 67 lo' #[] #[] v' (Ls.filter (isO a)) (Nat.le_trans (List.length_filter_le _ _) hq) raI w' eg2 (fun L _ W _ => linked2_in m L W) ho
  have HN := Lib.hid hN
  obtain ⟨A, cp, rfl⟩ := own_shape hown
  have hs0 := hB0.size
  clear hown hX hN
  go_enter Tryz.func34, Tryz.ntmps34
  go_wp2_with fail
  refine hP.mono ?_
  rintro e w1 ⟨v', rfl, ho, hb⟩
  have hn := HN.out _ v' w1 ho
  obtain ⟨A1, c1, rfl⟩ := own_shape ho
  have hB := hB0.trans (hb.mono hs0)
  have hs := hB.size
  clear ho hb hP
  go_wp2_with fail
  refine hn.mono ?_
  rintro e w2 ⟨v2, rfl, ho2, hb2⟩
  have hB2 := hB.trans (hb2.mono hs)
  have hR := own_base ho2 hs
  clear ho2 hb2 hn
  go_wp2
  go_ret
  exact ⟨_, rfl, hR, hB2⟩
set_option maxHeartbeats 2000000 in
theorem implPar_any (A : Option Addr) (n c : Nat) (zs : List (List Int)) (w : World) (h : RSS w A n zs) (hg : EtAt w) :
    Calls Tryz.prog 10 #[.slice A n c] w fun e w' => ∃ v, e = .returned (.tuple #[v, .bool (sgS zs)]) ∧ OSS w' w.heap.size w'.heap.size v (parI zs) ∧ Below w.heap.size w w' := by
  obtain ⟨i1, hj, hj0, hj1, hj2⟩ := info_parts info_partsS
  have hF := arrowsFrom_any A n c zs w h hg
  have hq : (sgl zs).length ≤ 1048576 := by have := sgl_len zs; omega
  have HONE : Hid (∀ t, t < (objI zs).length → 0 < (lkd (sgl zs) ((objI zs)[t]?.getD 0)).length) := fun t ht => lkd_one ht
  have hol := objI_len zs
  have HPI : Hid (parI zs = ((objI zs).filter (hdB (sgl zs))).map (lkd (sgl zs))) := rfl
  have HLL : Hid (∀ a, (lkd (sgl zs) a).length ≤ 400) := fun a => lkd_len (sgl_len zs) a
  clear h hg
  go_enter Tryz.func10, Tryz.ntmps10
  go_wp2_with fail
  refine hF.mono ?_
  rintro e w1 ⟨v, rfl, hown, hb⟩
  have hO := objects_any (m0 zs) _ v (sgl zs) hq w1 hown
  replace hO : Calls Tryz.prog 33 #[v] w1 fun e w' => ∃ v', e = .returned v' ∧ w'.ownsRow w1.heap.size 3 1 v' (objI zs).length (ivs (objI zs)) ∧ Below w1.heap.size w1 w' := hO
  have HOW1 := Lib.hid hown
  obtain ⟨A1, c1, rfl⟩ := own_shape hown
  have hs := hb.size
  clear hown hF
  go_wp2_with fail
  refine hO.mono ?_
  rintro e w2 ⟨v', rfl, ho, hb2⟩
  have HOW := Lib.hid (own_below HOW1.out hb2)
  obtain ⟨A2, c2, rfl⟩ := own_slice ho
  have HRO := Lib.hid (RI.of_own ho)
  have HB2 := Lib.hid (hb.trans (hb2.mono hs))
  clear hb hb2 hO HOW1 ho
  generalize objI zs = os at *
  generalize sgl zs = Ls at *
  go_wp2
  go_loopw [6, 18] (fun v i wr => ∃ t : Nat, t ≤ os.length ∧ i = .int .i64 (t : Int) ∧ OSS wr w2.heap.size wr.heap.size v (((os.take t).filter (hdB Ls)).map (lkd Ls)) ∧ Below w2.heap.size w2 wr) (fun _ i _ => os.length - (intOf i).toNat)
  case atStart => exact ⟨0, Nat.zero_le _, rfl, oss_nil _ _ _, Below.refl _ _⟩
  case round =>
    obtain ⟨t, ht, rfl, hO, hbr⟩ := hrel
    by_cases hlt : t < os.length
    · obtain ⟨ad, rfl, hab, hc⟩ := (HRO.out.below hbr).at_ hlt
      have HY := Lib.hid (fm_yes (p := hdB Ls) (g := lkd Ls) hlt)
      have HN := Lib.hid (fm_no (p := hdB Ls) (g := lkd Ls) hlt)
      have h1 := HONE.out t hlt
      have hti : (t : Int) < (os.length : Int) := by omega
      have hfl := fm_len os (hdB Ls) (lkd Ls) t
      generalize os[t]?.getD 0 = z at *
      have hk := linked_any (m0 zs) _ z (.slice A1 Ls.length c1) Ls hq wr (own_below HOW.out hbr)
      have hsb := hbr.size
      have HH : Hid (hdB Ls z = decide ((lkd Ls z)[0]?.getD 0 = z)) := rfl
      go_wp2_with fail
      refine hk.mono ?_
      rintro e w3 ⟨v3, rfl, ho3, hb3⟩
      obtain ⟨g3, c3, hv3, _, _⟩ := ho3.form h1
      subst hv3
      obtain ⟨ad3, he3, hab3, hc3⟩ := (RI.of_own ho3).at_ h1
      obtain rfl := Option.some.inj he3
      rw [add_zero_] at hc3
      have hq0 : (0 : Int) < ((lkd Ls z).length : Int) := by omega
      have hO3 := (hO.below hb3).more (Nat.le_refl _) hb3.size
      obtain ⟨vs, hrow0, hvb, hinn0⟩ := hO
      have hrow3 := own_below hrow0 hb3
      have hinn3 := (hinn0.below hb3).more (Nat.le_refl _) hb3.size
      have hu : OI w3 w2.heap.size w3.heap.size (.slice (some ⟨g3, 0, none⟩) (lkd Ls z).length c3) (lkd Ls z) := OI.of (own_base ho3 (by omega))
      have hap : ∀ (i : Nat) (u' : Value), vs[i]? = some u' → ∀ q : Nat, u'.ownBlock = some q → (Value.slice (some ⟨g3, 0, none⟩) (lkd Ls z).length c3).ownBlock = some q → False := fun i u' hi q e1 e2 => by
        have h1 := hinn0.lt hi e1
        have h2 := ho3.lt q e2
        omega
      have hbr3 : Below w2.heap.size w2 w3 := hbr.trans (hb3.mono hbr.size)
      have p1 : (((os.take t).filter (hdB Ls)).map (lkd Ls)).length + 1 ≤ maxLen := by unfold maxLen; omega
      have p2 : ((((os.take t).filter (hdB Ls)).map (lkd Ls)).length + 1) * 24 ≤ 140737488355328 := by omega
      have p3 : ∀ o : Obj, w2.heap.size ≤ (w3.alloc o).heap.size := fun o => by have := hbr3.size; simp; omega
      have hl4 := HLL.out z
      clear hinn0 hrow0 hb3 ho3 hk hc hab h1
      generalize (lkd Ls z)[0]?.getD 0 = y at *
      by_cases hyz : y = z
      · have hcmp : (y == z) = true := by simp [hyz]
        have HT := Lib.hid (HY.out (by rw [HH.out]; exact decide_eq_true hyz))
        clear hyz
        go_wp2_with (at_builtin; refine wpList_append_own _ rfl _ _ 23 rfl w2.heap.size 30 i1 (.slice none 0 0) 1 24 Tryz.underlying23 hj hj0 hj1 hj2 rfl (by decide) _ _ _ rfl (hrow3.alloc _) ⟨w3.heap.size, 0, none⟩ 1 1 [.slice (some ⟨g3, 0, none⟩) (lkd Ls z).length c3] rfl rfl (cell_one_new _ _ _) (by simp [Value.oneCell']) p1 p2 (p3 _) ?_; intro v' w4 hown' hgrow _; have hO4 := OSS.app hrow3 hinn3 hu hap hown' hgrow; have hB4 := below_app hbr3 hrow3 (Nat.le_refl _) hgrow; clear hown' hgrow hrow3 hinn3 hu hap hbr3)
        go_roundw
        case rel => exact ⟨t + 1, by omega, by go_num, by rw [← HT.out]; exact hO4, hB4⟩
        case measure => simp [intOf]; omega
      · have hcmp : (y == z) = false := by simp [hyz]
        have HT := Lib.hid (HN.out (by rw [HH.out]; exact decide_eq_false hyz))
        clear hyz hrow3 hinn3 hu hap
        go_wp2
        go_roundw
        case rel => exact ⟨t + 1, by omega, by go_num, by rw [HT.out]; exact hO3, hbr3⟩
        case measure => simp [intOf]; omega
    · obtain rfl : t = os.length := by omega
      have HE : Hid ((((os.take os.length).filter (hdB Ls)).map (lkd Ls)) = parI zs) := by show _ = _; rw [List.take_of_length_le (Nat.le_refl _), HPI.out]
      obtain ⟨A9, c9, rfl⟩ := hO.slice
      go_wp2
      go_ret2
      have hs2 := HB2.out.size
      exact ⟨_, rfl, by rw [← HE.out]; exact hO.more hs2 (Nat.le_refl _), HB2.out.trans (hbr.mono hs2)⟩
end

/-! ArrowParts of the spec. -/
section
open Go.RowKit Go.Maps

theorem own_ne {w : World} {b b' s s' n n' : Nat} {e e' : TypeId} {v v' : Value} {xs xs' : List Value} (h : w.ownsRow b e s v n xs) (h' : w.ownsRow b' e' s' v' n' xs') (hne : e ≠ e') {g : Nat} (hg : v.ownBlock = some g) : v'.ownBlock ≠ some g := by
  rcases h.2 with ⟨rfl, _⟩ | ⟨g1, c1, cur1, rfl, _, hh1, _⟩
  · simp [Value.ownBlock] at hg
  · rcases h'.2 with ⟨rfl, _⟩ | ⟨g2, c2, cur2, rfl, _, hh2, _⟩
    · simp [Value.ownBlock]
    · intro e
      have e1 : g1 = g := by simpa [Value.ownBlock] using hg
      have e2 : g2 = g := by simpa [Value.ownBlock] using e
      subst e1
      subst e2
      rw [hh1] at hh2
      injection hh2 with hh2
      injection hh2 with _ ht _
      exact hne ht
theorem own_ne2 {w : World} {b b' s s' n n' : Nat} {e e' : TypeId} {v v' : Value} {xs xs' : List Value} (h : w.ownsRow b e s v n xs) (h' : w.ownsRow b' e' s' v' n' xs') (hne : e ≠ e') : v.ownBlock = none ∨ v.ownBlock ≠ v'.ownBlock := by
  cases hv : v.ownBlock with
  | none => exact .inl rfl
  | some g => exact .inr (fun e1 => own_ne h h' hne hv e1.symm)
/-- the rows of ArrowParts while a part is made -/
structure Pst (w : World) (lo h5 D q : Nat) (ad : Addr) (c2 : Nat) (vo vp : Value) (vs : List Value) (Ls : List (List Int)) (P os : List Int) (ds : List Bool) : Prop where
  row : w.ownsRow lo 30 1 vo Ls.length vs
  inn : Inn w lo h5 vs Ls
  prt : w.ownsRow h5 3 1 vp P.length (ivs P)
  don : w.ownsRow lo 4 1 (.slice (some ⟨D, 0, none⟩) q q) q (bvs ds)
  obj : w.ownsRow lo 3 1 (.slice (some ad) q c2) q (ivs os)
  adh : ad.block < h5
  h5s : h5 ≤ w.heap.size
section
variable {w w' : World} {lo h5 D q : Nat} {ad : Addr} {c2 : Nat} {vo vp : Value} {vs : List Value} {Ls : List (List Int)} {P os : List Int} {ds : List Bool}
theorem Pst.below (h : Pst w lo h5 D q ad c2 vo vp vs Ls P os ds) (hb : Below w.heap.size w w') : Pst w' lo h5 D q ad c2 vo vp vs Ls P os ds :=
  ⟨own_below h.row hb, h.inn.below hb, own_below h.prt hb, own_below h.don hb, own_below h.obj hb, h.adh, Nat.le_trans h.h5s hb.size⟩
theorem Pst.app {vp' : Value} {b : Int} {o : Obj} (h0 : Pst w lo h5 D q ad c2 vo vp vs Ls P os ds) (hgrow : (w.alloc o).grownBy w' vp.ownBlock)
    (hown' : w'.ownsRow h5 3 1 vp' (P.length + 1) (ivs P ++ [.int .i64 b])) : Pst w' lo h5 D q ad c2 vo vp' vs Ls (P ++ [b]) os ds := by
  have h := h0.below ((Below.refl _ w).alloc (Nat.le_refl _) o)
  refine ⟨h.row.kept hgrow (own_ne2 h.row h.prt (by decide)), h.inn.same (fun i u hu g hg => ?_), ?_, h.don.kept hgrow (own_ne2 h.don h.prt (by decide)), h.obj.kept hgrow (.inr (fun e => ?_)), h.adh, Nat.le_trans h.h5s hgrow.size⟩
  · have h1 := h.inn.lt hu hg
    exact hgrow.block g h1.2.2 (fun e => by have := (h.prt.lt g e.symm).1; omega)
  · rw [List.length_append]
    unfold ivs at hown' ⊢
    rw [List.map_append]
    exact hown'
  · have h1 := (h.prt.lt ad.block e.symm).1
    have := h.adh
    omega
theorem Pst.store (h : Pst w lo h5 D q ad c2 vo vp vs Ls P os ds) (k : Nat) : Pst (w.setCell ⟨D, k, none⟩ (.bool true)) lo h5 D q ad c2 vo vp vs Ls P os (ds.set k true) := by
  obtain ⟨s1, hg⟩ := h.don.stored k (.bool true)
  have hse : (bvs ds).set k (.bool true) = bvs (ds.set k true) := by unfold bvs; rw [← List.map_set]
  rw [hse] at s1
  refine ⟨h.row.kept hg (own_ne2 h.row h.don (by decide)), h.inn.same (fun i u hu g hgu => ?_), h.prt.kept hg (own_ne2 h.prt h.don (by decide)), s1, h.obj.kept hg (own_ne2 h.obj h.don (by decide)), h.adh, Nat.le_trans h.h5s hg.size⟩
  have hl : i < vs.length := (List.getElem?_eq_some_iff.1 hu).1
  have o := h.inn.own i u _ hu (List.getElem?_eq_getElem (show i < Ls.length by rw [← h.inn.len]; exact hl))
  exact hg.block g (h.inn.lt hu hgu).2.2 (fun e => own_ne o.1 h.don (by decide) hgu e.symm)
theorem Pst.over {v' : Value} (h : Pst w lo h5 D q ad c2 vo vp vs Ls P os ds) (hlo : lo ≤ h5) (hown' : w'.ownsRow lo 30 1 v' (Ls.length + 1) (vs ++ [vp])) (hgrow : (w.alloc (.cells #[vp] 30)).grownBy w' vo.ownBlock) :
    OSS w' lo w'.heap.size v' (Ls ++ [P]) ∧ w'.ownsRow lo 4 1 (.slice (some ⟨D, 0, none⟩) q q) q (bvs ds) ∧ w'.ownsRow lo 3 1 (.slice (some ad) q c2) q (ivs os) := by
  have h2 := h.below ((Below.refl _ w).alloc (Nat.le_refl _) (.cells #[vp] 30))
  refine ⟨OSS.app h.row (h.inn.more (Nat.le_refl _) h.h5s) (OI.of (own_base h.prt hlo)) (fun i u hi g e1 e2 => ?_) hown' hgrow, h2.don.kept hgrow (own_ne2 h2.don h2.row (by decide)), h2.obj.kept hgrow (own_ne2 h2.obj h2.row (by decide))⟩
  have h3 := (h.inn.lt hi e1).2.1
  have h4 := (h.prt.lt g e2).1
  omega
end
def Dn (zs : List (List Int)) (os : List Int) (i : Nat) (ds : List Bool) : Prop := ds.length = os.length ∧ ∀ t, i ≤ t → t < os.length → (ds[t]?.getD false = true ↔ ∃ j, j < i ∧ rlB zs (os[j]?.getD 0) (os[t]?.getD 0) = true)
def Dk (zs : List (List Int)) (os : List Int) (i k : Nat) (ds : List Bool) : Prop := ds.length = os.length ∧ ∀ t, i + 1 ≤ t → t < os.length → (ds[t]?.getD false = true ↔ (∃ j, j < i ∧ rlB zs (os[j]?.getD 0) (os[t]?.getD 0) = true) ∨ (t < k ∧ rlB zs (os[i]?.getD 0) (os[t]?.getD 0) = true))
section
variable {zs : List (List Int)} {os : List Int} {i k : Nat} {ds : List Bool}
theorem dn_zero (os : List Int) : Dn zs os 0 (List.replicate os.length false) := ⟨by simp, fun t _ ht => by
  rw [List.getElem?_replicate, if_pos ht]
  constructor
  · intro h; cases h
  · rintro ⟨j, hj, _⟩; omega⟩
theorem Dn.start (h : Dn zs os i ds) : Dk zs os i i ds := ⟨h.1, fun t h1 h2 => by
  rw [h.2 t (by omega) h2]
  constructor
  · intro h; exact .inl h
  · rintro (h | ⟨h, _⟩)
    · exact h
    · omega⟩
theorem Dk.no (h : Dk zs os i k ds) (hr : rlB zs (os[i]?.getD 0) (os[k]?.getD 0) = false) : Dk zs os i (k + 1) ds := ⟨h.1, fun t h1 h2 => by
  rw [h.2 t h1 h2]
  constructor
  · rintro (h | ⟨h, e⟩)
    · exact .inl h
    · exact .inr ⟨by omega, e⟩
  · rintro (h | ⟨h, e⟩)
    · exact .inl h
    · refine .inr ⟨?_, e⟩
      rcases Nat.lt_or_ge t k with h3 | h3
      · exact h3
      · obtain rfl : t = k := by omega
        rw [hr] at e; cases e⟩
theorem Dk.yes (h : Dk zs os i k ds) (hr : rlB zs (os[i]?.getD 0) (os[k]?.getD 0) = true) : Dk zs os i (k + 1) (ds.set k true) := ⟨by rw [List.length_set]; exact h.1, fun t h1 h2 => by
  rw [List.getElem?_set]
  by_cases e : k = t
  · subst e
    rw [if_pos rfl, if_pos (by rw [h.1]; exact h2)]
    constructor
    · intro _; exact .inr ⟨by omega, hr⟩
    · intro _; rfl
  · rw [if_neg e, h.2 t h1 h2]
    constructor
    · rintro (h | ⟨h, e⟩)
      · exact .inl h
      · exact .inr ⟨by omega, e⟩
    · rintro (h | ⟨h, e⟩)
      · exact .inl h
      · exact .inr ⟨by omega, e⟩⟩
theorem Dk.stop (h : Dk zs os i os.length ds) : Dn zs os (i + 1) ds := ⟨h.1, fun t h1 h2 => by
  rw [h.2 t h1 h2]
  constructor
  · rintro (⟨j, hj, e⟩ | ⟨_, e⟩)
    · exact ⟨j, by omega, e⟩
    · exact ⟨i, by omega, e⟩
  · rintro ⟨j, hj, e⟩
    rcases Nat.lt_or_ge j i with h3 | h3
    · exact .inl ⟨j, h3, e⟩
    · obtain rfl : j = i := by omega
      exact .inr ⟨h2, e⟩⟩
theorem Dn.skip (S : Sg zs) (h : Dn zs os i ds) (hi : i < os.length) (hd : ds[i]?.getD false = true) : Dn zs os (i + 1) ds := ⟨h.1, fun t h1 h2 => by
  rw [h.2 t (by omega) h2]
  obtain ⟨j0, hj0, e0⟩ := (h.2 i (Nat.le_refl _) hi).1 hd
  constructor
  · rintro ⟨j, hj, e⟩; exact ⟨j, by omega, e⟩
  · rintro ⟨j, hj, e⟩
    rcases Nat.lt_or_ge j i with h3 | h3
    · exact ⟨j, h3, e⟩
    · obtain rfl : j = i := by omega
      exact ⟨j0, hj0, rlB_trans S e0 e⟩⟩
theorem Dn.head (S : Sg zs) (ho : os = nums (zs.map doI)) (h : Dn zs os i ds) (hi : i < os.length) : hdB zs (os[i]?.getD 0) = !(ds[i]?.getD false) := by
  have h1 := hdB_iff S ho hi
  have h2 := h.2 i (Nat.le_refl _) hi
  cases hd : ds[i]?.getD false
  · exact h1.2 (fun j hj => by
      cases e : rlB zs (os[j]?.getD 0) (os[i]?.getD 0)
      · rfl
      · have := h2.2 ⟨j, hj, e⟩; rw [hd] at this; cases this)
  · cases e : hdB zs (os[i]?.getD 0)
    · rfl
    · obtain ⟨j, hj, e2⟩ := h2.1 hd
      rw [h1.1 e j hj] at e2; cases e2
theorem take_none (S : Sg zs) (ho : os = nums (zs.map doI)) (hi : i < os.length) (hd : hdB zs (os[i]?.getD 0) = true) : (os.take i).filter (rlB zs (os[i]?.getD 0)) = [] := by
  rw [List.filter_eq_nil_iff]
  intro b hb hc
  obtain ⟨j, hj, rfl⟩ := List.mem_take_iff_getElem.1 hb
  have h1 := (hdB_iff S ho hi).1 hd j (by omega)
  rw [show os[j]?.getD 0 = os[j] by rw [List.getElem?_eq_getElem (by omega)]; rfl, rlB_symm S hc] at h1
  cases h1
theorem tf_yes {p : Int → Bool} (hk : k < os.length) (h : p (os[k]?.getD 0) = true) : (os.take (k + 1)).filter p = (os.take k).filter p ++ [os[k]?.getD 0] := by
  have e : os[k]?.getD 0 = os[k] := by rw [List.getElem?_eq_getElem hk]; rfl
  rw [e] at h
  rw [e, List.take_succ_eq_append_getElem hk, List.filter_append]; simp [h]
theorem tf_no {p : Int → Bool} (hk : k < os.length) (h : p (os[k]?.getD 0) = false) : (os.take (k + 1)).filter p = (os.take k).filter p := by
  have e : os[k]?.getD 0 = os[k] := by rw [List.getElem?_eq_getElem hk]; rfl
  rw [e] at h
  rw [List.take_succ_eq_append_getElem hk, List.filter_append]; simp [h]
theorem rl_len (zs : List (List Int)) (a b : Int) : (0 < (zs.filter (btB a b)).length) ↔ rlB zs a b = true := by
  unfold rlB
  rw [List.length_pos_iff, Ne, List.filter_eq_nil_iff, List.any_eq_true]
  constructor
  · intro h
    exact Classical.byContradiction (fun hn => h (fun x hx e => hn ⟨x, hx, e⟩))
  · rintro ⟨x, hx, e⟩ h
    exact h x hx e
end
theorem parI_yes {zs : List (List Int)} (h : sgS zs = true) : parI zs = ((objI zs).filter (hdB zs)).map (lkd zs) := by unfold parI; rw [sgl_yes h]
theorem parI_no {zs : List (List Int)} (h : sgS zs = false) : parI zs = [] := by unfold parI; rw [objI_no h]; rfl
theorem totL_400 : ∀ Ls : List (List Int), (∀ L ∈ Ls, L.length ≤ 400) → totL Ls ≤ Ls.length * 400
  | [], _ => Nat.le_refl _
  | L :: Ls, h => by
    have h1 := h L (List.mem_cons_self ..)
    have h2 := totL_400 Ls (fun M hM => h M (List.mem_cons_of_mem _ hM))
    have e : totL (L :: Ls) = L.length + totL Ls := rfl
    rw [e, List.length_cons]; omega
theorem parI_le (zs : List (List Int)) : (parI zs).length ≤ 400 ∧ totL (parI zs) ≤ 160000 ∧ ∀ L ∈ parI zs, L.length ≤ 1048576 := by
  have h0 : (parI zs).length ≤ 400 := by
    unfold parI
    rw [List.length_map]
    exact Nat.le_trans (List.length_filter_le _ _) (objI_len zs)
  have h1 : ∀ L ∈ parI zs, L.length ≤ 400 := fun L hL => by
    unfold parI at hL
    obtain ⟨a, _, rfl⟩ := List.mem_map.1 hL
    exact lkd_len (sgl_len zs) a
  have h2 := totL_400 _ h1
  exact ⟨h0, by omega, fun L hL => Nat.le_trans (h1 L hL) (by omega)⟩
theorem objI_pos {zs : List (List Int)} (h : sgS zs = true) : 1 ≤ (objI zs).length := by
  have S := sgS_iff.1 h
  have hz := S.one
  obtain ⟨L, hL⟩ : ∃ L, L ∈ zs := ⟨_, ent_mem (show 0 < zs.length by omega)⟩
  have : doI L ∈ objI zs := by rw [objI_yes h, nums_mem]; exact List.mem_map.2 ⟨L, hL, rfl⟩
  exact List.length_pos_of_mem this
set_option maxHeartbeats 4000000 in
theorem specPar_any (A : Option Addr) (n c : Nat) (zs : List (List Int)) (w : World) (h : RSS w A n zs) (hn : n ≤ 1048576) (hl : ∀ L ∈ zs, L.length ≤ 1048576) :
    Calls Tryz.prog 11 #[.slice A n c] w fun e w' => ∃ v, e = .returned (.tuple #[v, .bool (sgS zs)]) ∧ OSS w' w.heap.size w'.heap.size v (parI zs) ∧ Below w.heap.size w w' := by
  have hB0 := ((Below.refl _ w).alloc (Nat.le_refl _) (.cells #[] 30))
  obtain ⟨i0, hi, hz0, hz1, hz2⟩ := info_parts info_int
  obtain ⟨i1, hj, hj0, hj1, hj2⟩ := info_parts info_partsS
  obtain ⟨i2, hb, hb0, hb1, hb2⟩ := info_parts info_bool
  have hsg := specSg_any A n c zs _ (h.below hB0) hn hl
  have hO0 : OSS (w.alloc (.cells #[] 30)) w.heap.size (w.alloc (.cells #[] 30)).heap.size (.slice (some ⟨w.heap.size, 0, none⟩) 0 0) [] := (OSS.lit0 w).more (Nat.le_refl _) (by simp)
  have hs0 := hB0.size
  cases hS : sgS zs
  · have HK := Lib.hid hS
    have HO := Lib.hid (parI_no hS)
    rw [hS] at hsg
    clear hS h hl
    go_enter Tryz.func11, Tryz.ntmps11
    go_wp2_with fail
    generalize w.alloc (.cells #[] 30) = w0 at *
    refine hsg.mono ?_
    rintro e w2 ⟨rfl, hb⟩
    have hB := hB0.trans (hb.mono hs0)
    have hR := (hO0.below hb).more (Nat.le_refl _) hb.size
    clear hO0 hsg hb
    go_wp2
    go_ret2
    exact ⟨_, rfl, by rw [HO.out]; exact hR, hB⟩
  · have HX := Lib.hid (sgS_iff.1 hS)
    have HPI := Lib.hid (parI_yes hS)
    have HEQ := Lib.hid (objI_yes hS)
    have hol := objI_len zs
    have HZ : Hid (∀ L ∈ zs, isC L = true) := fun L hL => (HX.out.ch L hL).1
    have h1 := objI_pos hS
    have HH := Lib.hid h
    have hOb : ∀ w', Below w.heap.size w w' → Calls Tryz.prog 36 #[.slice A n c] w' fun e w2 => ∃ v, e = .returned v ∧ NewL w' (objI zs) v w2 := fun w' hb => by rw [HEQ.out]; exact l7Obj_any A n c zs w' (h.below hb) HX.out
    have HOb := Lib.hid hOb
    rw [hS] at hsg
    clear hS h hl hOb
    go_enter Tryz.func11, Tryz.ntmps11
    go_wp2_with fail
    generalize w.alloc (.cells #[] 30) = w0 at *
    refine hsg.mono ?_
    rintro e w1 ⟨rfl, hb⟩
    have hB1 := hB0.trans (hb.mono hs0)
    have hR1 := (hO0.below hb).more (Nat.le_refl _) hb.size
    have ho := HOb.out w1 hB1
    clear hO0 hsg hb hB0 hs0
    generalize objI zs = os at *
    generalize hq : os.length = q at *
    go_wp2_with fail
    refine ho.mono ?_
    rintro e w2 ⟨v, rfl, oO, b⟩
    obtain ⟨gO, c2, hv, _, _⟩ := oO.form (by omega)
    subst hv
    obtain ⟨ad, had⟩ : ∃ ad : Addr, (⟨gO, 0, none⟩ : Addr) = ad := ⟨_, rfl⟩
    rw [had] at oO
    have hR2 := (hR1.below b).more (Nat.le_refl _) b.size
    have hB2 := hB1.trans (b.mono hB1.size)
    have hO2 : w2.ownsRow w.heap.size 3 1 (.slice (some ad) q c2) q (ivs os) := by have := own_base oO hB1.size; rw [hq] at this; exact this
    clear oO b ho hR1 hB1
    have hs2 := hB2.size
    have hb8 : i2.bytes * q ≤ 281474976710656 := by rw [hb2]; omega
    have hmx : q ≤ maxLen := by unfold maxLen; omega
    go_wp2_with (at_make; refine wpList_make_full _ rfl _ _ _ rfl w2.heap.size 4 i2 _ 1 Tryz.underlying52 hb hb0 hb1 _ _ _ _ q rfl rfl rfl rfl hb8 hmx (Nat.le_refl _) ?_; intro w3 hown hg)
    have hD3 : w3.ownsRow w.heap.size 4 1 (.slice (some ⟨w2.heap.size, 0, none⟩) q q) q (bvs (List.replicate q false)) := by
      have e : (madeCells (Value.bool false).cells (q * 1)).toList = bvs (List.replicate q false) := by
        show (madeCells #[Value.bool false] (q * 1)).toList = _
        rw [toList_madeCells_one]; simp [bvs]
      rw [← e]; exact own_base hown hs2
    have hb23 : Below w2.heap.size w2 w3 := (Below.refl _ _).grown hg (Nat.le_refl _) (fun k e => by cases e)
    have hR3 := (hR2.below hb23).more (Nat.le_refl _) hb23.size
    have hO3 := own_below hO2 hb23
    have hB3 := hB2.trans (hb23.mono hs2)
    have HDZ : Hid (Dn zs os 0 (List.replicate q false)) := by show Dn _ _ _ _; rw [← hq]; exact dn_zero os
    have HQ := Lib.hid hq
    have hDw : w.heap.size ≤ w2.heap.size := hs2
    generalize w2.heap.size = D at *
    clear hown hg hb23 hR2 hO2 hB2 hb8 hmx hb hb0 hb1 hb2 hs2
    go_loopw [4, 7] (fun v i wr => ∃ (i' : Nat) (ds : List Bool), i' ≤ q ∧ i = .int .i64 (i' : Int) ∧ OSS wr w.heap.size wr.heap.size v (((os.take i').filter (hdB zs)).map (lkd zs)) ∧ wr.ownsRow w.heap.size 4 1 (.slice (some ⟨D, 0, none⟩) q q) q (bvs ds) ∧ wr.ownsRow w.heap.size 3 1 (.slice (some ad) q c2) q (ivs os) ∧ Hid (Dn zs os i' ds) ∧ Below w.heap.size w wr) (fun _ i _ => q - (intOf i).toNat)
    case atStart => exact ⟨0, _, Nat.zero_le _, rfl, hR3, hD3, hO3, HDZ, hB3⟩
    case round =>
      clear hR3 hD3 hO3 HDZ hB3
      obtain ⟨i, ds, hiq, rfl, hO, hD, hJ, HDN, hB⟩ := hrel
      by_cases hlt : i < q
      · have hio : i < os.length := by have := HQ.out; omega
        have hdl : ds.length = os.length := HDN.out.1
        have hcd := hD.cellAt i (by omega)
        unfold bvs at hcd
        rw [List.getElem?_map, List.getElem?_eq_getElem (show i < ds.length by omega)] at hcd
        replace hcd : wr.cell? ⟨D, i, none⟩ = some (.bool ds[i]) := hcd
        have hgd : ds[i]?.getD false = ds[i] := by rw [List.getElem?_eq_getElem (show i < ds.length by omega)]; rfl
        have hhd := HDN.out.head HX.out HEQ.out hio
        rw [hgd] at hhd
        have hii : (i : Int) < (q : Int) := by omega
        cases hdi : ds[i]
        · rw [hdi] at hcd hhd hgd
          replace hhd : hdB zs (os[i]?.getD 0) = true := hhd
          have HT := Lib.hid (fm_yes (p := hdB zs) (g := lkd zs) hio hhd)
          have HTN := Lib.hid (take_none HX.out HEQ.out hio hhd)
          have HDK := Lib.hid HDN.out.start
          have HLK : Hid (os.filter (rlB zs (os[i]?.getD 0)) = lkd zs (os[i]?.getD 0)) := by show _ = _; rw [lkd_is HX.out, ← HEQ.out]
          have hfl := fm_len os (hdB zs) (lkd zs) i
          obtain ⟨vs, hrow0, hvb0, hinn0⟩ := hO
          generalize ha : os[i]?.getD 0 = a at *
          have HA := Lib.hid ha
          clear ha hdi hhd hgd hdl
          generalize ((os.take i).filter (hdB zs)).map (lkd zs) = Ls at *
          obtain ⟨w5, hw5⟩ : ∃ w5, w5 = wr := ⟨_, rfl⟩
          subst hw5
          have hP0 : Pst (w5.alloc (.cells #[] 3)) w.heap.size w5.heap.size D q ad c2 u4 (.slice (some ⟨w5.heap.size, 0, none⟩) 0 0) vs Ls [] os ds :=
            ⟨hrow0.alloc _, hinn0.below ((Below.refl _ _).alloc (Nat.le_refl _) _), own_lit0 w5, hD.alloc _, hJ.alloc _, (hJ.lt _ rfl).2, by simp⟩
          have hB0 := hB.alloc hB.size (.cells #[] 3)
          have hlo := hB.size
          clear hrow0 hvb0 hinn0 hD hJ hB HDN
          go_wp2
          go_loopw [8, 9] (fun vp kk wq => ∃ (k : Nat) (ds' : List Bool), k ≤ q ∧ kk = .int .i64 (k : Int) ∧ Pst wq w.heap.size w5.heap.size D q ad c2 u4 vp vs Ls ((os.take k).filter (rlB zs a)) os ds' ∧ Hid (Dk zs os i k ds') ∧ Below w.heap.size w wq) (fun _ kk _ => q - (intOf kk).toNat)
          case atStart => exact ⟨i, ds, hiq, rfl, by rw [HTN.out]; exact hP0, HDK, hB0⟩
          case round =>
            clear hP0 hB0 HDK hcd
            obtain ⟨k, ds', hkq, rfl, hP, HDK, hB⟩ := hrel
            have hpl : ((os.take k).filter (rlB zs a)).length ≤ 400 := Nat.le_trans (List.length_filter_le _ _) (by rw [List.length_take]; omega)
            by_cases hltk : k < q
            · have hko : k < os.length := by have := HQ.out; omega
              have hJ' : wr.ownsRow w.heap.size 3 1 (.slice (some ad) os.length c2) os.length (ivs os) := by rw [HQ.out]; exact hP.obj
              obtain ⟨ad1, e1, hab1, hci⟩ := (RI.of_own hJ').at_ hio
              obtain rfl := Option.some.inj e1
              obtain ⟨ad2, e2, hab2, hck⟩ := (RI.of_own hJ').at_ hko
              obtain rfl := Option.some.inj e2
              have hbi : (ad.add i).block < wr.heap.size := by rw [block_of_add]; exact hab1
              have hbk : (ad.add k).block < wr.heap.size := by rw [block_of_add]; exact hab1
              rw [HA.out] at hci
              have HYES : Hid (rlB zs a (os[k]?.getD 0) = true → Dk zs os i (k + 1) (ds'.set k true)) := fun e => HDK.out.yes (by rw [HA.out]; exact e)
              have HNO : Hid (rlB zs a (os[k]?.getD 0) = false → Dk zs os i (k + 1) ds') := fun e => HDK.out.no (by rw [HA.out]; exact e)
              have HFY := Lib.hid (tf_yes (p := rlB zs a) hko)
              have HFN := Lib.hid (tf_no (p := rlB zs a) hko)
              have hds : ds'.length = os.length := HDK.out.1
              have hkd : k < ds'.length := by omega
              have hki : (k : Int) < (q : Int) := by omega
              generalize os[k]?.getD 0 = b at *
              obtain ⟨q6, HFL⟩ : ∃ q6, Hid ((zs.filter (btB a b)).length = q6) := ⟨_, rfl⟩
              have HR6 : Hid (∀ W, Below w.heap.size w W → Calls Tryz.prog 37 #[.slice A n c, .int .i64 a, .int .i64 b] W fun e w' => ∃ A6 c6, e = .returned (.slice A6 q6 c6) ∧ Below W.heap.size W w') := fun W hW => by
                refine (l7From_any A n c zs a b W (HH.out.below hW) hn HZ.out).mono ?_
                rintro e w6 ⟨v6, rfl, ho6, hb6⟩
                obtain ⟨A6, c6, rfl⟩ := ho6.slice
                exact ⟨A6, c6, by rw [HFL.out], hb6⟩
              have hrl := rl_len zs a b
              rw [HFL.out] at hrl
              clear hJ' e1 e2 hab1 hab2 HFL
              by_cases hr : 0 < q6
              · have HDK2 := Lib.hid (HYES.out (hrl.1 hr))
                have HF := Lib.hid (HFY.out (hrl.1 hr))
                have hgt : decide ((q6 : Int) > 0) = true := decide_eq_true (by omega)
                have hgt2 : decide ((0 : Int) < (q6 : Int)) = true := decide_eq_true (by omega)
                clear hrl HYES HNO HFN HFY
                generalize (os.take k).filter (rlB zs a) = P at *
                go_wp2_with fail
                refine wp_region_held_drew (S := (fun w' => w'.cell? (ad.add i) = some (.int .i64 a) ∧ w'.cell? (ad.add k) = some (.int .i64 b))) (by kernel_rfl) ?_ (fun hHeld => ?_)
                · exact ⟨hci, hck⟩
                refine wpAnyH_take (i := 0) (v := .slice A n c) (by rw [List.getElem?_toArray]; rfl) (by kernel_rfl) (by kernel_rfl) (by kernel_rfl) (by exact fun _ _ _ h => h) (Or.inl ⟨by rfl, fun w hSw => by (try dsimp only at hSw); (go_simp <;> omega)⟩) (by assumption) ?_
                try simp only [Act.put, List.setIfInBounds_toArray, List.set_cons_zero, List.set_cons_succ]
                refine wpAnyH_take (i := 1) (v := .slice (some ad) q c2) (by rw [List.getElem?_toArray]; rfl) (by kernel_rfl) (by kernel_rfl) (by kernel_rfl) (by exact fun _ _ _ h => h) (Or.inl ⟨by rfl, fun w hSw => by (try dsimp only at hSw); (go_simp <;> omega)⟩) (by assumption) ?_
                try simp only [Act.put, List.setIfInBounds_toArray, List.set_cons_zero, List.set_cons_succ]
                refine wpAnyH_take (i := 2) (v := .int .i64 (i : Int)) (by rw [List.getElem?_toArray]; rfl) (by kernel_rfl) (by kernel_rfl) (by kernel_rfl) (by exact fun _ _ _ h => h) (Or.inl ⟨by rfl, fun w hSw => by (try dsimp only at hSw); (go_simp <;> omega)⟩) (by assumption) ?_
                try simp only [Act.put, List.setIfInBounds_toArray, List.set_cons_zero, List.set_cons_succ]
                refine wpAnyH_take (i := 3) (v := .pointer (some (ad.add i))) (by rw [List.getElem?_toArray]; rfl) (by kernel_rfl) (by kernel_rfl) (by kernel_rfl) (by exact fun _ _ _ h => h) (Or.inl ⟨by rfl, fun w hSw => by (try dsimp only at hSw); (go_simp <;> omega)⟩) (by assumption) ?_
                try simp only [Act.put, List.setIfInBounds_toArray, List.set_cons_zero, List.set_cons_succ]
                refine wpAnyH_take (i := 4) (v := .int .i64 a) (by rw [List.getElem?_toArray]; rfl) (by kernel_rfl) (by kernel_rfl) (by kernel_rfl) (by exact fun _ _ _ h => h) (Or.inl ⟨by rfl, fun w hSw => by (try dsimp only at hSw); (go_simp <;> omega)⟩) (by assumption) ?_
                try simp only [Act.put, List.setIfInBounds_toArray, List.set_cons_zero, List.set_cons_succ]
                refine wpAnyH_take (i := 5) (v := .slice (some ad) q c2) (by rw [List.getElem?_toArray]; rfl) (by kernel_rfl) (by kernel_rfl) (by kernel_rfl) (by exact fun _ _ _ h => h) (Or.inl ⟨by rfl, fun w hSw => by (try dsimp only at hSw); (go_simp <;> omega)⟩) (by assumption) ?_
                try simp only [Act.put, List.setIfInBounds_toArray, List.set_cons_zero, List.set_cons_succ]
                refine wpAnyH_take (i := 6) (v := .int .i64 (k : Int)) (by rw [List.getElem?_toArray]; rfl) (by kernel_rfl) (by kernel_rfl) (by kernel_rfl) (by exact fun _ _ _ h => h) (Or.inl ⟨by rfl, fun w hSw => by (try dsimp only at hSw); (go_simp <;> omega)⟩) (by assumption) ?_
                try simp only [Act.put, List.setIfInBounds_toArray, List.set_cons_zero, List.set_cons_succ]
                refine wpAnyH_take (i := 7) (v := .pointer (some (ad.add k))) (by rw [List.getElem?_toArray]; rfl) (by kernel_rfl) (by kernel_rfl) (by kernel_rfl) (by exact fun _ _ _ h => h) (Or.inl ⟨by rfl, fun w hSw => by (try dsimp only at hSw); (go_simp <;> omega)⟩) (by assumption) ?_
                try simp only [Act.put, List.setIfInBounds_toArray, List.set_cons_zero, List.set_cons_succ]
                refine wpAnyH_take (i := 8) (v := .int .i64 b) (by rw [List.getElem?_toArray]; rfl) (by kernel_rfl) (by kernel_rfl) (by kernel_rfl) (by exact fun _ _ _ h => h) (Or.inl ⟨by rfl, fun w hSw => by (try dsimp only at hSw); (go_simp <;> omega)⟩) (by assumption) ?_
                try simp only [Act.put, List.setIfInBounds_toArray, List.set_cons_zero, List.set_cons_succ]
                refine wpAnyH_ready (rs := [9]) (by kernel_rfl) (by simp) ?_
                refine AllReadyH.cons (o := _) (by rw [List.getElem?_toArray]; rfl) (fun K hK => ?_) AllReadyH.nil
                go_simp
                go_at_call 37
                refine (HR6.out _ hB.drew).mono ?_
                rintro e w6 ⟨A6, c6, rfl, hb6⟩
                replace hP := hP.below ((Below.refl _ wr).drew.trans hb6)
                replace hB := hB.drew.trans (hb6.mono hB.drew.size)
                replace hci : w6.cell? (ad.add i) = some (.int .i64 a) := (hb6.cell hbi).trans hci
                replace hck : w6.cell? (ad.add k) = some (.int .i64 b) := (hb6.cell hbk).trans hck
                clear hb6
                refine hK.out _ _ ?_ (fun hHeld9 => ?_)
                · exact ⟨hci, hck⟩
                clear hK K
                try simp only [Act.put, List.setIfInBounds_toArray, List.set_cons_zero, List.set_cons_succ]
                refine wpAnyH_take (i := 10) (v := .int .i64 (q6 : Int)) (by rw [List.getElem?_toArray]; rfl) (by kernel_rfl) (by kernel_rfl) (by kernel_rfl) (by exact fun _ _ _ h => h) (Or.inl ⟨by rfl, fun w hSw => by (try dsimp only at hSw); (go_simp <;> omega)⟩) (by assumption) ?_
                try simp only [Act.put, List.setIfInBounds_toArray, List.set_cons_zero, List.set_cons_succ]
                refine wpAnyH_take (i := 11) (v := .bool true) (by rw [List.getElem?_toArray]; rfl) (by kernel_rfl) (by kernel_rfl) (by kernel_rfl) (by exact fun _ _ _ h => h) (Or.inl ⟨by rfl, fun w hSw => by (try dsimp only at hSw); (go_simp <;> omega)⟩) (by assumption) ?_
                try simp only [Act.put, List.setIfInBounds_toArray, List.set_cons_zero, List.set_cons_succ]
                refine wpAnyH_done (by kernel_rfl) ?_ _
                have p1 : P.length + 1 ≤ maxLen := by unfold maxLen; omega
                have p2 : (P.length + 1) * 8 ≤ 140737488355328 := by omega
                have p3 : ∀ o : Obj, w5.heap.size ≤ (w6.alloc o).heap.size := fun o => by have := hP.h5s; simp; omega
                go_wp2_with (at_builtin; refine wpList_append_own _ rfl _ _ 30 rfl w5.heap.size 3 i0 (.int .i64 0) 1 8 Tryz.underlying30 hi hz0 hz1 hz2 rfl (by decide) _ _ _ rfl (hP.prt.alloc _) ⟨w6.heap.size, 0, none⟩ 1 1 [.int .i64 b] rfl rfl (cell_one_new _ _ _) (by simp [Value.oneCell']) p1 p2 (p3 _) ?_; intro v7 w7 hown7 hgrow7 _; have hP7 := hP.app hgrow7 hown7; have hB7 := (hB.alloc hB.size (.cells #[.int .i64 b] 3)).grown hgrow7 (by have := hB.size; simp; omega) (fun g e => Nat.le_trans hlo (hP.prt.lt g e).1); have hfz := hP7.don.frozenAt k; have hlD := (hP7.don.lt D rfl).2; have hcd7 := hP7.don.cellAt k (by omega); unfold bvs at hcd7; rw [List.getElem?_map, List.getElem?_eq_getElem hkd] at hcd7; replace hcd7 : w7.cell? ⟨D, k, none⟩ = some (.bool ds'[k]) := hcd7; have HP8 := Lib.hid (hP7.store k); have HB8 := Lib.hid (hB7.setCell (p := ⟨D, k, none⟩) hDw (.bool true)); clear hown7 hgrow7 hP7 hB7)
                go_roundw
                case rel => exact ⟨k + 1, ds'.set k true, by omega, by go_num, by rw [HF.out]; exact HP8.out, HDK2, HB8.out⟩
                case measure => simp [intOf]; omega
              · have hrf : rlB zs a b = false := by
                  cases e : rlB zs a b
                  · rfl
                  · exact absurd (hrl.2 e) hr
                have HDK2 := Lib.hid (HNO.out hrf)
                have HF := Lib.hid (HFN.out hrf)
                have hgt : decide ((q6 : Int) > 0) = false := decide_eq_false (by omega)
                have hgt2 : decide ((0 : Int) < (q6 : Int)) = false := decide_eq_false (by omega)
                clear hrl hrf HYES HNO HFN HFY
                generalize (os.take k).filter (rlB zs a) = P at *
                go_wp2_with fail
                refine wp_region_held_drew (S := (fun w' => w'.cell? (ad.add i) = some (.int .i64 a) ∧ w'.cell? (ad.add k) = some (.int .i64 b))) (by kernel_rfl) ?_ (fun hHeld => ?_)
                · exact ⟨hci, hck⟩
                refine wpAnyH_take (i := 0) (v := .slice A n c) (by rw [List.getElem?_toArray]; rfl) (by kernel_rfl) (by kernel_rfl) (by kernel_rfl) (by exact fun _ _ _ h => h) (Or.inl ⟨by rfl, fun w hSw => by (try dsimp only at hSw); (go_simp <;> omega)⟩) (by assumption) ?_
                try simp only [Act.put, List.setIfInBounds_toArray, List.set_cons_zero, List.set_cons_succ]
                refine wpAnyH_take (i := 1) (v := .slice (some ad) q c2) (by rw [List.getElem?_toArray]; rfl) (by kernel_rfl) (by kernel_rfl) (by kernel_rfl) (by exact fun _ _ _ h => h) (Or.inl ⟨by rfl, fun w hSw => by (try dsimp only at hSw); (go_simp <;> omega)⟩) (by assumption) ?_
                try simp only [Act.put, List.setIfInBounds_toArray, List.set_cons_zero, List.set_cons_succ]
                refine wpAnyH_take (i := 2) (v := .int .i64 (i : Int)) (by rw [List.getElem?_toArray]; rfl) (by kernel_rfl) (by kernel_rfl) (by kernel_rfl) (by exact fun _ _ _ h => h) (Or.inl ⟨by rfl, fun w hSw => by (try dsimp only at hSw); (go_simp <;> omega)⟩) (by assumption) ?_
                try simp only [Act.put, List.setIfInBounds_toArray, List.set_cons_zero, List.set_cons_succ]
                refine wpAnyH_take (i := 3) (v := .pointer (some (ad.add i))) (by rw [List.getElem?_toArray]; rfl) (by kernel_rfl) (by kernel_rfl) (by kernel_rfl) (by exact fun _ _ _ h => h) (Or.inl ⟨by rfl, fun w hSw => by (try dsimp only at hSw); (go_simp <;> omega)⟩) (by assumption) ?_
                try simp only [Act.put, List.setIfInBounds_toArray, List.set_cons_zero, List.set_cons_succ]
                refine wpAnyH_take (i := 4) (v := .int .i64 a) (by rw [List.getElem?_toArray]; rfl) (by kernel_rfl) (by kernel_rfl) (by kernel_rfl) (by exact fun _ _ _ h => h) (Or.inl ⟨by rfl, fun w hSw => by (try dsimp only at hSw); (go_simp <;> omega)⟩) (by assumption) ?_
                try simp only [Act.put, List.setIfInBounds_toArray, List.set_cons_zero, List.set_cons_succ]
                refine wpAnyH_take (i := 5) (v := .slice (some ad) q c2) (by rw [List.getElem?_toArray]; rfl) (by kernel_rfl) (by kernel_rfl) (by kernel_rfl) (by exact fun _ _ _ h => h) (Or.inl ⟨by rfl, fun w hSw => by (try dsimp only at hSw); (go_simp <;> omega)⟩) (by assumption) ?_
                try simp only [Act.put, List.setIfInBounds_toArray, List.set_cons_zero, List.set_cons_succ]
                refine wpAnyH_take (i := 6) (v := .int .i64 (k : Int)) (by rw [List.getElem?_toArray]; rfl) (by kernel_rfl) (by kernel_rfl) (by kernel_rfl) (by exact fun _ _ _ h => h) (Or.inl ⟨by rfl, fun w hSw => by (try dsimp only at hSw); (go_simp <;> omega)⟩) (by assumption) ?_
                try simp only [Act.put, List.setIfInBounds_toArray, List.set_cons_zero, List.set_cons_succ]
                refine wpAnyH_take (i := 7) (v := .pointer (some (ad.add k))) (by rw [List.getElem?_toArray]; rfl) (by kernel_rfl) (by kernel_rfl) (by kernel_rfl) (by exact fun _ _ _ h => h) (Or.inl ⟨by rfl, fun w hSw => by (try dsimp only at hSw); (go_simp <;> omega)⟩) (by assumption) ?_
                try simp only [Act.put, List.setIfInBounds_toArray, List.set_cons_zero, List.set_cons_succ]
                refine wpAnyH_take (i := 8) (v := .int .i64 b) (by rw [List.getElem?_toArray]; rfl) (by kernel_rfl) (by kernel_rfl) (by kernel_rfl) (by exact fun _ _ _ h => h) (Or.inl ⟨by rfl, fun w hSw => by (try dsimp only at hSw); (go_simp <;> omega)⟩) (by assumption) ?_
                try simp only [Act.put, List.setIfInBounds_toArray, List.set_cons_zero, List.set_cons_succ]
                refine wpAnyH_ready (rs := [9]) (by kernel_rfl) (by simp) ?_
                refine AllReadyH.cons (o := _) (by rw [List.getElem?_toArray]; rfl) (fun K hK => ?_) AllReadyH.nil
                go_simp
                go_at_call 37
                refine (HR6.out _ hB.drew).mono ?_
                rintro e w6 ⟨A6, c6, rfl, hb6⟩
                replace hP := hP.below ((Below.refl _ wr).drew.trans hb6)
                replace hB := hB.drew.trans (hb6.mono hB.drew.size)
                replace hci : w6.cell? (ad.add i) = some (.int .i64 a) := (hb6.cell hbi).trans hci
                replace hck : w6.cell? (ad.add k) = some (.int .i64 b) := (hb6.cell hbk).trans hck
                clear hb6
                refine hK.out _ _ ?_ (fun hHeld9 => ?_)
                · exact ⟨hci, hck⟩
                clear hK K
                try simp only [Act.put, List.setIfInBounds_toArray, List.set_cons_zero, List.set_cons_succ]
                refine wpAnyH_take (i := 10) (v := .int .i64 (q6 : Int)) (by rw [List.getElem?_toArray]; rfl) (by kernel_rfl) (by kernel_rfl) (by kernel_rfl) (by exact fun _ _ _ h => h) (Or.inl ⟨by rfl, fun w hSw => by (try dsimp only at hSw); (go_simp <;> omega)⟩) (by assumption) ?_
                try simp only [Act.put, List.setIfInBounds_toArray, List.set_cons_zero, List.set_cons_succ]
                refine wpAnyH_take (i := 11) (v := .bool false) (by rw [List.getElem?_toArray]; rfl) (by kernel_rfl) (by kernel_rfl) (by kernel_rfl) (by exact fun _ _ _ h => h) (Or.inl ⟨by rfl, fun w hSw => by (try dsimp only at hSw); (go_simp <;> omega)⟩) (by assumption) ?_
                try simp only [Act.put, List.setIfInBounds_toArray, List.set_cons_zero, List.set_cons_succ]
                refine wpAnyH_done (by kernel_rfl) ?_ _
                go_wp2
                go_roundw
                case rel => exact ⟨k + 1, ds', by omega, by go_num, by rw [HF.out]; exact hP, HDK2, hB⟩
                case measure => simp [intOf]; omega
            · obtain rfl : k = q := by omega
              have HP1 : Hid ((os.take k).filter (rlB zs a) = lkd zs a) := by show _ = _; rw [← HQ.out, List.take_of_length_le (Nat.le_refl _), HLK.out]
              have HDK2 : Hid (Dn zs os (i + 1) ds') := by
                have h3 := HDK.out
                rw [← HQ.out] at h3
                exact h3.stop
              rw [HP1.out] at hP hpl
              generalize lkd zs a = P at *
              obtain ⟨A8, c8, rfl⟩ := own_slice hP.prt
              have p1 : Ls.length + 1 ≤ maxLen := by unfold maxLen; omega
              have p2 : (Ls.length + 1) * 24 ≤ 140737488355328 := by omega
              have p3 : ∀ o : Obj, w.heap.size ≤ (wr.alloc o).heap.size := fun o => by have := hB.size; simp; omega
              go_wp2_with (at_builtin; refine wpList_append_own _ rfl _ _ 23 rfl w.heap.size 30 i1 (.slice none 0 0) 1 24 Tryz.underlying23 hj hj0 hj1 hj2 rfl (by decide) _ _ _ rfl (hP.row.alloc _) ⟨wr.heap.size, 0, none⟩ 1 1 [.slice A8 P.length c8] rfl rfl (cell_one_new _ _ _) (by simp [Value.oneCell']) p1 p2 (p3 _) ?_; intro v7 w7 hown7 hgrow7 _; have hov := hP.over hlo hown7 hgrow7; have hB7 := below_app hB hP.row (Nat.le_refl _) hgrow7; clear hown7 hgrow7 hP)
              go_roundw
              case rel => exact ⟨i + 1, ds', by omega, by go_num, by rw [← HT.out]; exact hov.1, hov.2.1, hov.2.2, HDK2, hB7⟩
              case measure => simp [intOf]; omega
        · rw [hdi] at hcd hhd hgd
          have HT := Lib.hid (fm_no (p := hdB zs) (g := lkd zs) hio hhd)
          have HDN2 := Lib.hid (HDN.out.skip HX.out hio hgd)
          clear hdi hhd hgd hdl hio
          go_wp2
          go_roundw
          case rel => exact ⟨i + 1, ds, by omega, by go_num, by rw [HT.out]; exact hO, hD, hJ, HDN2, hB⟩
          case measure => simp [intOf]; omega
      · obtain rfl : i = q := by omega
        have HE : Hid (((os.take i).filter (hdB zs)).map (lkd zs) = parI zs) := by show _ = _; rw [← HQ.out, List.take_of_length_le (Nat.le_refl _), HPI.out]
        obtain ⟨A9, c9, rfl⟩ := hO.slice
        go_wp2
        go_ret2
        exact ⟨_, rfl, by rw [← HE.out]; exact hO, hB⟩
end

/-! draw of ArrowObjects; the objects are as many as the charts that move no point to another one. -/
section
open Go.RowKit Go.Maps

theorem nums_nodup {l : List Int} (h : l.Nodup) : (nums l).length = l.length := by
  have h2 : (nums l).Nodup := (nums_asc l).imp (fun h => by omega)
  exact ((List.perm_ext_iff_of_nodup h2 h).2 (fun x => nums_mem l x)).length_eq
theorem map_nodup {zs : List (List Int)} {g : List Int → Int} (h : zs.Nodup) (hi : ∀ L ∈ zs, ∀ M ∈ zs, g L = g M → L = M) : (zs.map g).Nodup := by
  unfold List.Nodup at h ⊢
  rw [List.pairwise_map]
  exact List.Pairwise.imp_of_mem (fun hL hM hne e => hne (hi _ hL _ hM e)) h
theorem idem_dom {f g : List Int} (hf : isC f = true) (hg : isC g = true) (hif : idB f = true) (hig : idB g = true) (hl : f.length = g.length) (hd : doN f = doN g) : f = g := by
  refine ofL_ext (n := f.length) rfl hl.symm (fun j hj => ?_)
  have h1 := doN_bit hf j
  have h2 := doN_bit hg j
  rw [hd, h2] at h1
  have e1 := (idB_iff hf).1 hif j hj
  have e2 := (idB_iff hg).1 hig j (by omega)
  rcases e1 with e1 | e1 <;> rcases e2 with e2 | e2
  · rw [e1, e2]
  · exfalso
    rw [e1, e2, decide_eq_true (show j < g.length by omega), decide_eq_true (show j < f.length by omega), decide_eq_true (show (j : Int) ≠ -1 by omega)] at h1
    simp at h1
  · exfalso
    rw [e1, e2, decide_eq_true (show j < g.length by omega), decide_eq_true (show j < f.length by omega), decide_eq_true (show (j : Int) ≠ -1 by omega)] at h1
    simp at h1
  · rw [e1, e2]
theorem idem_at {f : List Int} (h : isC f = true) : doN (tiL f (tuL f)) = doN f ∧ idB (tiL f (tuL f)) = true := by
  obtain ⟨h1, _, h3⟩ := domain_law h
  obtain ⟨_, h5, h6⟩ := set_law h1
  rw [h3]
  exact ⟨by omega, h6⟩
theorem obj_len {zs : List (List Int)} (h : sgS zs = true) : (idL zs).length = (objI zs).length := by
  have S := sgS_iff.1 h
  have hI : idL zs = zs.filter idB := by unfold idL; rw [h]; rfl
  rw [objI_yes h, hI]
  have hn : ((zs.filter idB).map doI).Nodup := by
    refine map_nodup (List.Pairwise.filter _ (srt_nodup S.srt)) (fun L hL M hM e => ?_)
    obtain ⟨hL1, hL2⟩ := List.mem_filter.1 hL
    obtain ⟨hM1, hM2⟩ := List.mem_filter.1 hM
    have c1 := S.ch L hL1
    have c2 := S.ch M hM1
    unfold doI at e
    exact idem_dom c1.1 c2.1 hL2 hM2 (c1.2.trans c2.2.symm) (by omega)
  have e : nums (zs.map doI) = nums ((zs.filter idB).map doI) := by
    refine nums_is (nums_asc _) (fun x => ?_)
    rw [nums_mem, List.mem_map, List.mem_map]
    constructor
    · rintro ⟨L, hL, rfl⟩
      exact ⟨L, (List.mem_filter.1 hL).1, rfl⟩
    · rintro ⟨L, hL, rfl⟩
      obtain ⟨h1, h2⟩ := idem_at (S.ch L hL).1
      exact ⟨tiL L (tuL L), List.mem_filter.2 ⟨S.ti L hL _ (S.tu L hL), h2⟩, by unfold doI; rw [h1]⟩
  rw [e, nums_nodup hn, List.length_map]
theorem objI_up {zs : List (List Int)} {p k : Nat} (hk : p + 1 = k) (h : k < (objI zs).length) : ((objI zs)[p]?.getD 0) < ((objI zs)[k]?.getD 0) := by
  have ha : Asc (objI zs) := nums_asc _
  rw [List.getElem?_eq_getElem h, List.getElem?_eq_getElem (show p < (objI zs).length by omega)]
  exact List.pairwise_iff_getElem.1 ha p k (by omega) h (by omega)
theorem objI_one {zs : List (List Int)} (h : sgS zs = true) : 1 ≤ (objI zs).length := by
  have S := sgS_iff.1 h
  have hz := S.one
  obtain ⟨L, hL⟩ : ∃ L, L ∈ zs := ⟨_, ent_mem (show 0 < zs.length by omega)⟩
  have : doI L ∈ objI zs := by rw [objI_yes h, nums_mem]; exact List.mem_map.2 ⟨L, hL, rfl⟩
  exact List.length_pos_of_mem this
end

/-! draws of a semigroup and a point; the points to which a point is moved. -/
section
open Go.RowKit Go.Maps

theorem plc_mem {zs : List (List Int)} {p : Nat} (h : atOK zs (p : Int) = true) {x : Int} : x ∈ plcI zs (p : Int) ↔ ∃ L ∈ zs, ofL L p = x ∧ x ≠ -1 := by
  obtain ⟨hS, _, hp⟩ := atOK_iff.1 h
  have S := sgS_iff.1 hS
  have hL0 : ∀ L ∈ zs, isC L = true ∧ L.length = m0 zs := S.ch
  unfold plcI
  rw [nums_mem, List.mem_map]
  constructor
  · rintro ⟨L, hL, rfl⟩
    obtain ⟨_, _, _, hLz, hm⟩ := atLs_mem hL
    have hl := hL0 L hLz
    unfold mvB at hm
    rw [doN_bit hl.1, Bool.and_eq_true, decide_eq_true_eq, decide_eq_true_eq] at hm
    exact ⟨L, hLz, rfl, hm.2⟩
  · rintro ⟨L, hL, rfl, hx⟩
    have hl := hL0 L hL
    refine ⟨L, ?_, rfl⟩
    unfold atLs
    rw [h, if_pos rfl]
    refine List.mem_filter.2 ⟨hL, ?_⟩
    unfold mvB
    rw [doN_bit hl.1, Bool.and_eq_true, decide_eq_true_eq, decide_eq_true_eq]
    exact ⟨by rw [hl.2]; show p < m0 zs; omega, hx⟩
theorem mv_back {f : List Int} (h : isC f = true) {p q : Nat} (hp : p < f.length) (hq : q < f.length) (e : ofL f p = (q : Int)) : ofL (tuL f) q = (p : Int) := by
  rw [tuL_get h hq]
  exact (trn_iff (isC_CH h) hp hq).2 e
theorem mv_on {f g : List Int} (h : isP f g = true) {p q : Nat} (hp : p < f.length) (hq : q < f.length) (e : ofL f p = (q : Int)) : ofL (tiL f g) p = ofL g q := by
  rw [tiL_get h hp]
  unfold cmp
  rw [e, if_pos (by omega)]
  rfl
theorem plc_law {zs : List (List Int)} {p : Int} (h : atOK zs p = true) : (∀ q ∈ plcI zs p, atOK zs q = true ∧ plcI zs q = plcI zs p) ∧ (plcI zs p ≠ [] → p ∈ plcI zs p) := by
  obtain ⟨hS, h0, hp⟩ := atOK_iff.1 h
  obtain ⟨p, rfl⟩ : ∃ n : Nat, p = (n : Int) := ⟨p.toNat, by omega⟩
  have S := sgS_iff.1 hS
  have hL0 : ∀ L ∈ zs, isC L = true ∧ L.length = m0 zs := S.ch
  have hpm : p < m0 zs := by omega
  have hat : ∀ q : Nat, q < m0 zs → atOK zs (q : Int) = true := fun q hq => atOK_iff.2 ⟨hS, by omega, by omega⟩
  have key : ∀ x, x ∈ plcI zs (p : Int) → ∃ (q : Nat) (L : List Int), q < m0 zs ∧ L ∈ zs ∧ ofL L p = (q : Int) ∧ x = (q : Int) := fun x hx => by
    obtain ⟨L, hL, e, hne⟩ := (plc_mem h).1 hx
    have hl := hL0 L hL
    rcases plc_ent hl.1 (show p < L.length by omega) with e1 | ⟨q, hq, e1⟩
    · exact absurd (e.symm.trans e1) hne
    · exact ⟨q, L, by omega, hL, e1, by rw [← e, e1]⟩
  constructor
  · intro x hx
    obtain ⟨q, L, hq, hL, e, rfl⟩ := key x hx
    have hl := hL0 L hL
    have hb : ofL (tuL L) q = (p : Int) := mv_back hl.1 (by omega) (by omega) e
    have hT := S.tu L hL
    have hlT := hL0 _ hT
    refine ⟨hat q hq, asc_ext (nums_asc _) (nums_asc _) (fun y => ?_)⟩
    show y ∈ plcI zs (q : Int) ↔ y ∈ plcI zs (p : Int)
    rw [plc_mem (hat q hq), plc_mem h]
    constructor
    · rintro ⟨M, hM, e2, hne⟩
      have hm := hL0 M hM
      refine ⟨tiL L M, S.ti L hL M hM, ?_, hne⟩
      rw [mv_on (isP_of hl.1 hm.1 (hl.2.trans hm.2.symm)) (by omega) (by omega) e, e2]
    · rintro ⟨M, hM, e2, hne⟩
      have hm := hL0 M hM
      refine ⟨tiL (tuL L) M, S.ti _ hT M hM, ?_, hne⟩
      rw [mv_on (isP_of hlT.1 hm.1 (hlT.2.trans hm.2.symm)) (by omega) (by omega) hb, e2]
  · intro hne
    obtain ⟨x, hx⟩ := List.exists_mem_of_ne_nil _ hne
    obtain ⟨q, L, hq, hL, e, rfl⟩ := key x hx
    have hl := hL0 L hL
    have hb : ofL (tuL L) q = (p : Int) := mv_back hl.1 (by omega) (by omega) e
    have hT := S.tu L hL
    have hlT := hL0 _ hT
    refine (plc_mem h).2 ⟨tiL L (tuL L), S.ti L hL _ hT, ?_, by omega⟩
    rw [mv_on (isP_of hl.1 hlT.1 (hl.2.trans hlT.2.symm)) (by omega) (by omega) e, hb]
def DrwPt (w : World) (e : Ending) (w' : World) : Prop := ∃ (A : Option Addr) (n c : Nat) (zs : List (List Int)) (p : Int), e = .returned (.tuple #[.slice A n c, .int .i64 p]) ∧ RSS w' A n zs ∧ n ≤ 400 ∧ n ≤ c ∧ (∀ L ∈ zs, L.length ≤ 7) ∧ Below w.heap.size w w'
set_option maxHeartbeats 1000000 in
theorem drawGerm_any (A : Option Addr) (n c : Nat) (bs : Nat → Nat) (w : World) (h : Src w w.heap.size A n bs) (hnc : n ≤ c) (hn : n ≤ 1048576) :
    Calls Tryz.prog 24 #[.slice A n c] w (DrwPt w) := by
  go_enter Tryz.func24, Tryz.ntmps24
  go_wp2_with fail
  refine (open_any _ _ _ _ _ h hnc hn).mono ?_
  rintro e w1 ⟨R, rfl, hRl, hRs, hRd, hB⟩
  clear h
  go_wp2_with fail
  refine (l91Semi_any R 0 _ hRd (by omega)).mono ?_
  rintro e w2 ⟨A2, n2, c2, zs, p', rfl, hr, h4, hc2, h7, hg, hRd2, hp'⟩
  have HR := Lib.hid hr
  clear hr
  go_wp2_with fail
  refine (pick_any R p' 4 _ hRd2 (by omega) (by omega) (by omega)).mono ?_
  rintro e w3 ⟨z, rfl, hz, hRd3, hg3⟩
  go_wp2_with fail
  refine (pick_any R (p' + 1) 24 _ hRd3 (by omega) (by omega) (by omega)).mono ?_
  rintro e w4 ⟨y, rfl, hy, hRd4, hg4⟩
  have hg34 := gb_trans hg3 hg4
  have hB2 := below_gb hB (Nat.le_refl _) (gb_trans hg hg34) hRl
  have hR4 := HR.out _ hg34
  clear hRd hRd2 hRd3 hRd4 hg hg3 hg4 hg34
  go_wp2
  go_ret2
  exact ⟨_, _, _, zs, _, rfl, hR4, h4, hc2, h7, hB2⟩
theorem drawSgPlaces_any (A : Option Addr) (n c : Nat) (bs : Nat → Nat) (w : World) (h : Src w w.heap.size A n bs) (hnc : n ≤ c) (hn : n ≤ 1048576) :
    Calls Tryz.prog 28 #[.slice A n c] w (DrwPt w) := by
  go_enter Tryz.func28, Tryz.ntmps28
  go_wp2_with fail
  refine (drawGerm_any A n c bs w h hnc hn).mono ?_
  rintro e w2 ⟨A2, n2, c2, zs, p, rfl, hr⟩
  go_wp2
  go_ret2
  exact ⟨_, _, _, zs, p, rfl, hr⟩
end

/-! the charts from one object to another one: mathematics. -/
section
open Go.RowKit Go.Maps

theorem raN_idem {f : List Int} (h : isC f = true) (hi : idB f = true) : raN f = doN f := by rw [raN_tu h, (idem_law h hi).2.2]
theorem mul_one {f e : List Int} (h : isP f e = true) (hi : idB e = true) (hr : raN f = doN e) : tiL f e = f := by
  obtain ⟨hf, he, hl⟩ := isP_yes h
  refine ofL_ext (n := f.length) (tiL_len h) rfl (fun j hj => ?_)
  rcases plc_ent hf hj with e1 | ⟨q, hq, e1⟩
  · rw [tiL_get h hj, e1]
    unfold cmp
    rw [e1, if_neg (by omega)]
  · rw [mv_on h hj hq e1, e1]
    rcases (idB_iff he).1 hi q (by omega) with e2 | e2
    · exfalso
      have hb := mv_back hf hj hq e1
      have h1 := doN_bit (tuL_isC hf) q
      rw [← raN_tu hf, hr, doN_bit he, e2, hb, tuL_len hf, decide_eq_true hq, decide_eq_true (show (j : Int) ≠ -1 by omega)] at h1
      simp at h1
    · exact e2
theorem fr_mem {zs : List (List Int)} (hS : sgS zs = true) {a b : Int} {L : List Int} : L ∈ frL zs a b ↔ L ∈ zs ∧ doI L = a ∧ raI L = b := by
  unfold frL
  rw [sgl_yes hS, List.mem_filter]
  unfold btB
  rw [Bool.and_eq_true, decide_eq_true_eq, decide_eq_true_eq]
theorem fr_nodup {zs : List (List Int)} (hS : sgS zs = true) (a b : Int) : (frL zs a b).Nodup := by
  unfold frL
  rw [sgl_yes hS]
  exact List.Pairwise.filter _ (srt_nodup (sgS_iff.1 hS).srt)
theorem map_nodup2 {zs : List (List Int)} {g : List Int → List Int} (h : zs.Nodup) (hi : ∀ L ∈ zs, ∀ M ∈ zs, g L = g M → L = M) : (zs.map g).Nodup := by
  unfold List.Nodup at h ⊢
  rw [List.pairwise_map]
  exact List.Pairwise.imp_of_mem (fun hL hM hne e => hne (hi _ hL _ hM e)) h
theorem len_of_mem {l m : List (List Int)} (h1 : l.Nodup) (h2 : m.Nodup) (h : ∀ x, x ∈ l ↔ x ∈ m) : l.length = m.length := ((List.perm_ext_iff_of_nodup h1 h2).2 h).length_eq
theorem fr_back {zs : List (List Int)} (hS : sgS zs = true) (a b : Int) : (frL zs a b).length = (frL zs b a).length := by
  have S := sgS_iff.1 hS
  rw [← List.length_map (f := tuL)]
  refine len_of_mem (map_nodup2 (fr_nodup hS a b) (fun L hL M hM e => ?_)) (fr_nodup hS b a) (fun x => ?_)
  · have h1 := (S.ch L ((fr_mem hS).1 hL).1).1
    have h2 := (S.ch M ((fr_mem hS).1 hM).1).1
    rw [← tuL_tuL h1, ← tuL_tuL h2, e]
  · have tur : ∀ {u v : Int} {L : List Int}, L ∈ frL zs u v → tuL L ∈ frL zs v u := fun {u v L} hL => by
      obtain ⟨h1, h2, h3⟩ := (fr_mem hS).1 hL
      have c := (S.ch L h1).1
      refine (fr_mem hS).2 ⟨S.tu L h1, ?_, ?_⟩
      · unfold doI; rw [← raN_tu c]; exact h3
      · unfold raI; rw [raN_tu (tuL_isC c), tuL_tuL c]; exact h2
    rw [List.mem_map]
    constructor
    · rintro ⟨L, hL, rfl⟩; exact tur hL
    · intro hx
      exact ⟨tuL x, tur hx, tuL_tuL (S.ch x ((fr_mem hS).1 hx).1).1⟩
theorem fr_local {zs : List (List Int)} (hS : sgS zs = true) (a b : Int) (hne : frL zs a b ≠ []) : (frL zs a b).length = (frL zs a a).length := by
  have S := sgS_iff.1 hS
  obtain ⟨K, hK⟩ := List.exists_mem_of_ne_nil _ hne
  obtain ⟨k1, k2, k3⟩ := (fr_mem hS).1 hK
  have cK := S.ch K k1
  have kT := S.tu K k1
  have cT := S.ch _ kT
  have hKT : isP K (tuL K) = true := isP_of cK.1 cT.1 (cK.2.trans cT.2.symm)
  have hTK : isP (tuL K) K = true := isP_of cT.1 cK.1 (cT.2.trans cK.2.symm)
  have i1 := idem_at cK.1
  have i2 := idem_at cT.1
  rw [tuL_tuL cK.1] at i2
  have jo : ∀ {u v : Int} {L M : List Int}, L ∈ zs → M ∈ zs → doI L = u → raI M = v → raI L = doI M → tiL L M ∈ frL zs u v := fun {u v L M} hL hM h1 h2 h3 => by
    have cL := S.ch L hL
    have cM := S.ch M hM
    have hj : joB L M = true := joB_iff.2 ⟨isP_of cL.1 cM.1 (cL.2.trans cM.2.symm), by unfold doI raI at h3; omega⟩
    obtain ⟨_, _, _, _, h5, h6, h7⟩ := arrow_law hj
    refine (fr_mem hS).2 ⟨S.ti L hL M hM, ?_, ?_⟩
    · unfold doI; rw [h7, h5]; exact h1
    · unfold raI; rw [h7, h6]; exact h2
  have back : ∀ L, L ∈ frL zs a a → tiL (tiL L K) (tuL K) = L := fun L hL => by
    obtain ⟨h1, h2, h3⟩ := (fr_mem hS).1 hL
    have cL := S.ch L h1
    have hP := isP_of cL.1 cK.1 (cL.2.trans cK.2.symm)
    rw [(tiL_assoc hP hKT).2.2]
    have hI := S.ti K k1 _ kT
    have cI := S.ch _ hI
    exact mul_one (isP_of cL.1 cI.1 (cL.2.trans cI.2.symm)) i1.2 (by rw [i1.1]; unfold raI at h3; unfold doI at k2; omega)
  symm
  rw [← List.length_map (f := fun M => tiL M K)]
  refine len_of_mem (map_nodup2 (fr_nodup hS a a) (fun L hL M hM e => ?_)) (fr_nodup hS a b) (fun x => ?_)
  · rw [← back L hL, ← back M hM]
    have e : tiL L K = tiL M K := e
    rw [e]
  · rw [List.mem_map]
    constructor
    · rintro ⟨L, hL, rfl⟩
      obtain ⟨h1, h2, h3⟩ := (fr_mem hS).1 hL
      exact jo h1 k1 h2 k3 (by rw [h3, k2])
    · intro hx
      obtain ⟨h1, h2, h3⟩ := (fr_mem hS).1 hx
      have cx := S.ch x h1
      have dT : doI (tuL K) = b := by unfold doI; rw [← raN_tu cK.1]; exact k3
      have rT : raI (tuL K) = a := by unfold raI; rw [raN_tu cT.1, tuL_tuL cK.1]; exact k2
      refine ⟨tiL x (tuL K), jo h1 kT h2 rT (by rw [h3, dT]), ?_⟩
      show tiL (tiL x (tuL K)) K = x
      rw [(tiL_assoc (isP_of cx.1 cT.1 (cx.2.trans cT.2.symm)) hTK).2.2]
      have hI := S.ti _ kT K k1
      have cI := S.ch _ hI
      exact mul_one (isP_of cx.1 cI.1 (cx.2.trans cI.2.symm)) i2.2 (by rw [i2.1]; unfold raI at h3; unfold doI at dT; omega)
theorem one_only {l : List (List Int)} (hn : l.Nodup) (hne : l ≠ []) (he : ∀ L ∈ l, ∀ M ∈ l, L = M) : l.length = 1 := by
  match l, hn, hne, he with
  | [_], _, _, _ => rfl
  | x :: y :: r, hn, _, he =>
    exfalso
    have h1 := (List.nodup_cons.1 hn).1
    exact h1 (by rw [he x (by simp) y (by simp)]; simp)
theorem loc_group {zs : List (List Int)} (hS : sgS zs = true) {s : Int} (ho : obB zs s = true) : sgrB (frL zs s s) = true := by
  have S := sgS_iff.1 hS
  have h0 : ∃ E, E ∈ frL zs s s ∧ idB E = true := by
    unfold obB at ho
    rw [sgl_yes hS, List.any_eq_true] at ho
    obtain ⟨L, hL, h1⟩ := ho
    have h1 : doI L = s := of_decide_eq_true h1
    have c := (S.ch L hL).1
    obtain ⟨h2, h3⟩ := idem_at c
    have hI := S.ti L hL _ (S.tu L hL)
    refine ⟨tiL L (tuL L), (fr_mem hS).2 ⟨hI, ?_, ?_⟩, h3⟩
    · unfold doI; rw [h2]; exact h1
    · unfold raI; rw [raN_idem (S.ch _ hI).1 h3, h2]; exact h1
  obtain ⟨E, hE, hEi⟩ := h0
  have hl : 1 ≤ (frL zs s s).length := List.length_pos_of_mem hE
  have hmem : ∀ L ∈ frL zs s s, L ∈ zs := fun L hL => ((fr_mem hS).1 hL).1
  have hch : ∀ L ∈ frL zs s s, isC L = true ∧ L.length = (ent (frL zs s s) 0).length := fun L hL => by
    have c := S.ch L (hmem L hL)
    exact ⟨c.1, c.2.trans (S.ch _ (hmem _ (ent_mem (show 0 < (frL zs s s).length by omega)))).2.symm⟩
  have hsg : sgS (frL zs s s) = true := sgS_iff.2 {
    one := hl
    most := frL_len zs s s
    ch := hch
    srt := by
      rw [srt_pw]
      unfold frL
      rw [sgl_yes hS]
      exact List.Pairwise.filter _ (srt_pw.1 S.srt)
    tu := fun L hL => by
      obtain ⟨h1, h2, h3⟩ := (fr_mem hS).1 hL
      have c := (S.ch L h1).1
      refine (fr_mem hS).2 ⟨S.tu L h1, ?_, ?_⟩
      · unfold doI; rw [← raN_tu c]; exact h3
      · unfold raI; rw [raN_tu (tuL_isC c), tuL_tuL c]; exact h2
    ti := fun L hL M hM => by
      obtain ⟨h1, h2, h3⟩ := (fr_mem hS).1 hL
      obtain ⟨g1, g2, g3⟩ := (fr_mem hS).1 hM
      have cL := S.ch L h1
      have cM := S.ch M g1
      have hj : joB L M = true := joB_iff.2 ⟨isP_of cL.1 cM.1 (cL.2.trans cM.2.symm), by unfold raI at h3; unfold doI at g2; omega⟩
      obtain ⟨_, _, _, _, h5, h6, h7⟩ := arrow_law hj
      refine (fr_mem hS).2 ⟨S.ti L h1 M g1, ?_, ?_⟩
      · unfold doI; rw [h7, h5]; exact h2
      · unfold raI; rw [h7, h6]; exact g3 }
  unfold sgrB
  rw [hsg, Bool.true_and]
  refine decide_eq_true (one_only (List.Pairwise.filter _ (fr_nodup hS s s)) (List.ne_nil_of_mem (List.mem_filter.2 ⟨hE, hEi⟩)) (fun L hL M hM => ?_))
  obtain ⟨h1, h2⟩ := List.mem_filter.1 hL
  obtain ⟨g1, g2⟩ := List.mem_filter.1 hM
  have cL := hch L h1
  have cM := hch M g1
  have e1 := ((fr_mem hS).1 h1).2.1
  have e2 := ((fr_mem hS).1 g1).2.1
  unfold doI at e1 e2
  exact idem_dom cL.1 cM.1 h2 g2 (cL.2.trans cM.2.symm) (by omega)
end

/-! parts and local groups make all charts: mathematics. -/
section
open Go.RowKit Go.Maps

theorem len_split {α : Type} (p : α → Bool) : ∀ l : List α, l.length = (l.filter p).length + (l.filter (fun x => !p x)).length
  | [] => rfl
  | x :: l => by
    have h := len_split p l
    cases e : p x
    · rw [List.filter_cons_of_neg (by rw [e]; decide), List.filter_cons_of_pos (by rw [e]; rfl), List.length_cons, List.length_cons]; omega
    · rw [List.filter_cons_of_pos e, List.filter_cons_of_neg (by rw [e]; decide), List.length_cons, List.length_cons]; omega
theorem cnt_split {α : Type} (key : α → Int) : ∀ (ks : List Int) (l : List α), ks.Nodup → (∀ x ∈ l, key x ∈ ks) → l.length = (ks.map (fun k => (l.filter (fun x => decide (key x = k))).length)).sum
  | [], [], _, _ => rfl
  | [], x :: _, _, h => by have := h x (List.mem_cons_self ..); cases this
  | k :: ks, l, hn, h => by
    obtain ⟨h1, h2⟩ := List.nodup_cons.1 hn
    have ih := cnt_split key ks (l.filter (fun x => !decide (key x = k))) h2 (fun x hx => by
      obtain ⟨g1, g2⟩ := List.mem_filter.1 hx
      rcases List.mem_cons.1 (h x g1) with e | e
      · rw [decide_eq_true e] at g2; cases g2
      · exact e)
    rw [len_split (fun x => decide (key x = k)) l, List.map_cons, List.sum_cons, ih]
    congr 2
    refine List.map_congr_left (fun k' hk' => ?_)
    rw [List.filter_filter]
    congr 1
    refine List.filter_congr (fun x _ => ?_)
    by_cases e : key x = k'
    · have : key x ≠ k := fun e2 => h1 (by rw [← e2, e]; exact hk')
      rw [decide_eq_true e, decide_eq_false this]; rfl
    · rw [decide_eq_false e]; rfl
theorem sum_const {α : Type} (f : α → Nat) (c : Nat) : ∀ l : List α, (∀ x ∈ l, f x = c) → (l.map f).sum = l.length * c
  | [], _ => by simp
  | x :: l, h => by
    rw [List.map_cons, List.sum_cons, h x (List.mem_cons_self ..), sum_const f c l (fun y hy => h y (List.mem_cons_of_mem _ hy)), List.length_cons, Nat.succ_mul]; omega
def hdO (zs : List (List Int)) (a : Int) : Int := (lkd zs a)[0]?.getD 0
def hdP (P : List Int) : Int := P[0]?.getD 0
def prF (zs : List (List Int)) (P : List Int) : Nat := (frL zs (hdP P) (hdP P)).length * P.length * P.length
section
variable {zs : List (List Int)}
theorem lkd_mem (hS : sgS zs = true) {a b : Int} : b ∈ lkd zs a ↔ b ∈ objI zs ∧ rlB zs a b = true := by rw [lkd_is (sgS_iff.1 hS), ← objI_yes hS, List.mem_filter]
theorem lkd_same (hS : sgS zs = true) {a b : Int} (h : rlB zs a b = true) : lkd zs a = lkd zs b := by
  have S := sgS_iff.1 hS
  rw [lkd_is S, lkd_is S]
  refine List.filter_congr (fun x _ => ?_)
  cases e : rlB zs b x
  · cases e2 : rlB zs a x
    · rfl
    · rw [rlB_trans S (rlB_symm S h) e2] at e; cases e
  · exact rlB_trans S h e
theorem obj_refl (hS : sgS zs = true) {a : Int} (h : a ∈ objI zs) : rlB zs a a = true := by rw [objI_yes hS] at h; exact rlB_refl (sgS_iff.1 hS) h
theorem hdO_in (hS : sgS zs = true) {a : Int} (h : a ∈ objI zs) : hdO zs a ∈ lkd zs a := by
  have hm : a ∈ lkd zs a := (lkd_mem hS).2 ⟨h, obj_refl hS h⟩
  have hl := List.length_pos_of_mem hm
  unfold hdO
  rw [List.getElem?_eq_getElem hl]
  exact List.getElem_mem hl
theorem hdO_hd (hS : sgS zs = true) {a : Int} (h : a ∈ objI zs) : hdO zs a ∈ (objI zs).filter (hdB zs) := by
  obtain ⟨h1, h2⟩ := (lkd_mem hS).1 (hdO_in hS h)
  refine List.mem_filter.2 ⟨h1, ?_⟩
  unfold hdB
  rw [← lkd_same hS h2]
  exact decide_eq_true rfl
theorem hdO_iff (hS : sgS zs = true) {a h : Int} (ha : a ∈ objI zs) (hh : hdB zs h = true) : hdO zs a = h ↔ rlB zs h a = true := by
  have S := sgS_iff.1 hS
  constructor
  · rintro rfl
    exact rlB_symm S ((lkd_mem hS).1 (hdO_in hS ha)).2
  · intro e
    unfold hdO
    rw [← lkd_same hS e]
    exact of_decide_eq_true hh
theorem heads_nodup (zs : List (List Int)) : ((objI zs).filter (hdB zs)).Nodup := List.Pairwise.filter _ ((show Asc (objI zs) from nums_asc _).imp (fun h => by omega))
theorem lkd_nodup (zs : List (List Int)) (a : Int) : (lkd zs a).Nodup := (show Asc (lkd zs a) from nums_asc _).imp (fun h => by omega)
theorem doI_obj (hS : sgS zs = true) {L : List Int} (h : L ∈ zs) : doI L ∈ objI zs := by rw [objI_yes hS, nums_mem]; exact List.mem_map.2 ⟨L, h, rfl⟩
theorem raI_obj (hS : sgS zs = true) {L : List Int} (h : L ∈ zs) : raI L ∈ objI zs := by
  have S := sgS_iff.1 hS
  have : raI L = doI (tuL L) := by unfold doI raI; rw [raN_tu (S.ch L h).1]
  rw [this]; exact doI_obj hS (S.tu L h)
theorem obj_sum (hS : sgS zs = true) : ((parI zs).map List.length).sum = (objI zs).length := by
  rw [parI_yes hS, List.map_map, cnt_split (hdO zs) _ (objI zs) (heads_nodup zs) (fun x hx => hdO_hd hS hx)]
  congr 1
  refine List.map_congr_left (fun h hh => ?_)
  show (lkd zs h).length = _
  rw [lkd_is (sgS_iff.1 hS), ← objI_yes hS]
  congr 1
  refine List.filter_congr (fun a ha => ?_)
  have := hdO_iff hS ha (List.mem_filter.1 hh).2
  cases e : rlB zs h a
  · rw [decide_eq_false]; intro e2; rw [this.1 e2] at e; cases e
  · rw [decide_eq_true (this.2 e)]
theorem fr_const (hS : sgS zs = true) {h a b : Int} (h1 : rlB zs h a = true) (h2 : rlB zs h b = true) : (frL zs a b).length = (frL zs h h).length := by
  have S := sgS_iff.1 hS
  have ne : ∀ {x y : Int}, rlB zs x y = true → frL zs x y ≠ [] := fun {x y} e => by
    obtain ⟨L, hL, e1, e2⟩ := rlB_iff.1 e
    exact List.ne_nil_of_mem ((fr_mem hS).2 ⟨hL, e1, e2⟩)
  rw [fr_local hS a b (ne (rlB_trans S (rlB_symm S h1) h2)), ← fr_local hS a h (ne (rlB_symm S h1)), fr_back hS a h, fr_local hS h a (ne h1)]
theorem all_sum (hS : sgS zs = true) : ((parI zs).map (prF zs)).sum = zs.length := by
  have S := sgS_iff.1 hS
  rw [parI_yes hS, List.map_map, cnt_split (fun L => hdO zs (doI L)) _ zs (heads_nodup zs) (fun L hL => hdO_hd hS (doI_obj hS hL))]
  congr 1
  refine List.map_congr_left (fun h hh => ?_)
  obtain ⟨hho, hhd⟩ := List.mem_filter.1 hh
  have hp : hdP (lkd zs h) = h := of_decide_eq_true hhd
  show prF zs (lkd zs h) = (zs.filter (fun L => decide (hdO zs (doI L) = h))).length
  unfold prF
  rw [hp, cnt_split doI (lkd zs h) (zs.filter (fun L => decide (hdO zs (doI L) = h))) (lkd_nodup zs h) (fun L hL => by
    obtain ⟨h1, h2⟩ := List.mem_filter.1 hL
    exact (lkd_mem hS).2 ⟨doI_obj hS h1, (hdO_iff hS (doI_obj hS h1) hhd).1 (of_decide_eq_true h2)⟩)]
  rw [sum_const _ ((lkd zs h).length * (frL zs h h).length) (lkd zs h) (fun a ha => ?_)]
  · rw [Nat.mul_comm ((frL zs h h).length * (lkd zs h).length), Nat.mul_comm (frL zs h h).length]
  · obtain ⟨ha1, ha2⟩ := (lkd_mem hS).1 ha
    have e1 : (zs.filter (fun L => decide (hdO zs (doI L) = h))).filter (fun L => decide (doI L = a)) = zs.filter (fun L => decide (doI L = a)) := by
      rw [List.filter_filter]
      refine List.filter_congr (fun L _ => ?_)
      by_cases e : doI L = a
      · rw [decide_eq_true e, decide_eq_true (show hdO zs (doI L) = h by rw [e]; exact (hdO_iff hS ha1 hhd).2 ha2)]; rfl
      · rw [decide_eq_false e]; rfl
    rw [e1, cnt_split raI (lkd zs h) (zs.filter (fun L => decide (doI L = a))) (lkd_nodup zs h) (fun L hL => by
      obtain ⟨h1, h2⟩ := List.mem_filter.1 hL
      exact (lkd_mem hS).2 ⟨raI_obj hS h1, rlB_trans S ha2 (rlB_iff.2 ⟨L, h1, of_decide_eq_true h2, rfl⟩)⟩)]
    refine sum_const _ _ _ (fun b hb => ?_)
    obtain ⟨hb1, hb2⟩ := (lkd_mem hS).1 hb
    rw [← fr_const hS ha2 hb2]
    unfold frL
    rw [sgl_yes hS, List.filter_filter]
    congr 1
    refine List.filter_congr (fun L _ => ?_)
    unfold btB
    rw [Bool.and_comm]
theorem hdP_ob (hS : sgS zs = true) {P : List Int} (h : P ∈ parI zs) : obB zs (hdP P) = true ∧ 0 < P.length := by
  rw [parI_yes hS] at h
  obtain ⟨a, ha, rfl⟩ := List.mem_map.1 h
  obtain ⟨h1, h2⟩ := List.mem_filter.1 ha
  have hp : hdP (lkd zs a) = a := of_decide_eq_true h2
  exact ⟨by rw [hp]; exact obB_mem.2 h1, List.length_pos_of_mem ((lkd_mem hS).2 ⟨h1, obj_refl hS h1⟩)⟩
end
theorem sum_take {α : Type} (f : α → Nat) (l : List α) (k : Nat) : ((l.take k).map f).sum ≤ (l.map f).sum := by
  have := congrArg (fun l => (l.map f).sum) (List.take_append_drop k l)
  simp only [List.map_append, List.sum_append] at this
  omega
theorem sum_step {f : List Int → Nat} {Ls : List (List Int)} {k : Nat} (h : k < Ls.length) : ((Ls.take (k + 1)).map f).sum = ((Ls.take k).map f).sum + f (ent Ls k) := by
  have e : ent Ls k = Ls[k] := by unfold ent; rw [List.getElem?_eq_getElem h]; rfl
  rw [List.take_succ_eq_append_getElem h, List.map_append, List.sum_append, e]; simp
theorem drawSgParts_any (A : Option Addr) (n c : Nat) (bs : Nat → Nat) (w : World) (h : Src w w.heap.size A n bs) (hnc : n ≤ c) (hn : n ≤ 1048576) :
    Calls Tryz.prog 9 #[.slice A n c] w (DrwL w) := by
  go_enter Tryz.func9, Tryz.ntmps9
  go_wp2_with fail
  refine (l91Some_any A n c bs w h hnc hn).mono ?_
  rintro e w2 ⟨A2, n2, c2, zs, rfl, hr⟩
  go_wp2
  go_ret
  exact ⟨_, _, _, zs, rfl, hr⟩
end

end Go.Proofs.YtdipcjnnknggnaaGreatDoor
