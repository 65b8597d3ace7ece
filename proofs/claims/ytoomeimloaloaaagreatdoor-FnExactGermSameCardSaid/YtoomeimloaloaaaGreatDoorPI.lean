/-
  Ai.
-/
import Derived.Deep.AppendLies
import Derived.Test.YtoomeimloaloaaaGreatDoorPH
namespace Go.Proofs.YtoomeimloaloaaaGreatDoor
set_option maxRecDepth 100000
set_option linter.unusedVariables false
set_option linter.unusedSimpArgs false
set_option linter.unusedSectionVars false

/-! spec.l7Objects, ArrowObjects, l7Object. -/
section
open Go.RowKit Go.Maps

/-- which sets are domains of the first k charts -/
def hasB (zs : List (List Int)) (k v : Nat) : Bool := (zs.take k).any (fun L => decide (doN L = v))
def hasT (zs : List (List Int)) (k N : Nat) : List Bool := (List.range N).map (hasB zs k)
theorem hasT_len (zs : List (List Int)) (k N : Nat) : (hasT zs k N).length = N := by simp [hasT]
theorem hasT_get {zs : List (List Int)} {k N v : Nat} (hv : v < N) : (hasT zs k N)[v]? = some (hasB zs k v) := by
  unfold hasT; rw [List.getElem?_map, List.getElem?_eq_getElem (by simpa using hv), Option.map_some, List.getElem_range]
theorem hasT_zero (zs : List (List Int)) (N : Nat) : hasT zs 0 N = List.replicate N false := by
  apply List.ext_getElem?
  intro v
  rcases Nat.lt_or_ge v N with h | h
  · rw [hasT_get h, List.getElem?_replicate, if_pos h]; rfl
  · rw [List.getElem?_eq_none (by rw [hasT_len]; exact h), List.getElem?_eq_none (by simpa using h)]
theorem hasB_succ {zs : List (List Int)} {k v : Nat} {L : List Int} (hL : zs[k]? = some L) : hasB zs (k + 1) v = (hasB zs k v || decide (doN L = v)) := by
  unfold hasB; rw [List.take_add_one, hL, List.any_append]; simp
theorem hasT_set {zs : List (List Int)} {k N : Nat} {L : List Int} (hL : zs[k]? = some L) (hN : doN L < N) : (hasT zs k N).set (doN L) true = hasT zs (k + 1) N := by
  apply List.ext_getElem?
  intro v
  rcases Nat.lt_or_ge v N with h | h
  · rw [hasT_get h, hasB_succ hL]
    by_cases e : doN L = v
    · subst e; rw [List.getElem?_set_self (by rw [hasT_len]; exact h), decide_eq_true rfl, Bool.or_true]
    · rw [List.getElem?_set_ne e, hasT_get h, decide_eq_false e, Bool.or_false]
  · rw [List.getElem?_eq_none (by rw [List.length_set, hasT_len]; exact h), List.getElem?_eq_none (by rw [hasT_len]; exact h)]
def upB (p : Nat → Bool) (s : Nat) : List Int := ((List.range s).filter p).map (fun (v : Nat) => (v : Int))
theorem upB_no {p : Nat → Bool} {s : Nat} (h : p s = false) : upB p (s + 1) = upB p s := by unfold upB; rw [List.range_succ, List.filter_append]; simp [h]
theorem upB_yes {p : Nat → Bool} {s : Nat} (h : p s = true) : upB p s ++ [(s : Int)] = upB p (s + 1) := by unfold upB; rw [List.range_succ, List.filter_append]; simp [h]
theorem upB_len (p : Nat → Bool) (s : Nat) : (upB p s).length ≤ s := by unfold upB; rw [List.length_map]; exact Nat.le_trans (List.length_filter_le _ _) (by simp)
theorem upB_asc (p : Nat → Bool) (s : Nat) : Asc (upB p s) := by
  unfold upB Asc
  rw [List.pairwise_map]
  exact (List.Pairwise.filter p List.pairwise_lt_range).imp (fun h => by omega)
theorem upB_mem {p : Nat → Bool} {s : Nat} {x : Int} : x ∈ upB p s ↔ ∃ v : Nat, v < s ∧ p v = true ∧ x = (v : Int) := by
  unfold upB
  rw [List.mem_map]
  constructor
  · rintro ⟨v, hv, rfl⟩; rw [List.mem_filter, List.mem_range] at hv; exact ⟨v, hv.1, hv.2, rfl⟩
  · rintro ⟨v, h1, h2, rfl⟩; exact ⟨v, by rw [List.mem_filter, List.mem_range]; exact ⟨h1, h2⟩, rfl⟩
theorem upB_obj {zs : List (List Int)} {N : Nat} (hN : ∀ L ∈ zs, doN L < N) : upB (hasB zs zs.length) N = nums (zs.map doI) := by
  refine (nums_is (upB_asc _ _) (fun x => ?_)).symm
  rw [upB_mem, List.mem_map]
  constructor
  · rintro ⟨v, _, h, rfl⟩
    unfold hasB at h
    rw [List.take_length, List.any_eq_true] at h
    obtain ⟨L, hL, e⟩ := h
    exact ⟨L, hL, by rw [← of_decide_eq_true e]; rfl⟩
  · rintro ⟨L, hL, rfl⟩
    exact ⟨doN L, hN L hL, by unfold hasB; rw [List.take_length, List.any_eq_true]; exact ⟨L, hL, decide_eq_true rfl⟩, rfl⟩
theorem l1Do_any (A : Option Addr) (n c : Nat) (L : List Int) (w : World) (h : RI w A n L) (hC : isC L = true) :
    Calls Tryz.prog 68 #[.slice A n c] w fun e w' => e = .returned (.int .i64 (doN L : Nat)) ∧ w' = w := by
  obtain rfl := h.len
  rw [doN_dom hC]
  refine (l1Domain_any _ _ _ _ _ h (isC_len hC).2 (isC_ent hC)).mono ?_
  rintro e w' ⟨rfl, rfl⟩
  exact ⟨rfl, rfl⟩
set_option maxHeartbeats 2000000 in
theorem l7Obj_any (A : Option Addr) (n c : Nat) (zs : List (List Int)) (w : World) (h : RSS w A n zs) (hS : Sg zs) :
    Calls Tryz.prog 39 #[.slice A n c] w fun e w' => ∃ v, e = .returned v ∧ NewL w (nums (zs.map doI)) v w' := by
  obtain ⟨i0, hi, hz0, hz1, hz2⟩ := info_parts info_int
  obtain ⟨j0, hj, hy0, hy1, hy2⟩ := info_parts info_bool
  have HL := Lib.hid h.len
  have HS := Lib.hid hS
  have HH := Lib.hid h
  have hm1 : 0 < n := by have := hS.one; have := HL.out; omega
  have hn4 : n ≤ 400 := by have := hS.most; have := HL.out; omega
  have hm6 : m0 zs ≤ 6 := by have := hS.ch _ (ent_mem (show 0 < zs.length by have := HL.out; omega)); have := (isC_len this.1).2; exact this
  obtain ⟨hp1, hp2, hp3⟩ := one_shl (m0 zs) hm6
  obtain ⟨ad, A0, c0, rfl, hab, hc0, hr0⟩ := h.at_ hm1
  replace hc0 : w.cell? (ad.add 0) = some (.slice A0 (m0 zs) c0) := hc0
  have hc0' : w.cell? ad = some (.slice A0 (m0 zs) c0) := by rw [add_zero_] at hc0; exact hc0
  have HDN : Hid (∀ L ∈ zs, doN L < 2 ^ m0 zs) := fun L hL => by have := hS.ch L hL; rw [show m0 zs = L.length from this.2.symm]; exact doN_lt this.1
  have HP1 := Lib.hid hp1
  clear h hS hr0 hp1
  generalize hN : 2 ^ m0 zs = N at *
  have hb8 : j0.bytes * N ≤ 281474976710656 := by rw [hy2]; omega
  have hmx : N ≤ maxLen := by unfold maxLen; omega
  go_enter Tryz.func39, Tryz.ntmps39
  have hpw := HP1.out
  go_wp2_with (at_make; refine wpList_make_full _ rfl _ _ _ rfl w.heap.size 4 j0 _ 1 Tryz.underlying51 hj hy0 hy1 _ _ _ _ N rfl rfl hpw hpw hb8 hmx (Nat.le_refl _) ?_; intro w1 hown hg)
  have HB1 : Hid (Below w.heap.size w w1) := (Below.refl _ _).grown hg (Nat.le_refl _) (fun k e => by cases e)
  have HR1 : Hid (w1.ownsRow w.heap.size 4 1 (.slice (some ⟨w.heap.size, 0, none⟩) N N) N (bvs (hasT zs 0 N))) := by
    have e : (madeCells (Value.bool false).cells (N * 1)).toList = bvs (hasT zs 0 N) := by
      rw [hasT_zero]
      show (madeCells #[Value.bool false] (N * 1)).toList = _
      rw [toList_madeCells_one]; simp [bvs]
    show World.ownsRow _ _ _ _ _ _ _
    rw [← e]; exact hown
  clear hown hg hb8 hmx hc0 hc0' hj hy0 hy1 hy2 hpw
  go_loopw [4] (fun i wr => ∃ k : Nat, k ≤ n ∧ i = .int .i64 (k : Int) ∧ Hid (wr.ownsRow w.heap.size 4 1 (.slice (some ⟨w.heap.size, 0, none⟩) N N) N (bvs (hasT zs k N))) ∧ Hid (Below w.heap.size w wr)) (fun i _ => n - (intOf i).toNat)
  case atStart => exact ⟨0, Nat.zero_le _, rfl, HR1.out, HB1.out⟩
  case round =>
    clear HR1 HB1
    obtain ⟨k, hk, rfl, HR, HB⟩ := hrel
    by_cases hlt : k < n
    · have hkl : k < zs.length := by have := HL.out; omega
      obtain ⟨ad', Ai, ci, he, hab', hc, hri⟩ := (HH.out.below HB.out).at_ hlt
      obtain rfl := Option.some.inj he
      have hent : zs[k]?.getD [] = ent zs k := rfl
      rw [hent] at hc hri
      have hLm := ent_mem hkl
      have hLz := HS.out.ch _ hLm
      have hdN := HDN.out _ hLm
      have hdi : ((doN (ent zs k) : Nat) : Int) < (N : Int) := by omega
      have hd0 : (0 : Int) ≤ ((doN (ent zs k) : Nat) : Int) := by omega
      have HT := Lib.hid (hasT_set (N := N) (show zs[k]? = some (ent zs k) by unfold ent; rw [List.getElem?_eq_getElem hkl]; rfl) hdN)
      have ho := HR.out.cellAt (doN (ent zs k)) (by omega)
      obtain ⟨u, hu⟩ : ∃ u, (bvs (hasT zs k N))[doN (ent zs k)]? = some u := ⟨_, List.getElem?_eq_getElem (by unfold bvs; rw [List.length_map, hasT_len]; exact hdN)⟩
      rw [hu] at ho
      have hf := HR.out.frozenAt (doN (ent zs k))
      have hlen := (HR.out.lt w.heap.size rfl).2
      have hst := (HR.out.stored (doN (ent zs k)) (.bool true)).1
      have hse : (bvs (hasT zs k N)).set (doN (ent zs k)) (.bool true) = bvs (hasT zs (k + 1) N) := by rw [← HT.out]; unfold bvs; rw [← List.map_set]
      rw [hse] at hst
      have HST := Lib.hid hst
      have HB2 := Lib.hid (HB.out.setCell (p := ⟨w.heap.size, doN (ent zs k), none⟩) (Nat.le_refl _) (.bool true))
      have hD := l1Do_any Ai _ ci (ent zs k) wr hri hLz.1
      clear hst hse hu hri hent he hLm hLz
      generalize doN (ent zs k) = dk at *
      go_wp2_with fail
      refine hD.mono ?_
      rintro e w2 ⟨rfl, rfl⟩
      clear hD
      go_wp2
      go_roundw
      case rel => exact ⟨k + 1, by omega, by go_num, HST, HB2⟩
      case measure => simp [intOf]; omega
    · obtain rfl : k = n := by omega
      have HO : Hid (upB (hasB zs zs.length) N = nums (zs.map doI)) := upB_obj HDN.out
      have hkz : zs.length = k := HL.out
      rw [hkz] at HO
      have hs := HB.out.size
      have hlr := (HR.out.lt w.heap.size rfl).2
      have HR2 := Lib.hid (HR.out.alloc (.cells #[] 3))
      have HB2 := Lib.hid (HB.out.alloc hs (.cells #[] 3))
      have HL0 := Lib.hid (own_base (own_lit0 wr) hs)
      clear HR HB hkz
      go_wp2
      go_loopw [5, 6] (fun v i wy => ∃ s : Nat, s ≤ N ∧ i = .int .i64 (s : Int) ∧ Hid (wy.ownsRow w.heap.size 3 1 v (upB (hasB zs k) s).length (ivs (upB (hasB zs k) s))) ∧ Hid (wy.ownsRow w.heap.size 4 1 (.slice (some ⟨w.heap.size, 0, none⟩) N N) N (bvs (hasT zs k N))) ∧ Hid (v.ownBlock ≠ some w.heap.size) ∧ Hid (Below w.heap.size w wy)) (fun _ i _ => N - (intOf i).toNat)
      case atStart => exact ⟨0, Nat.zero_le _, rfl, HL0.out, HR2.out, by show _ ≠ _; simp [Value.ownBlock]; omega, HB2.out⟩
      case round =>
        clear HR2 HB2 HL0
        obtain ⟨s, hsN, rfl, HV, HR, HNE, HB⟩ := hrel
        by_cases hls : s < N
        · have ho := HR.out.cellAt s (by omega)
          unfold bvs at ho
          rw [List.getElem?_map, hasT_get hls] at ho
          replace ho : wr.cell? ⟨w.heap.size, s, none⟩ = some (.bool (hasB zs k s)) := ho
          have hsi : (s : Int) < (N : Int) := by omega
          cases hb : hasB zs k s
          · have HU := Lib.hid (upB_no hb)
            rw [hb] at ho
            clear hb
            go_wp2
            go_roundw
            case rel => exact ⟨s + 1, by omega, by go_num, by rw [HU.out]; exact HV, HR, HNE, HB⟩
            case measure => simp [intOf]; omega
          · have HU := Lib.hid (upB_yes hb)
            rw [hb] at ho
            have hlen := upB_len (hasB zs k) s
            clear hb
            have p1 : (upB (hasB zs k) s).length + 1 ≤ maxLen := by unfold maxLen; omega
            have p2 : ((upB (hasB zs k) s).length + 1) * 8 ≤ 140737488355328 := by omega
            have p3 : w.heap.size ≤ (wr.alloc (.cells #[.int .i64 (s : Int)] 3)).heap.size := by have := HB.out.size; simp; omega
            have hV1 := HV.out.alloc (.cells #[.int .i64 (s : Int)] 3)
            have hR1 := HR.out.alloc (.cells #[.int .i64 (s : Int)] 3)
            have HUL : Hid ((upB (hasB zs k) (s + 1)).length = (upB (hasB zs k) s).length + 1) := by show _ = _; rw [← HU.out, List.length_append]; rfl
            go_wp2_with (at_builtin; refine wpList_append_lies _ rfl _ _ _ rfl w.heap.size 3 i0 (.int .i64 0) 1 8 Tryz.underlying24 hi hz0 hz1 hz2 rfl (by decide) u5 (upB (hasB zs k) s).length (ivs (upB (hasB zs k) s)) rfl hV1 ⟨wr.heap.size, 0, none⟩ 1 1 [.int .i64 (s : Int)] rfl rfl (cell_one_new _ _ _) (by simp [Value.oneCell']) (by decide) p1 p2 p3 (wr.heap.size + 1) (by simp) ?_; intro g7 c7 w7 hown7 hgrow7 hat7 hlt7)
            have HR7 := Lib.hid (hR1.kept hgrow7 (.inr (fun e => HNE.out e.symm)))
            have HN7 : Hid ((Value.slice (some ⟨g7, 0, none⟩) ((upB (hasB zs k) s).length + 1) c7).ownBlock ≠ some w.heap.size) := by
              show _ ≠ _
              intro e
              have e : some g7 = some w.heap.size := e
              injection e with e
              rcases hat7 with h' | h'
              · exact HNE.out (by rw [h', e])
              · have := HB.out.size; have := (HR.out.lt w.heap.size rfl).2; (try simp at h'); omega
            have HB7 := Lib.hid ((HB.out.alloc HB.out.size (.cells #[.int .i64 (s : Int)] 3)).grown hgrow7 p3 (fun g e => (hV1.lt g e).1))
            have HV7 : Hid (w7.ownsRow w.heap.size 3 1 (.slice (some ⟨g7, 0, none⟩) ((upB (hasB zs k) s).length + 1) c7) (upB (hasB zs k) (s + 1)).length (ivs (upB (hasB zs k) (s + 1)))) := by
              show World.ownsRow _ _ _ _ _ _ _
              rw [HUL.out, ← HU.out, ← ivs_snoc]; exact hown7
            clear hown7 hgrow7 hat7 hV1 hR1
            go_roundw
            case rel => exact ⟨s + 1, by omega, by go_num, HV7, HR7, HN7, HB7⟩
            case measure => simp [intOf]; omega
        · obtain rfl : s = N := by omega
          rw [HO.out] at HV
          go_wp2
          go_ret
          exact ⟨_, rfl, HV.out, HB.out⟩
theorem sgl_yes {zs : List (List Int)} (h : sgS zs = true) : sgl zs = zs := if_pos h
theorem sgl_no {zs : List (List Int)} (h : sgS zs = false) : sgl zs = [] := by unfold sgl; rw [h]; rfl
theorem objI_yes {zs : List (List Int)} (h : sgS zs = true) : objI zs = nums (zs.map doI) := by unfold objI; rw [sgl_yes h]
theorem objI_no {zs : List (List Int)} (h : sgS zs = false) : objI zs = [] := by unfold objI; rw [sgl_no h]; exact nums_nil
theorem objI_len (zs : List (List Int)) : (objI zs).length ≤ 400 := Nat.le_trans (nums_len _) (by rw [List.length_map]; exact sgl_len zs)
theorem obB_mem {zs : List (List Int)} {a : Int} : obB zs a = true ↔ a ∈ objI zs := by
  unfold obB objI
  rw [nums_mem, List.any_eq_true, List.mem_map]
  constructor
  · rintro ⟨L, hL, h⟩; exact ⟨L, hL, of_decide_eq_true h⟩
  · rintro ⟨L, hL, h⟩; exact ⟨L, hL, decide_eq_true h⟩
set_option maxHeartbeats 400000 in
theorem specObj_any (A : Option Addr) (n c : Nat) (zs : List (List Int)) (w : World) (h : RSS w A n zs) (hn : n ≤ 1048576) (hl : ∀ L ∈ zs, L.length ≤ 1048576) :
    Calls Tryz.prog 12 #[.slice A n c] w fun e w' => ∃ v, e = .returned (.tuple #[v, .bool (sgS zs)]) ∧ NewL w (objI zs) v w' := by
  have hsg := specSg_any A n c zs w h hn hl
  cases hS : sgS zs
  · have HO := Lib.hid (objI_no hS)
    have HS := Lib.hid hS
    rw [hS] at hsg
    clear hS
    go_enter Tryz.func12, Tryz.ntmps12
    go_wp2_with fail
    refine hsg.mono ?_
    rintro e w1 ⟨rfl, hb⟩
    have hB := hb.alloc hb.size (.cells #[] 3)
    have hr := own_base (own_lit0 w1) hb.size
    clear hsg
    go_wp2
    go_ret2
    exact ⟨_, rfl, by rw [HO.out]; exact hr, by rw [HO.out] at *; exact hB⟩
  · have HO := Lib.hid (objI_yes hS)
    have hX := sgS_iff.1 hS
    rw [hS] at hsg
    clear hS
    go_enter Tryz.func12, Tryz.ntmps12
    go_wp2_with fail
    refine hsg.mono ?_
    rintro e w1 ⟨rfl, hb⟩
    have hO := l7Obj_any A n c zs w1 (h.below hb) hX
    rw [← HO.out] at hO
    clear hsg h
    go_wp2_with fail
    refine hO.mono ?_
    rintro e w2 ⟨v, rfl, ho, hb2⟩
    have hs := hb.size
    have hB := hb.trans (hb2.mono hs)
    clear hO hb hb2
    go_wp2
    go_ret2
    exact ⟨_, rfl, own_base ho hs, hB⟩
end

end Go.Proofs.YtoomeimloaloaaaGreatDoor
