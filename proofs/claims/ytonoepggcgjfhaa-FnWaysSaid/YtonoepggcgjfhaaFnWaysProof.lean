/-
  FnWays: for every input the law returns true and leaves its arguments as they were. No condition.
-/
import Derived.Test.YtonoepggcgjfhaaRows
import Derived.Test.YtonoepggcgjfhaaMF
import Derived.Test.YtonoepggcgjfhaaMR
import Derived.Test.YtonoepggcgjfhaaMT
import Derived.WalkKit
import Derived.Deep.QuietTactic
import Derived.BigQuiet
import Derived.Outline
import Derived.ProofKit
import Derived.OpenShut
import Derived.ShutString
import Derived.ChangeOld
import Derived.Below
namespace Go.Proofs.Ytonoepggcgjfhaa.fnWays
set_option maxRecDepth 100000
open Go.ChangeShapes Go.WideShapes Go.ChangeAt Go.RowKit
open Go.ChangeMaps (open_string shut_string)
set_option linter.unusedVariables false

theorem own : ownKnob Try.prog.godebug = none := by kernel_rfl
theorem laidOut : laidOutB Try.prog = true := by kernel_rfl

/-- WHAT THE WALK IS TOLD OF A SLICE OF INTEGERS THAT CAME IN: it is nil; or it leads to a row of 'cap' cells, the numbers 'zs' (the first 'len' are its elements, the rest its spare room), each fitting its kind. -/
def IsRow (k : IntKind) (w : World) (a : Option Addr) (len cap : Nat) (zs : List Int) : Prop :=
  (a = none ∧ len = 0 ∧ cap = 0 ∧ zs = []) ∨
  ∃ x, a = some x ∧ len ≤ cap ∧ cap ≤ maxLen ∧ zs.length = cap ∧ (∀ i, i < zs.length → w.cell? (x.add i) = some (.int k (zs.getD i 0))) ∧ ∀ n ∈ zs, (Lit.int k n).wf = true

theorem src_of {w : World} {a : Option Addr} {len cap : Nat} {zs : List Int} (h : IsRow .u8 w a len cap zs) : ∃ bs : Nat → Nat, Src w w.heap.size a len bs ∧ len ≤ cap := by
  rcases h with ⟨rfl, rfl, rfl, rfl⟩ | ⟨x, rfl, hlc, _, hz, hc, hw⟩
  · exact ⟨fun _ => 0, ⟨fun _ => (by decide : (0 : Nat) < 256), fun j hj => absurd hj (by omega)⟩, Nat.le_refl _⟩
  · have hr : ∀ j, 0 ≤ zs.getD j 0 ∧ zs.getD j 0 < 256 := fun j => by
      rcases Nat.lt_or_ge j zs.length with h | h
      · have := hw zs[j] (List.getElem_mem h)
        rw [List.getD_eq_getElem?_getD, List.getElem?_eq_getElem h]
        simp [Lit.wf] at this
        have h0 : IntKind.u8.min = 0 := by decide
        have h1 : IntKind.u8.max = 255 := by decide
        rw [h0, h1] at this
        simp
        omega
      · rw [List.getD_eq_getElem?_getD, List.getElem?_eq_none h]; simp
    refine ⟨fun j => (zs.getD j 0).toNat, ⟨fun j => by have := hr j; show (zs.getD j 0).toNat < 256; omega, fun j hj => ⟨x, rfl, ?_, ?_⟩⟩, hlc⟩
    · have := block_lt_of_cell (hc 0 (by omega)); rwa [block_of_add] at this
    · rw [hc j (by omega), Int.toNat_of_nonneg (hr j).1]

/-! ### STEP 1: THE WALK: the Go text returns true, AND WRITES NOTHING THAT WAS THERE: 'Below w.heap.size w w'' (Derived/Below.lean: '.refl', '.alloc', '.drew', '.setCell' at a new block, '.trans'). Open each 'IsRow' by 'rcases' AHEAD of 'go_enter'; part every test ahead of the walk. -/
set_option maxHeartbeats 4000000 in
theorem walk (a0 : Option Addr) (len0 cap0 : Nat) (z0 : List Int) (w : World) (w0 : IsRow .u8 w a0 len0 cap0 z0) :
    Calls Try.prog 4 #[.slice a0 len0 cap0] w fun e w' => e = .returned (.bool true) ∧ Below w.heap.size w w' := by
  obtain ⟨bs, hS, hlc⟩ := src_of w0
  clear w0
  by_cases hbig : 1048576 < len0
  · go_enter Try.func4, Try.ntmps4
    go_wp2
    go_ret
    exact ⟨rfl, Below.refl _ _⟩
  obtain ⟨i1, hj, hj0, hj1, hj2⟩ := info_parts info_ints
  go_enter Try.func4, Try.ntmps4
  go_wp2_with fail
  refine (drawWays_any _ _ _ _ _ hS hlc (by omega)).mono ?_
  rintro e W1 ⟨v, rfl, f, hf, oF, hbel⟩
  obtain ⟨A_F, c_F, rfl⟩ := own_slice oF
  clear hS
  have hs1 := hbel.size
  have hR := waysL_le f
  have hR1 := hR.1
  have HRL := Lib.hid hR.2.2
  clear hR
  go_wp2_with fail
  refine (implWays_any _ _ _ _ _ (RI.of_own oF) (by omega)).mono ?_
  rintro e W2 ⟨v_, rfl, oO, b⟩
  obtain ⟨A_O, n_O, c_O, rfl, hn_O⟩ := oO.form_
  have hb_O : n_O ≤ 12 := by omega
  have HNO := Lib.hid hn_O
  replace oF := own_below oF b
  replace hbel := hbel.trans (b.mono hbel.size)
  have hs2 := b.size
  clear b hn_O
  go_wp2_with fail
  refine (specWays_any _ _ _ _ _ (RI.of_own oF) (by omega)).mono ?_
  rintro e W3 ⟨v_, rfl, oW, b⟩
  obtain ⟨A_W, n_W, c_W, rfl, hn_W⟩ := oW.form_
  replace oF := own_below oF b
  replace oO := oO.below b
  replace hbel := hbel.trans (b.mono hbel.size)
  have hs3 := b.size
  clear b hn_W
  cases hP : isC f
  · go_wp2_with fail
    refine (sameRows_any _ _ _ _ _ _ _ _ _ (rss_oss_ oO) (rss_oss_ oW) (by omega) HRL.out).mono ?_
    rintro e W4 ⟨rfl, b⟩
    replace oO := oO.below b
    replace oW := oW.below b
    replace hbel := hbel.trans (b.mono hbel.size)
    clear b
    go_wp2_with fail
    refine (sameRows_any _ _ _ _ _ _ _ _ _ (rss_oss_ oO) (rss_oss_ oW) (by omega) HRL.out).mono ?_
    rintro e W5 ⟨rfl, b⟩
    replace hbel := hbel.trans (b.mono hbel.size)
    clear b
    go_wp2
    go_ret
    exact ⟨rfl, hbel⟩
  · have HX := Lib.hid (ways_law hP)
    have HSP := Lib.hid (ways_split hP)
    clear hP
    go_wp2_with fail
    refine (sameRows_any _ _ _ _ _ _ _ _ _ (rss_oss_ oO) (rss_oss_ oW) (by omega) HRL.out).mono ?_
    rintro e W4 ⟨rfl, b⟩
    replace oF := own_below oF b
    replace oO := oO.below b
    replace hbel := hbel.trans (b.mono hbel.size)
    have hs4 := b.size
    clear b oW
    have HWL : Hid (waysL f = chainsL f ++ cyclesL f) := rfl
    rw [HWL.out] at oO HRL HNO hR1
    generalize chainsL f = Cs at *
    generalize cyclesL f = Ys at *
    clear HWL
    obtain ⟨vs, o1, o2, o3⟩ := oO
    have HO1 := Lib.hid o1
    have HO3 := Lib.hid o3
    have HOF := Lib.hid oF
    have hvl := o3.len
    have hST := WS.start W4 vs Cs.length
    clear o1 o2 o3 oF
    go_wp2
    go_loopw [8, 9, 10] (fun v1 v2 i wr => ∃ t : Nat, t ≤ n_O ∧ i = .int .i64 (t : Int) ∧ WS W4 wr vs Cs.length t v1 v2) (fun _ _ i _ => n_O - (intOf i).toNat)
    case atStart => exact ⟨0, Nat.zero_le _, rfl, hST⟩
    case round =>
      clear hST
      obtain ⟨t, ht, rfl, h⟩ := hrel
      have hW := h.bel
      have hws := hW.size
      by_cases hlt : t < n_O
      · have htl : t < (Cs ++ Ys).length := by rw [← HNO.out]; exact hlt
        obtain ⟨x, hx⟩ : ∃ x, vs[t]? = some x := ⟨_, List.getElem?_eq_getElem (by omega)⟩
        obtain ⟨L, hL⟩ : ∃ L, (Cs ++ Ys)[t]? = some L := ⟨_, List.getElem?_eq_getElem htl⟩
        have oL := (HO3.out.below hW).own t x L hx hL
        obtain ⟨A_L, c_L, rfl⟩ := oL.slice
        have o1' := own_below HO1.out hW
        obtain ⟨g, rfl⟩ : ∃ g, A_O = some ⟨g, 0, none⟩ := by
          rcases o1'.2 with ⟨_, h0⟩ | ⟨g, cap, cur, h1, _⟩
          · omega
          · cases h1; exact ⟨_, rfl⟩
        have ea : ∀ j, (⟨g, 0, none⟩ : Addr).add j = ⟨g, j, none⟩ := fun j => by unfold Addr.add; split <;> simp_all
        have c0 := o1'.cells (g := g) rfl t _ hx
        rw [ea] at c0
        have rL := RI.of_own oL.1
        have rF := RI.of_own (own_below HOF.out hW)
        have hd : ∃ q : Bool, (L ≠ [] ∧ 0 ≤ lastI L ∧ lastI L < f.length ∧ (ofL f (lastI L).toNat == headI L) = q) ∧ q = decide (Cs.length ≤ t) := by
          by_cases hc : t < Cs.length
          · rw [List.getElem?_append_left hc] at hL
            have hm := HSP.out.1 L (List.mem_of_getElem? hL)
            exact ⟨false, ⟨hm.1, hm.2.1, hm.2.2.1, by simpa using hm.2.2.2⟩, by simp; omega⟩
          · rw [List.getElem?_append_right (by omega)] at hL
            have hm := HSP.out.2 L (List.mem_of_getElem? hL)
            exact ⟨true, ⟨hm.1, hm.2.1, hm.2.2.1, by simpa using hm.2.2.2⟩, by simp; omega⟩
        obtain ⟨q, ⟨hne, hl0, hl1, hq⟩, hqd⟩ := hd
        obtain ⟨p, hp⟩ : ∃ p, L.length = p + 1 := ⟨L.length - 1, by have := List.length_pos_iff.2 hne; omega⟩
        have hlast := lastI_get hne
        have hhead := headI_get L
        obtain ⟨z, hz⟩ := Int.eq_ofNat_of_zero_le hl0
        obtain ⟨ad, rfl, hab, cl⟩ := rL.at_ (k := p) (by omega)
        obtain ⟨ad', he, hab', ch⟩ := rL.at_ (k := 0) (by omega)
        obtain rfl := Option.some.inj he
        obtain ⟨ad2, rfl, hab2, cf⟩ := rF.at_ (k := z) (by omega)
        rw [show L[p]?.getD 0 = (z : Int) by rw [← hz, ← hlast, hp]; rfl] at cl
        rw [hhead] at ch
        have hfz : f[z]?.getD 0 = ofL f (lastI L).toNat := by rw [hz, Int.toNat_natCast]; rfl
        rw [hfz] at cf
        have hLl : L.length ≤ 1048576 := HRL.out L (List.mem_of_getElem? hL)
        have HX1 := Lib.hid hx
        have HQD := Lib.hid hqd
        have hzf : (z : Int) < (f.length : Int) := by omega
        have hpq : (L.length : Int) - 1 = (p : Int) := by omega
        have hpl : (p : Int) < (L.length : Int) := by omega
        have h0l : (0 : Int) < (L.length : Int) := by omega
        have h0n : 0 < L.length := by omega
        have hp6 : p ≤ 1048576 := by omega
        have hz6 : z ≤ 1048576 := by omega
        have hw1 := (wrap_small hp6).1
        have hw2 := (wrap_small hp6).2
        generalize ofL f (lastI L).toNat = y1 at *
        generalize headI L = y2 at *
        have had0 : ad.add 0 = ad := by unfold Addr.add; split <;> simp_all
        have ch2 : wr.cell? ad = some (.int .i64 y2) := by rw [had0] at ch; exact ch
        clear had0
        have hbd : Below wr.heap.size wr wr.drew := ⟨rfl, rfl, rfl, Nat.le_refl _, fun _ _ => rfl⟩
        clear hx hqd hl0 hl1 hlast hhead hz rL rF oL o1' ea hL hfz he hp
        have HWS := Lib.hid h
        have q1 : min t Cs.length + 1 ≤ maxLen := by unfold maxLen; omega
        have q2 : (min t Cs.length + 1) * 24 ≤ 140737488355328 := by omega
        have q3 : t - Cs.length + 1 ≤ maxLen := by unfold maxLen; omega
        have q4 : (t - Cs.length + 1) * 24 ≤ 140737488355328 := by omega
        clear h
        have hws2 := Lib.hid hws
        have HR1 := Lib.hid hR1
        have q5 : ∀ o : Obj, W4.heap.size ≤ (wr.drew.alloc o).heap.size := fun o => by simp; omega
        have HWD : Hid (WS W4 wr.drew vs Cs.length t u8 u9) := ⟨HWS.out.r1, HWS.out.r2, HWS.out.ap, ⟨HWS.out.bel.os, HWS.out.bel.tape, HWS.out.bel.output, HWS.out.bel.size, HWS.out.bel.block⟩, HWS.out.n1, HWS.out.n2⟩
        by_cases hc : t < Cs.length
        · obtain rfl : q = false := by rw [HQD.out]; simp; omega
          clear hbd htl hvl hR1 hws hb_O hab hab' hab2 hs1 hs2 hs3 hs4
          go_wp2
          go_still (by kernel_rfl)
          change (Exit.then _ _) Exit.normal _ wr.drew
          go_wp2_with (at_builtin; refine wpList_append_own_at _ rfl _ _ 22 rfl W4.heap.size 24 i1 (.slice none 0 0) 1 24 Try.underlying22 hj hj0 hj1 hj2 rfl (by decide) _ _ _ rfl (HWD.out.r1.alloc _) ⟨wr.heap.size, 0, none⟩ 1 1 [.slice (some ad) L.length c_L] rfl rfl (cell_one_new wr.drew _ _) (by simp [Value.oneCell']) q1 q2 (q5 _) ?_; intro v' w6 hown' hgrow _ hat; have h1 := WS.put1 HWD.out hc HX1.out hown' hgrow hat; clear hown' hgrow hat)
          go_roundw
          case rel => exact ⟨t + 1, by omega, by go_num, h1⟩
          case measure => simp [intOf]; omega
        · obtain rfl : q = true := by rw [HQD.out]; simp; omega
          clear hbd htl hvl hR1 hws hb_O hab hab' hab2 hs1 hs2 hs3 hs4
          go_wp2
          go_still (by kernel_rfl)
          change (Exit.then _ _) Exit.normal _ wr.drew
          go_wp2_with (at_builtin; refine wpList_append_own_at _ rfl _ _ 22 rfl W4.heap.size 24 i1 (.slice none 0 0) 1 24 Try.underlying22 hj hj0 hj1 hj2 rfl (by decide) _ _ _ rfl (HWD.out.r2.alloc _) ⟨wr.heap.size, 0, none⟩ 1 1 [.slice (some ad) L.length c_L] rfl rfl (cell_one_new wr.drew _ _) (by simp [Value.oneCell']) q3 q4 (q5 _) ?_; intro v' w6 hown' hgrow _ hat; have h1 := WS.put2 HWD.out (Nat.le_of_not_lt hc) HX1.out hown' hgrow hat; clear hown' hgrow hat)
          go_roundw
          case rel => exact ⟨t + 1, by omega, by go_num, h1⟩
          case measure => simp [intOf]; omega
      · obtain rfl : t = n_O := by omega
        have hO := WS.oss (by rw [← HNO.out]; exact h) HO3.out (show W1.heap.size ≤ W4.heap.size by omega) (show W2.heap.size ≤ W4.heap.size by omega)
        have hn1 := h.n1
        have hn2 := h.n2
        rw [List.length_append] at hR1
        obtain ⟨g1, cc1, rfl⟩ := oss_some hO.1 hn1
        obtain ⟨g2, cc2, rfl⟩ := oss_some hO.2 hn2
        have oF := own_below HOF.out hW
        replace hbel := hbel.trans (hW.mono hbel.size)
        have HCM : Hid (∀ L ∈ Cs, L.length ≤ 1048576) := fun L hL => HRL.out L (List.mem_append.2 (.inl hL))
        have HYM : Hid (∀ L ∈ Ys, L.length ≤ 1048576) := fun L hL => HRL.out L (List.mem_append.2 (.inr hL))
        have HO := Lib.hid hO
        clear h hn1 hn2 hW hO
        go_wp2_with fail
        refine (implWaysChart_any _ _ _ _ _ _ _ _ _ _ _ _ _ _ HO.out.1 HO.out.2 (by omega) (by omega) HCM.out HYM.out).mono ?_
        rintro e W5 ⟨v_, rfl, oX, b⟩
        rw [HX.out.2] at oX
        rw [HX.out.1]
        obtain ⟨A_X, c_X, rfl⟩ := own_slice oX
        replace oF := own_below oF b
        replace hbel := hbel.trans (b.mono hbel.size)
        clear b HO
        go_wp2_with fail
        refine (sameInts_any _ _ _ _ _ _ _ _ _ (RI.of_own oX) (RI.of_own oF) (by omega)).mono ?_
        rintro e W6 ⟨rfl, b⟩
        replace hbel := hbel.trans (b.mono hbel.size)
        clear b
        go_wp2
        go_ret
        exact ⟨by simp, hbel⟩

/-! ### THE ROW's STEP: WRITTEN OUT: LEAVE IT -/
set_option maxRecDepth 100000 in
theorem lifted (os : Os) (started : os.Started) (H : Type) (enc : TypeId × Value → H) :
    ReturnsInHanded {} Try.checked os 4 .any (Rows.fnWaysSpec.pre6 enc Try.prog Try.f4 Rows.fnWaysRow.domain false) (Rows.fnWaysSpec.post enc Try.prog Try.f4 false true false false) := by
  refine returnsInHanded_of_change (C := Try.checked) own started (by kernel_rfl) Try.func4
    (ChangeSpec.witness6 (enc := enc) (C := Try.checked) false ⟨#[], #[.slice none 0 0], []⟩ 8 (by kernel_rfl) (by kernel_rfl) (by kernel_rfl) (by kernel_rfl)) ?_
  intro W base args ds gs before hval0 hW hcnd _
  have hval : ∀ (j : Nat) t v, Try.f4.params[j]? = some t → args[j]? = some v → Value.okWide Try.prog W .any base t v := hval0
  have hW' := hW
  obtain ⟨p, q, hA0, hV, rfl, hfz, hnd⟩ := hW
  have hA : DataW.TrodAll enc Try.prog W 0 (fun _ => true) true Try.f4.params.toList args.toList ds p := hA0
  rw [Try.params4] at hA hval
  obtain ⟨v0, vs0, d0, ds0, p0, q0, hargs, rfl, rfl, h0, r0⟩ := trodAll_cons hA
  obtain ⟨rfl, rfl, rfl⟩ := trodAll_nil r0
  obtain rfl : args = #[v0] := by cases args; simp_all
  obtain ⟨rfl, rfl⟩ := trodVars_none hV
  obtain ⟨a0, len0, cap0, rfl⟩ := okWide_slice Try.underlying32 (hval 0 32 v0 rfl rfl)
  have k0 := h0
  have lt0 : ∀ x ∈ p0, x.block < W.heap.size := by obtain ⟨m, hm⟩ := k0; exact DataW.trod_lt m _ _ _ hm
  obtain ⟨z0, w0⟩ : ∃ zs, IsRow .u8 W a0 len0 cap0 zs := by
    obtain ⟨fuel, hf⟩ := h0
    rcases open_ints Try.underlying32 Try.underlying5 (by kernel_rfl) hf with ⟨hcs, _⟩ | ⟨x, l, c, zs, hcs, _, hl, hm, hz, _, hcell, hwz⟩
    · simp [Value.cells] at hcs
      obtain ⟨rfl, rfl, rfl⟩ := hcs
      exact ⟨[], .inl ⟨rfl, rfl, rfl, rfl⟩⟩
    · simp [Value.cells] at hcs
      obtain ⟨rfl, rfl, rfl⟩ := hcs
      exact ⟨zs, .inr ⟨_, rfl, hl, hm, by simpa using hz, hcell, hwz⟩⟩
  clear hA0 hval0
  refine (walk a0 len0 cap0 z0 W w0).mono fun e W' ⟨he, bel⟩ => ?_
  subst he
  exact ⟨_, rfl, _, _, _, [], _, [], hW', trodAll_mk1 (shut_bool Try.underlying4 _), (trodAll_cons_mk (Below.trod laidOut (by kernel_rfl) (of_decide_eq_true (by kernel_rfl)) k0 bel lt0) trodAll_mk0), rfl, bel.frame _, fun h => by cases h⟩

theorem over : Rows.fnWaysRow.holds Try.pinned (OpenSpec.ofChange Rows.fnWaysSpec) :=
  OpenClaim.holds_of_wide 4 Try.f4 rfl rfl rfl rfl rfl rfl rfl ⟨rfl, rfl, rfl, rfl, rfl⟩ rfl rfl rfl rfl rfl (by kernel_rfl) Try.func4 (by kernel_rfl)
    (of_decide_eq_true (by kernel_rfl)) (by unfold Func.isWrapper; first | (rw [if_pos (by decide +kernel)]; kernel_rfl) | (rw [if_neg (by decide +kernel)]; exact ⟨rfl, rfl⟩))
    (fun os started H enc _ => lifted os started H enc)

/-- ████ THE STATEMENT ████ -/
theorem proved : Rows.FnWaysSaid := over
#print axioms proved
end Go.Proofs.Ytonoepggcgjfhaa.fnWays
