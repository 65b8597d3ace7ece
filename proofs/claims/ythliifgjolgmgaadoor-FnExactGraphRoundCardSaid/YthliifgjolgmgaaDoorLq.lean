/-
  spec.l5Order.
-/
import Derived.Test.YthliifgjolgmgaaDoorLr
namespace Go.Proofs.YthliifgjolgmgaaDoor
set_option maxRecDepth 100000
open Go.RowKit Go.Lib

theorem lit_own5 (X : World) (base : Nat) (x : Int) (h : base ≤ X.heap.size) : (X.alloc (.cells #[.int .i64 x] 3)).ownsRow base 3 1 (.slice (some ⟨X.heap.size, 0, none⟩) 1 1) 1 (ivs [x]) :=
  ⟨rfl, .inr ⟨X.heap.size, 1, #[.int .i64 x], rfl, h, heap_alloc_new X _, Nat.le_refl _, by decide, rfl, rfl⟩⟩
theorem mk5 {w2 : World} {B n : Nat} (hown : w2.ownsRow B 4 1 (.slice (some ⟨B, 0, none⟩) n n) n (madeCells (Value.bool false).cells (n * 1)).toList) (h0 : 0 < n) :
    w2.ownsRow B 4 1 (.slice (some ⟨B, 0, none⟩) n n) n (bvs (List.replicate n false)) ∧ w2.cell? ⟨B, 0, none⟩ = some (.bool false) ∧ w2.frozen? ⟨B, 0, none⟩ = false := by
  have e : (madeCells (Value.bool false).cells (n * 1)).toList = bvs (List.replicate n false) := by
    show (madeCells #[Value.bool false] (n * 1)).toList = _
    rw [toList_madeCells_one]; simp [bvs]
  rw [e] at hown
  refine ⟨hown, ?_, hown.frozenAt 0⟩
  have hm0 := hown.cellAt 0 (by omega)
  rw [bvs_get, List.getElem?_replicate, if_pos h0] at hm0
  exact hm0
set_option maxHeartbeats 4000000 in
theorem l5Order_any (a b : Option Addr) (n c d : Nat) (zs ys : List Int) (w : World) (h : RI w a n zs) (h' : RI w b n ys) (hl : Leads zs n) (hl' : Leads ys n) (hn : n ≤ 1600) (h0 : 0 < n) :
    Calls Tryd.prog 61 #[.agg #[.int .i64 (n : Int), .slice a n c, .slice b n d]] w fun e w' => ∃ (g1 c1 g2 c2 g3 c3 : Nat), e = .returned (.tuple #[.slice (some ⟨g1, 0, none⟩) (ordQ (nxG zs ys n) n).length c1, .slice (some ⟨g2, 0, none⟩) (ordQ (nxG zs ys n) n).length c2, .slice (some ⟨g3, 0, none⟩) (ordQ (nxG zs ys n) n).length c3]) ∧
      w'.ownsRow w.heap.size 3 1 (.slice (some ⟨g1, 0, none⟩) (ordQ (nxG zs ys n) n).length c1) (ordQ (nxG zs ys n) n).length (ivs (ndI (ordQ (nxG zs ys n) n))) ∧
      w'.ownsRow w.heap.size 3 1 (.slice (some ⟨g2, 0, none⟩) (ordQ (nxG zs ys n) n).length c2) (ordQ (nxG zs ys n) n).length (ivs (frI (ordQ (nxG zs ys n) n))) ∧
      w'.ownsRow w.heap.size 3 1 (.slice (some ⟨g3, 0, none⟩) (ordQ (nxG zs ys n) n).length c3) (ordQ (nxG zs ys n) n).length (ivs (leI (ordQ (nxG zs ys n) n))) ∧ Below w.heap.size w w' := by
  obtain ⟨i0, hi, hz0, hz1, hz2⟩ := info_parts info_int
  obtain ⟨j0, hj, hy0, hy1, hy2⟩ := info_parts info_bool5
  have hb8 : j0.bytes * n ≤ 281474976710656 := by rw [hy2]; omega
  have hmx : n ≤ maxLen := by unfold maxLen; omega
  have HOK := Lib.hid (fun i => bfsQ_ok (n := n) (nx := nxG zs ys n) h0 (nxG_lt hl hl') i)
  have HNL : Hid (∀ c v u, nxG zs ys n c v = some u → u < n) := nxG_lt hl hl'
  have hB0 : Below w.heap.size w (w.alloc (.cells #[.int .i64 (n : Int), .slice a n c, .slice b n d] 26)) := (Below.refl _ w).alloc (Nat.le_refl _) _
  have hA0 : Blk (w.alloc (.cells #[.int .i64 (n : Int), .slice a n c, .slice b n d] 26)) w.heap.size 26 #[.int .i64 (n : Int), .slice a n c, .slice b n d] := Blk.new w _ _
  have HT := Lib.hid (l5Steps_any (n : Int) a b n c d zs ys _ (h.below hB0) (h'.below hB0) hl hl' hn)
  have HRA : Hid (∀ W : World, Below w.heap.size w W → RI W a n zs ∧ RI W b n ys) := fun W hW => ⟨h.below hW, h'.below hW⟩
  have HB0 := Lib.hid hB0
  have HA0 := Lib.hid hA0
  have HLL : Hid (Leads zs n ∧ Leads ys n) := ⟨hl, hl'⟩
  clear h h' hB0 hA0 hl hl'
  obtain ⟨nx, hnx⟩ : ∃ nx, nx = nxG zs ys n := ⟨_, rfl⟩
  rw [← hnx] at HOK HNL ⊢
  have HNX := Lib.hid hnx
  clear hnx
  go_enter Tryd.func61, Tryd.ntmps61
  go_wp2_with fail
  refine HT.out.mono ?_
  rintro e V ⟨gs, B1, B2, rfl, hgs, hks, hb1, hb2, hb⟩
  have hA1 := HA0.out.below hb HA0.out.lt
  have hB1 := HB0.out.trans (hb.mono HB0.out.size)
  have k0 : V.cell? ⟨w.heap.size, 0, none⟩ = some (.int .i64 (n : Int)) := hA1.cell 0
  -- what is read of the four lists
  have HST : Hid (∀ (W : World), Below V.heap.size V W → ∀ s v : Nat, s < 4 → v < n → ∃ (AD : Addr) (cX : Nat), W.cell? ⟨gs, s, none⟩ = some (.slice (some AD) n cX) ∧ W.cell? (AD.add v) = some (.int .i64 (enc (nx s v)))) := fun W hW s v hs hv => by
    rw [HNX.out]
    have hk := hks.below hW hks.lt
    obtain ⟨ra, rb⟩ := HRA.out W (hB1.trans (hW.mono hB1.size))
    have o1 := gt_below hb1 hW
    have o2 := gt_below hb2 hW
    have hfw : ∀ {xs : List Int} {A : Option Addr} (_ : Leads xs n) (_ : RI W A n xs), ∃ AD : Addr, A = some AD ∧ W.cell? (AD.add v) = some (.int .i64 (enc (fwK xs v))) := fun {xs A} hx hr => by
      obtain ⟨AD, e, _, hc⟩ := hr.at_ hv
      have hlv : v < xs.length := by rw [hr.len]; exact hv
      refine ⟨AD, e, ?_⟩
      rw [fwK_enc hx (List.getElem?_eq_getElem hlv), hc, List.getElem?_eq_getElem hlv]; rfl
    have hbk : ∀ {xs : List Int} {B : Addr} {base : Nat} (_ : W.ownsRow base 3 1 (.slice (some B) n n) n (ivs (bkL xs n n))), W.cell? (B.add v) = some (.int .i64 (enc (bkK xs n v))) := fun {xs B base} hr => by
      obtain ⟨AD, e, _, hc⟩ := (RI.of_own hr).at_ hv
      injection e with e
      subst e
      rw [hc, bkL_get xs n hv]; rfl
    match s, hs with
    | 0, _ => exact ⟨B1, n, hk.cell 0, hbk o1⟩
    | 1, _ => exact ⟨B2, n, hk.cell 1, hbk o2⟩
    | 2, _ =>
      obtain ⟨AD, e, hc⟩ := hfw HLL.out.1 ra
      subst e
      exact ⟨AD, c, hk.cell 2, hc⟩
    | 3, _ =>
      obtain ⟨AD, e, hc⟩ := hfw HLL.out.2 rb
      subst e
      exact ⟨AD, d, hk.cell 3, hc⟩
  have HVB := Lib.hid hB1
  have hn0 : (0 : Int) < (n : Int) := by omega
  clear hA1 hB1 hks hb1 hb2 hb HT HA0 HB0 HRA HLL
  clear HNX
  go_wp2_with (at_make; refine wpList_make_full _ rfl _ _ _ rfl V.heap.size 4 j0 _ 1 Tryd.underlying101 hj hy0 hy1 _ _ _ _ n rfl rfl rfl rfl hb8 hmx (Nat.le_refl _) ?_; intro w2 hown hg; obtain ⟨hr0, hm0, hf0⟩ := mk5 hown h0)
  have hB2 : Below V.heap.size V w2 := (Below.refl _ _).grown hg (Nat.le_refl _) (fun k e => by cases e)
  have hst := (hr0.stored 0 (.bool true)).1
  rw [bvs_set] at hst
  have hB3 := hB2.setCell (p := ⟨V.heap.size, 0, none⟩) (Nat.le_refl _) (.bool true)
  have hs3 : (w2.setCell ⟨V.heap.size, 0, none⟩ (.bool true)).heap.size = w2.heap.size := by simp [World.setCell]
  have HW0 : Hid (W3 V ((((w2.setCell ⟨V.heap.size, 0, none⟩ (.bool true)).alloc (.cells #[.int .i64 0] 3)).alloc (.cells #[.int .i64 0] 3)).alloc (.cells #[.int .i64 (-1)] 3)) w2.heap.size 1 [0] (w2.heap.size + 1) 1 [0] (w2.heap.size + 1 + 1) 1 [-1] V.heap.size n ((List.replicate n false).set 0 true)) := by
    have hs := hB2.size
    have a1 := lit_own5 (w2.setCell ⟨V.heap.size, 0, none⟩ (.bool true)) V.heap.size 0 (by omega)
    have a2 := lit_own5 ((w2.setCell ⟨V.heap.size, 0, none⟩ (.bool true)).alloc (.cells #[.int .i64 0] 3)) V.heap.size 0 (by rw [World.size_alloc]; omega)
    have a3 := lit_own5 (((w2.setCell ⟨V.heap.size, 0, none⟩ (.bool true)).alloc (.cells #[.int .i64 0] 3)).alloc (.cells #[.int .i64 0] 3)) V.heap.size (-1) (by rw [World.size_alloc, World.size_alloc]; omega)
    rw [hs3] at a1
    rw [World.size_alloc, hs3] at a2
    rw [World.size_alloc, World.size_alloc, hs3] at a3
    exact ⟨(a1.alloc _).alloc _, a2.alloc _, a3, ((hst.alloc _).alloc _).alloc _, by omega, by omega, by omega, ((hB3.alloc (by omega) _).alloc (by rw [World.size_alloc]; omega) _).alloc (by rw [World.size_alloc, World.size_alloc]; omega) _⟩
  have HM0 := Lib.hid (met_one h0)
  clear hown hg hj hy0 hy1 hy2 hb8 hB2 hr0 hst hB3
  go_wp2
  go_loopw [7, 8, 9, 10] (fun o f l i wr => ∃ (t q g1 c1 g2 c2 g3 c3 : Nat) (Q : List Qt) (bs : List Bool), t ≤ n ∧ i = .int .i64 (t : Int) ∧ o = .slice (some ⟨g1, 0, none⟩) q c1 ∧ f = .slice (some ⟨g2, 0, none⟩) q c2 ∧ l = .slice (some ⟨g3, 0, none⟩) q c3 ∧ Hid (Q = bfsQ nx t) ∧ Hid (Q.length = q) ∧ Hid (W3 V wr g1 c1 (ndI Q) g2 c2 (frI Q) g3 c3 (leI Q) V.heap.size n bs) ∧ Hid (MetOk bs n Q)) (fun _ _ _ i _ => n - (intOf i).toNat)
  case atStart => exact ⟨0, 1, _, _, _, _, _, _, _, _, Nat.zero_le _, rfl, rfl, rfl, rfl, rfl, rfl, HW0.out, HM0.out⟩
  case round =>
    obtain ⟨t, q, g1, c1, g2, c2, g3, c3, Q, bs, ht, rfl, rfl, rfl, rfl, HQ, HQL, HW, HM⟩ := hrel
    clear HW0 HM0
    have hqn : q ≤ n := by have h1 := (HOK.out t).len; rw [← HQ.out] at h1; rw [← HQL.out]; exact h1
    by_cases hlt : t < q
    · have hlti : (t : Int) < (q : Int) := by omega
      obtain ⟨tp, htp⟩ : ∃ tp, Q[t]? = some tp := ⟨_, List.getElem?_eq_getElem (by rw [HQL.out]; exact hlt)⟩
      have hv : tp.1 < n := (HOK.out t).2 tp.1 (by rw [← HQ.out]; exact List.mem_map.2 ⟨tp, List.mem_of_getElem? htp, rfl⟩)
      have HQ4 : Hid (bfsQ nx (t + 1) = scanQ nx t tp.1 4 Q) := by
        show _ = _
        have := bfsQ_at (nx := nx) (i := t) (t := tp) (by rw [← HQ.out]; exact htp)
        rw [this, ← HQ.out]
      have HPV : Hid (∀ Q' : List Qt, Q <+: Q' → (ivs (ndI Q'))[t]? = some (.int .i64 (tp.1 : Int))) := fun Q' hp => by
        obtain ⟨R, rfl⟩ := hp
        have hl : t < Q.length := by rw [HQL.out]; exact hlt
        rw [ivs_get]
        unfold ndI
        rw [List.getElem?_map, List.getElem?_append_left hl, htp]; rfl
      have HPL : Hid (∀ Q' : List Qt, Q <+: Q' → t < Q'.length) := fun Q' hp => by
        have := hp.length_le
        rw [HQL.out] at this; omega
      have HQO : Hid (OkQ n Q) := by show OkQ n Q; rw [HQ.out]; exact HOK.out t
      have htn : t < n := by omega
      clear htp hm0 hf0 k0
      generalize tp.1 = v at *
      go_wp2
      go_loopw [7, 8, 9, 11] (fun o f l cc wr => ∃ (s q g1 c1 g2 c2 g3 c3 : Nat) (Q' : List Qt) (bs : List Bool), s ≤ 4 ∧ cc = .int .i64 (s : Int) ∧ o = .slice (some ⟨g1, 0, none⟩) q c1 ∧ f = .slice (some ⟨g2, 0, none⟩) q c2 ∧ l = .slice (some ⟨g3, 0, none⟩) q c3 ∧ Hid (Q' = scanQ nx t v s Q) ∧ Hid (Q'.length = q) ∧ Hid (W3 V wr g1 c1 (ndI Q') g2 c2 (frI Q') g3 c3 (leI Q') V.heap.size n bs) ∧ Hid (MetOk bs n Q')) (fun _ _ _ cc _ => 4 - (intOf cc).toNat)
      case atStart => exact ⟨0, q, g1, c1, g2, c2, g3, c3, Q, bs, by omega, rfl, rfl, rfl, rfl, rfl, HQL, HW, HM⟩
      case round =>
        clear HW HM HQL hqn hlti hlt
        obtain ⟨s, q, g1, c1, g2, c2, g3, c3, Q', bs, hs, rfl, rfl, rfl, rfl, HQ', HQL, HW, HM⟩ := hrel
        by_cases hs4 : s < 4
        · have hpre : Q <+: Q' := by rw [HQ'.out]; exact scanQ_pre _ _ _ _ _
          have htq : t < q := by rw [← HQL.out]; exact HPL.out Q' hpre
          have hqn : q ≤ n := by
            rw [← HQL.out, HQ'.out]
            exact (scanQ_ok HQO.out (fun c u => HNL.out c v u) s).len
          obtain ⟨AD, cX, hc1, hc2⟩ := HST.out wr HW.out.bel s v hs4 hv
          have hc3 : wr.cell? ⟨g1, t, none⟩ = some (.int .i64 (v : Int)) := by
            have hr := HW.out.r1
            rw [ndI_len, HQL.out] at hr
            have := hr.cellAt t (by omega)
            rw [HPV.out Q' hpre] at this
            exact this
          have hsi : (s : Int) < 4 := by omega
          have htqi : (t : Int) < (q : Int) := by omega
          have hvi : (v : Int) < (n : Int) := by omega
          have HSC : Hid (scanQ nx t v (s + 1) Q = stepQ t s (nx s v) Q') := by show _ = _; rw [scanQ_succ, ← HQ'.out]
          clear hpre
          cases hx : nx s v with
          | none =>
            rw [hx] at hc2
            replace hc2 : wr.cell? (AD.add v) = some (.int .i64 (-1)) := hc2
            have HSC2 : Hid (Q' = scanQ nx t v (s + 1) Q) := by show _ = _; rw [HSC.out, hx]; rfl
            clear hx HSC
            go_wp2
            go_quiet (fail)
            all_goals go_wp2
            go_roundw
            case rel => exact ⟨s + 1, q, g1, c1, g2, c2, g3, c3, Q', bs, by omega, by go_num, rfl, rfl, rfl, HSC2, HQL, HW.out.drewN _, HM⟩
            case measure => simp [intOf]; omega
          | some u =>
            rw [hx] at hc2
            have hu := HNL.out s v u hx
            replace hc2 : wr.cell? (AD.add v) = some (.int .i64 (u : Int)) := hc2
            have hge : (0 : Int) ≤ (u : Int) := by omega
            have hui : (u : Int) < (n : Int) := by omega
            have hcm := HW.out.rm.cellAt u (by omega)
            rw [bvs_get, met_at HM.out hu] at hcm
            have hfm := HW.out.rm.frozenAt u
            by_cases hin : u ∈ ndQ Q'
            · replace hcm : wr.cell? ⟨V.heap.size, u, none⟩ = some (.bool true) := by rw [decide_eq_true hin] at hcm; exact hcm
              have HSC2 : Hid (Q' = scanQ nx t v (s + 1) Q) := by show _ = _; rw [HSC.out, hx]; unfold stepQ; simp only [if_pos hin]
              clear hx HSC hin
              go_wp2
              go_quiet (fail)
              all_goals go_wp2
              go_roundw
              case rel => exact ⟨s + 1, q, g1, c1, g2, c2, g3, c3, Q', bs, by omega, by go_num, rfl, rfl, rfl, HSC2, HQL, HW.out.drewN _, HM⟩
              case measure => simp [intOf]; omega
            · replace hcm : wr.cell? ⟨V.heap.size, u, none⟩ = some (.bool false) := by rw [decide_eq_false hin] at hcm; exact hcm
              have HSC2 : Hid (Q' ++ [(u, t, (s : Int))] = scanQ nx t v (s + 1) Q) := by show _ = _; rw [HSC.out, hx]; unfold stepQ; simp only [if_neg hin]
              have HM2 := Lib.hid (met_new (i := t) (c := (s : Int)) HM.out hu)
              have HQL2 : Hid ((Q' ++ [(u, t, (s : Int))]).length = q + 1) := by show _ = _; rw [List.length_append, HQL.out]; rfl
              have HX1 : Hid (ndI (Q' ++ [(u, t, (s : Int))]) = ndI Q' ++ [(u : Int)] ∧ frI (Q' ++ [(u, t, (s : Int))]) = frI Q' ++ [(t : Int)] ∧ leI (Q' ++ [(u, t, (s : Int))]) = leI Q' ++ [(s : Int)]) := by
                refine ⟨?_, ?_, ?_⟩ <;> simp [ndI, frI, leI]
              have HQL1 : Hid ((ndI Q').length = q) := by show _ = _; rw [ndI_len, HQL.out]
              have HQLf : Hid ((frI Q').length = q) := by show _ = _; rw [frI_len, HQL.out]
              have HQLl : Hid ((leI Q').length = q) := by show _ = _; rw [leI_len, HQL.out]
              have hq1 : q + 1 ≤ maxLen := by unfold maxLen; omega
              have hq2 : (q + 1) * 8 ≤ 140737488355328 := by omega
              clear hx HSC hin HM
              go_wp2
              go_quiet (fail)
              have HW1 := Lib.hid (HW.out.drewN nq)
              have hcm1 : (wr.drewN nq).cell? ⟨V.heap.size, u, none⟩ = some (.bool false) := hcm
              have hfm1 : (wr.drewN nq).frozen? ⟨V.heap.size, u, none⟩ = false := hfm
              clear hcm hfm HW hc1 hc2 hc3
              generalize wr.drewN nq = W1 at *
              have HW2 := Lib.hid (HW1.out.mark hu)
              have hsz1 : (W1.setCell ⟨V.heap.size, u, none⟩ (.bool true)).heap.size = W1.heap.size := by simp [World.setCell]
              generalize ndI Q' = N1 at *
              generalize frI Q' = N2 at *
              generalize leI Q' = N3 at *
              clear HW1
              have hr := (HW2.out).r1
              rw [show (N1).length = q from HQL1.out] at hr
              have HRR := Lib.hid (hr.alloc (.cells #[.int .i64 (u : Int)] 3))
              have hbb : V.heap.size ≤ ((W1.setCell ⟨V.heap.size, u, none⟩ (.bool true)).alloc (.cells #[.int .i64 (u : Int)] 3)).heap.size := by rw [World.size_alloc]; have := HW2.out.bel.size; omega
              clear hr
              go_wp2_with (first
                | (at_builtin
                   rw [← hsz1]; generalize W1.setCell ⟨V.heap.size, u, none⟩ (.bool true) = W6 at *; refine wpList_append_lies _ rfl _ _ _ rfl V.heap.size 3 i0 (.int .i64 0) 1 8 Tryd.underlying24 hi hz0 hz1 hz2 rfl (by decide) (.slice (some ⟨g1, 0, none⟩) q c1) q (ivs N1) rfl HRR.out ⟨W6.heap.size, 0, none⟩ 1 1 [.int .i64 (u : Int)] rfl rfl (cell_one_new _ _ _) (by simp [Value.oneCell']) (by decide) hq1 hq2 hbb (W6.heap.size + 1) (by simp) ?_; intro g1' c1' w7 hown7 hgrow7 hat7 hlt7
                   have HW3 := Lib.hid (W3.rot (W3.app HW2.out (.cells #[.int .i64 (u : Int)] 3) (x := (u : Int)) (by rw [show (N1).length = q from HQL1.out]; exact hown7) (by rw [show (N1).length = q from HQL1.out]; exact hgrow7) (by rw [show (N1).length = q from HQL1.out]; exact hat7.elim .inl (fun e => .inr (e.trans (by simp))))))
                   clear hown7 hgrow7 hat7 hlt7 hbb HRR
                   have hr := (HW3.out).r1
                   rw [show (N2).length = q from HQLf.out] at hr
                   have HRR := Lib.hid (hr.alloc (.cells #[.int .i64 (t : Int)] 3))
                   have hbb : V.heap.size ≤ (w7.alloc (.cells #[.int .i64 (t : Int)] 3)).heap.size := by rw [World.size_alloc]; have := HW3.out.bel.size; omega
                   clear hr)
                | (at_builtin
                   refine wpList_append_lies _ rfl _ _ _ rfl V.heap.size 3 i0 (.int .i64 0) 1 8 Tryd.underlying24 hi hz0 hz1 hz2 rfl (by decide) (.slice (some ⟨g2, 0, none⟩) q c2) q (ivs N2) rfl HRR.out ⟨w7.heap.size, 0, none⟩ 1 1 [.int .i64 (t : Int)] rfl rfl (cell_one_new _ _ _) (by simp [Value.oneCell']) (by decide) hq1 hq2 hbb (w7.heap.size + 1) (by simp) ?_; intro g2' c2' w8 hown7 hgrow7 hat7 hlt7
                   have HW4 := Lib.hid (W3.rot (W3.app HW3.out (.cells #[.int .i64 (t : Int)] 3) (x := (t : Int)) (by rw [show (N2).length = q from HQLf.out]; exact hown7) (by rw [show (N2).length = q from HQLf.out]; exact hgrow7) (by rw [show (N2).length = q from HQLf.out]; exact hat7.elim .inl (fun e => .inr (e.trans (by simp))))))
                   clear hown7 hgrow7 hat7 hlt7 hbb HRR
                   have hr := (HW4.out).r1
                   rw [show (N3).length = q from HQLl.out] at hr
                   have HRR := Lib.hid (hr.alloc (.cells #[.int .i64 (s : Int)] 3))
                   have hbb : V.heap.size ≤ (w8.alloc (.cells #[.int .i64 (s : Int)] 3)).heap.size := by rw [World.size_alloc]; have := HW4.out.bel.size; omega
                   clear hr)
                | (at_builtin
                   refine wpList_append_lies _ rfl _ _ _ rfl V.heap.size 3 i0 (.int .i64 0) 1 8 Tryd.underlying24 hi hz0 hz1 hz2 rfl (by decide) (.slice (some ⟨g3, 0, none⟩) q c3) q (ivs N3) rfl HRR.out ⟨w8.heap.size, 0, none⟩ 1 1 [.int .i64 (s : Int)] rfl rfl (cell_one_new _ _ _) (by simp [Value.oneCell']) (by decide) hq1 hq2 hbb (w8.heap.size + 1) (by simp) ?_; intro g3' c3' w9 hown7 hgrow7 hat7 hlt7
                   have HW5 := Lib.hid (W3.rot (W3.app HW4.out (.cells #[.int .i64 (s : Int)] 3) (x := (s : Int)) (by rw [show (N3).length = q from HQLl.out]; exact hown7) (by rw [show (N3).length = q from HQLl.out]; exact hgrow7) (by rw [show (N3).length = q from HQLl.out]; exact hat7.elim .inl (fun e => .inr (e.trans (by simp))))))
                   clear hown7 hgrow7 hat7 hlt7 hbb HRR))
              have HWF : Hid (W3 V w9 g1' c1' (ndI (Q' ++ [(u, t, (s : Int))])) g2' c2' (frI (Q' ++ [(u, t, (s : Int))])) g3' c3' (leI (Q' ++ [(u, t, (s : Int))])) V.heap.size n (bs.set u true)) := by
                obtain ⟨e1, e2, e3⟩ := HX1.out
                rw [e1, e2, e3]; exact HW5.out
              clear HX1 HW5
              go_wp2
              go_roundw
              case rel => exact ⟨s + 1, q + 1, g1', c1', g2', c2', g3', c3', _, _, by omega, by go_num, rfl, rfl, rfl, HSC2, HQL2, HWF.out, HM2⟩
              case measure => simp [intOf]; omega
        · obtain rfl : s = 4 := by omega
          have HQ5 : Hid (Q' = bfsQ nx (t + 1)) := by show _ = _; rw [HQ4.out, HQ'.out]
          go_wp2
          go_roundw
          case rel => exact ⟨t + 1, q, g1, c1, g2, c2, g3, c3, Q', bs, by omega, by go_num, rfl, rfl, rfl, HQ5, HQL, HW, HM⟩
          case measure => simp [intOf]; omega
    · have HE : Hid (ordQ nx n = Q) := by show _ = _; rw [HQ.out]; exact ordQ_end ht (by rw [← HQ.out, HQL.out]; omega)
      have hlti : ¬ (t : Int) < (q : Int) := by omega
      have h3 := HW.out
      have r1 := h3.r1
      have r2 := h3.r2
      have r3 := h3.r3
      rw [ndI_len, HQL.out] at r1
      rw [frI_len, HQL.out] at r2
      rw [leI_len, HQL.out] at r3
      have hvs := HVB.out.size
      have HE1 := Lib.hid (gt_down r1 hvs)
      have HE2 := Lib.hid (gt_down r2 hvs)
      have HE3 := Lib.hid (gt_down r3 hvs)
      have HE4 := Lib.hid (HVB.out.trans (h3.bel.mono hvs))
      clear h3 r1 r2 r3 hm0 hf0 k0
      go_wp2
      refine bodyPost_ret (v := .tuple #[.slice (some ⟨g1, 0, none⟩) q c1, .slice (some ⟨g2, 0, none⟩) q c2, .slice (some ⟨g3, 0, none⟩) q c3]) (by simp [results, Tryd.results61, go_sem]) rfl ?_
      rw [HE.out, HQL.out]
      exact ⟨g1, c1, g2, c2, g3, c3, rfl, HE1.out, HE2.out, HE3.out, HE4.out⟩
end Go.Proofs.YthliifgjolgmgaaDoor
