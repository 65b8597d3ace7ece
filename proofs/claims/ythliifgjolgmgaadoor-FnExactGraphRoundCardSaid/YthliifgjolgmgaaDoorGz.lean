/-
  impl.reachedFrom: the nodes that are reached from 0, over any function that tells where letters lead.
-/
import Derived.Test.YthliifgjolgmgaaDoorGy
import Derived.Test.YthliifgjolgmgaaDoorLq
namespace Go.Proofs.YthliifgjolgmgaaDoor
set_option maxRecDepth 100000
set_option linter.unusedVariables false
open Go.RowKit Go.Lib

/-- what is met: all, or too many -/
def MetP (nx : Nat → Nat → Option Nat) (N : Nat) (M : List Nat) : Prop := M.length ≤ 44 ∧ ((M.length ≤ 40 ∧ M = metQ nx N) ∨ (40 < M.length ∧ 40 < (metQ nx N).length))
theorem natsI_nd (Q : List Qt) : natsI (ndQ Q) = ndI Q := by unfold natsI ndQ ndI; rw [List.map_map]; rfl
/-- a function that tells where letters lead, in every world from w on -/
def LeadsAt (gf : Nat) (ca cb : Array Value) (nx : Nat → Nat → Option Nat) (N : Nat) (w : World) : Prop :=
  ∀ (W : World) (x c : Nat), Below w.heap.size w W → x < N → c < 4 → Calls Tryd.prog gf (ca ++ (#[.int .i64 (x : Int), .int .i64 (c : Int)] ++ cb)) W fun e w' => e = .returned (.int .i64 (enc (nx c x))) ∧ Below W.heap.size W w'
theorem LeadsAt.on {gf : Nat} {ca cb : Array Value} {nx : Nat → Nat → Option Nat} {N : Nat} {w w' : World} (h : LeadsAt gf ca cb nx N w) (hb : Below w.heap.size w w') : LeadsAt gf ca cb nx N w' :=
  fun W x c hW => h W x c (hb.trans (hW.mono hb.size))
set_option maxHeartbeats 4000000 in
theorem reach_any (gf : Nat) (ca cb : Array Value) (N : Nat) (nx : Nat → Nat → Option Nat) (w : World) (h0 : 0 < N) (hx : ∀ c v u, nx c v = some u → u < N) (eg : ∀ args w, (callFunc gf args).run Tryd.prog w = .ok (.enter gf args) w) (hL : LeadsAt gf ca cb nx N w) :
    Calls Tryd.prog 57 #[.int .i64 0, .func (.func gf) ca cb] w fun e w' => ∃ (g c : Nat) (M : List Nat), e = .returned (.slice (some ⟨g, 0, none⟩) M.length c) ∧ MetP nx N M ∧ (∀ v ∈ M, v < N) ∧ w'.ownsRow w.heap.size 3 1 (.slice (some ⟨g, 0, none⟩) M.length c) M.length (ivs (natsI M)) ∧ Below w.heap.size w w' := by
  obtain ⟨i0, hi, hz0, hz1, hz2⟩ := info_parts info_int
  have HOK : Hid (∀ i, OkQ N (bfsQ nx i)) := fun i => bfsQ_ok h0 hx i
  have HX := Lib.hid hx
  have HL := Lib.hid hL
  have HO0 := Lib.hid (lit_own5 w w.heap.size 0 (Nat.le_refl _))
  have HB0 := Lib.hid ((Below.refl w.heap.size w).alloc (Nat.le_refl _) (.cells #[.int .i64 0] 3))
  clear hx hL
  go_enter Tryd.func57, Tryd.ntmps57
  go_wp2
  generalize w.alloc (.cells #[.int .i64 0] 3) = w1 at *
  go_loopg [5, 6] 45 (fun g0 s5 s6 wr => ∃ (i q g c : Nat) (Q : List Qt), i + g0 = 45 ∧ s6 = .int .i64 (i : Int) ∧ s5 = .slice (some ⟨g, 0, none⟩) q c ∧ q ≤ 44 ∧ i ≤ q ∧ i ≤ N ∧ Hid (Q = bfsQ nx i) ∧ Hid (Q.length = q) ∧ Hid (wr.ownsRow w.heap.size 3 1 (.slice (some ⟨g, 0, none⟩) q c) q (ivs (ndI Q))) ∧ Hid (Below w.heap.size w wr))
  case atStart => exact ⟨0, 1, w.heap.size, 1, [(0, 0, -1)], rfl, rfl, rfl, by omega, by omega, by omega, rfl, rfl, HO0.out, HB0.out⟩
  case round =>
    clear HO0 HB0
    obtain ⟨i, q, g, c, Q, hig, rfl, rfl, hq44, hiq, hiN, HQ, HQL, HO, HB⟩ := hrel
    by_cases hlt : i < q
    · have hlti : (i : Int) < (q : Int) := by omega
      by_cases h40 : q ≤ 40
      · have h40i : (q : Int) ≤ 40 := by omega
        obtain ⟨tp, htp⟩ : ∃ tp, Q[i]? = some tp := ⟨_, List.getElem?_eq_getElem (by rw [HQL.out]; exact hlt)⟩
        have hv : tp.1 < N := (HOK.out i).2 tp.1 (by rw [← HQ.out]; exact List.mem_map.2 ⟨tp, List.mem_of_getElem? htp, rfl⟩)
        have HQ4 : Hid (bfsQ nx (i + 1) = scanQ nx i tp.1 4 Q) := by
          show _ = _
          have := bfsQ_at (nx := nx) (i := i) (t := tp) (by rw [← HQ.out]; exact htp)
          rw [this, ← HQ.out]
        have HPV : Hid (∀ Q' : List Qt, Q <+: Q' → (ivs (ndI Q'))[i]? = some (.int .i64 (tp.1 : Int))) := fun Q' hp => by
          obtain ⟨R, rfl⟩ := hp
          have hl : i < Q.length := by rw [HQL.out]; exact hlt
          rw [ivs_get]
          unfold ndI
          rw [List.getElem?_map, List.getElem?_append_left hl, htp]; rfl
        have HPL : Hid (∀ Q' : List Qt, Q <+: Q' → i < Q'.length) := fun Q' hp => by
          have := hp.length_le
          rw [HQL.out] at this; omega
        have HQO : Hid (OkQ N Q) := by show OkQ N Q; rw [HQ.out]; exact HOK.out i
        have hiN2 : i < N := by
          have h1 := HQO.out.len
          rw [HQL.out] at h1; omega
        clear htp
        generalize tp.1 = v at *
        go_wp2
        go_loopg [5, 22] 4 (fun g1 s5 s22 wy => ∃ (k q g c : Nat) (Q' : List Qt), k + g1 = 4 ∧ s22 = .int .i64 (k : Int) ∧ s5 = .slice (some ⟨g, 0, none⟩) q c ∧ q ≤ 40 + k ∧ Hid (Q' = scanQ nx i v k Q) ∧ Hid (Q'.length = q) ∧ Hid (wy.ownsRow w.heap.size 3 1 (.slice (some ⟨g, 0, none⟩) q c) q (ivs (ndI Q'))) ∧ Hid (Below w.heap.size w wy))
        case atStart => exact ⟨0, q, g, c, Q, rfl, rfl, rfl, h40, rfl, HQL, HO, HB⟩
        case round =>
          clear HO HB HQL hlti hlt h40 h40i hq44 hiq
          obtain ⟨k, q, g, c, Q', hkg, rfl, rfl, hqk, HQ', HQL, HO, HB⟩ := hrel
          have hpre : Hid (Q <+: Q') := by show _ <+: _; rw [HQ'.out]; exact scanQ_pre _ _ _ _ _
          have hiq : i < q := by rw [← HQL.out]; exact HPL.out Q' hpre.out
          by_cases hk4 : k < 4
          · have hki : (k : Int) < 4 := by omega
            have hiqi : (i : Int) < (q : Int) := by omega
            have hcell : wr.cell? ⟨g, i, none⟩ = some (.int .i64 (v : Int)) := by rw [HO.out.cellAt i (by omega)]; exact HPV.out Q' hpre.out
            have hlc := HL.out wr v k HB.out hv hk4
            have HS : Hid (scanQ nx i v (k + 1) Q = stepQ i k (nx k v) Q') := by show _ = _; rw [scanQ_succ, HQ'.out]
            have HXK : Hid (∀ u, nx k v = some u → u < N) := fun u => HX.out k v u
            generalize nx k v = x at *
            have HLC := Lib.hid hlc
            clear hlc
            go_wp2_with fail
            refine HLC.out.mono ?_
            rintro e w2 ⟨rfl, hb2⟩
            have HO2 := Lib.hid (gt_below HO.out hb2)
            have HB2 := Lib.hid (HB.out.trans (hb2.mono HB.out.size))
            clear HO HB hb2 HLC hcell
            cases x with
            | none =>
              have HQ2 : Hid (Q' = scanQ nx i v (k + 1) Q) := by show _ = _; rw [HS.out]; rfl
              rw [show enc (none : Option Nat) = -1 from rfl]
              go_wp2
              go_roundg (4 - (k + 1))
              case measure => omega
              case rel => exact ⟨k + 1, q, g, c, Q', by omega, by go_num, rfl, by omega, HQ2, HQL, HO2, HB2⟩
            | some u =>
              have HCT := slContainsN_any g q c (ndQ Q') (some u) w2 (by rw [ndQ_len]; exact HQL.out) (fun j y hy => by
                have hj := (List.getElem?_eq_some_iff.1 hy).1
                rw [ndQ_len, HQL.out] at hj
                rw [HO2.out.cellAt j (by omega), ivs_get, ← natsI_nd, natsI_get hy]; rfl) (by omega)
              rw [show enc (some u) = (u : Int) from rfl] at HCT ⊢
              have HCT := Lib.hid HCT
              have hneq : ((u : Int) != -1) = true := by rw [bne_iff_ne]; omega
              go_wp2_with fail
              refine HCT.out.mono ?_
              rintro e w3 ⟨rfl, hw3⟩
              subst hw3
              clear HCT
              by_cases hm : u ∈ ndQ Q'
              · have HQ2 : Hid (Q' = scanQ nx i v (k + 1) Q) := by
                  show _ = _
                  rw [HS.out]
                  unfold stepQ
                  dsimp only
                  rw [if_pos hm]
                rw [show inE (ndQ Q') (some u) = true from decide_eq_true hm]
                clear hm
                go_wp2
                go_roundg (4 - (k + 1))
                case measure => omega
                case rel => exact ⟨k + 1, q, g, c, Q', by omega, by go_num, rfl, by omega, HQ2, HQL, HO2, HB2⟩
              · have HQ2 : Hid (Q' ++ [(u, i, (k : Int))] = scanQ nx i v (k + 1) Q) := by
                  show _ = _
                  rw [HS.out]
                  unfold stepQ
                  dsimp only
                  rw [if_neg hm]
                have HQL2 : Hid ((Q' ++ [(u, i, (k : Int))]).length = q + 1) := by show _ = _; rw [List.length_append, HQL.out]; rfl
                have HIV : Hid (ivs (ndI (Q' ++ [(u, i, (k : Int))])) = ivs (ndI Q') ++ [.int .i64 (u : Int)]) := by show _ = _; simp [ndI, ivs]
                rw [show inE (ndQ Q') (some u) = false from decide_eq_false hm]
                have HRR := Lib.hid (HO2.out.alloc (.cells #[.int .i64 (u : Int)] 3))
                have HBR := Lib.hid (HB2.out.alloc HB2.out.size (.cells #[.int .i64 (u : Int)] 3))
                have hbb : w.heap.size ≤ (w3.alloc (.cells #[.int .i64 (u : Int)] 3)).heap.size := by rw [World.size_alloc]; have := HB2.out.size; omega
                have hq1 : q + 1 ≤ maxLen := by unfold maxLen; omega
                have hq2 : (q + 1) * 8 ≤ 140737488355328 := by omega
                clear hm HO2
                go_wp2_with (at_builtin; refine wpList_append_lies _ rfl _ _ _ rfl w.heap.size 3 i0 (.int .i64 0) 1 8 Tryd.underlying24 hi hz0 hz1 hz2 rfl (by decide) (.slice (some ⟨g, 0, none⟩) q c) q (ivs (ndI Q')) rfl HRR.out ⟨w3.heap.size, 0, none⟩ 1 1 [.int .i64 (u : Int)] rfl rfl (cell_one_new _ _ _) (by simp [Value.oneCell']) (by decide) hq1 hq2 hbb (w3.heap.size + 1) (by simp) ?_; intro g7 c7 w7 hown7 hgrow7 hat7 hlt7)
                have HB7 := Lib.hid (HBR.out.grown hgrow7 hbb (fun k e => (HRR.out.lt k e).1))
                rw [← HIV.out] at hown7
                have HO7 := Lib.hid hown7
                clear hown7 hgrow7 hat7 hlt7 HRR HBR hbb
                go_roundg (4 - (k + 1))
                case measure => omega
                case rel => exact ⟨k + 1, q + 1, g7, c7, _, by omega, by go_num, rfl, by omega, HQ2, HQL2, HO7, HB7⟩
          · obtain rfl : k = 4 := by omega
            have HQ5 : Hid (Q' = bfsQ nx (i + 1)) := by show _ = _; rw [HQ4.out, HQ'.out]
            go_wp2
            go_roundg (45 - (i + 1))
            case measure => omega
            case rel => exact ⟨i + 1, q, g, c, Q', by omega, by go_num, rfl, by omega, by omega, by omega, HQ5, HQL, HO, HB⟩
      · have h40i : ¬ (q : Int) ≤ 40 := by omega
        have HP : Hid (MetP nx N (ndQ Q)) := by
          refine ⟨by rw [ndQ_len, HQL.out]; exact hq44, .inr ⟨by rw [ndQ_len, HQL.out]; omega, ?_⟩⟩
          unfold metQ ordQ
          have hp : bfsQ nx i <+: bfsQ nx (i + (N - i)) := by
            have : ∀ j, bfsQ nx i <+: bfsQ nx (i + j) := by
              intro j
              induction j with
              | zero => exact List.prefix_refl _
              | succ j ih => exact ih.trans (bfsQ_pre _)
            exact this _
          rw [show i + (N - i) = N by omega] at hp
          have := hp.length_le
          rw [← HQ.out, HQL.out] at this
          rw [ndQ_len]; omega
        have HMN : Hid (∀ v ∈ ndQ Q, v < N) := by rw [HQ.out]; exact (HOK.out i).2
        have HLN : Hid ((ndQ Q).length = q) := by show _ = _; rw [ndQ_len, HQL.out]
        rw [← natsI_nd] at HO
        go_wp2
        go_ret
        exact ⟨g, c, ndQ Q, by rw [HLN.out]; rfl, HP.out, HMN.out, by rw [HLN.out]; exact HO.out, HB.out⟩
    · obtain rfl : i = q := by omega
      have hlti : ¬ (i : Int) < (i : Int) := by omega
      have HLN : Hid ((ndQ Q).length = i) := by show _ = _; rw [ndQ_len, HQL.out]
      have HME : Hid (ndQ Q = metQ nx N) := by show _ = _; unfold metQ; rw [ordQ_end hiN (by rw [← HQ.out, HQL.out]; exact Nat.le_refl _), HQ.out]
      have HP : Hid (MetP nx N (ndQ Q)) := by
        refine ⟨by rw [HLN.out]; exact hq44, ?_⟩
        rcases Nat.lt_or_ge 40 i with h | h
        · exact .inr ⟨by rw [HLN.out]; exact h, by rw [← HME.out, HLN.out]; exact h⟩
        · exact .inl ⟨by rw [HLN.out]; exact h, HME.out⟩
      have HMN : Hid (∀ v ∈ ndQ Q, v < N) := by rw [HQ.out]; exact (HOK.out i).2
      rw [← natsI_nd] at HO
      go_wp2
      go_ret
      exact ⟨g, c, ndQ Q, by rw [HLN.out]; rfl, HP.out, HMN.out, by rw [HLN.out]; exact HO.out, HB.out⟩
end Go.Proofs.YthliifgjolgmgaaDoor
