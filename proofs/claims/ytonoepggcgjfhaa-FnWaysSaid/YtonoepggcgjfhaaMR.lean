/-
  CAlong.
-/
import Derived.Test.YtonoepggcgjfhaaMG
import Derived.Test.YtonoepggcgjfhaaMQ
import Derived.Test.YtonoepggcgjfhaaMU
namespace Go.Proofs.Ytonoepggcgjfhaa
set_option maxRecDepth 100000
set_option linter.unusedVariables false
set_option linter.unusedSimpArgs false
set_option linter.unusedSectionVars false

/-! impl.chartAlong: the chart that moves along ways. -/
section
open Go.RowKit Go.Shelf
attribute [local go_sem] Oper.semAt_some

/-- the chart T after the step p of a way -/
def stK (x : KW) (T : Nat → Int) (p : Nat) : Nat → Int := if p + 1 < x.2.length then upI T (ofL x.2 p) (ofL x.2 (p + 1)) else if x.1 = 0 then T else upI T (ofL x.2 p) (ofL x.2 0)
theorem stK_range (x : KW) (hx : x.1 ≤ 1) (h : 1 ≤ x.2.length) (T : Nat → Int) : ∀ k, k ≤ x.2.length → (List.range k).foldl (stK x) T = pT T x k
  | 0, _ => by rw [pT_zero h]; rfl
  | k + 1, hk => by
    rw [List.range_succ, List.foldl_append, stK_range x hx h T k (by omega)]
    show stK x (pT T x k) k = _
    unfold stK
    by_cases e : k + 1 < x.2.length
    · rw [if_pos e, pT_next e]
    · rw [if_neg e]
      obtain ⟨kd, L⟩ := x
      have hk' : k + 1 = L.length := by simp only at hk e; omega
      rcases (show kd = 0 ∨ kd = 1 by simp only at hx; omega) with rfl | rfl
      · rw [if_pos rfl, pT_chain hk']
      · rw [if_neg (show ¬ ((1, L) : KW).1 = 0 by simp), pT_cycle hk']
theorem upI_cong {P : Nat → Prop} {T S : Nat → Int} (h : ∀ j, P j → T j = S j) (y z : Int) (j : Nat) (hj : P j) : upI T y z j = upI S y z j := by
  unfold upI
  split
  · rfl
  · exact h j hj
theorem lnk_cong {P : Nat → Prop} : ∀ (L : List Int) {T S : Nat → Int}, (∀ j, P j → T j = S j) → ∀ j, P j → lnk T L j = lnk S L j
  | [], _, _, h => h
  | [_], _, _, h => h
  | y :: z :: L, _, _, h => lnk_cong (z :: L) (upI_cong h y z)
theorem alK_cong {P : Nat → Prop} : ∀ (ks : List KW) {T S : Nat → Int}, (∀ j, P j → T j = S j) → ∀ j, P j → alK T ks j = alK S ks j
  | [], _, _, h => h
  | x :: ks, T, S, h => by
    refine alK_cong ks (T := alS T x) (S := alS S x) ?_
    unfold alS
    split
    · exact lnk_cong _ h
    · exact upI_cong (lnk_cong _ h) _ _

theorem movesFrom_any (kd : Nat) (hk : kd ≤ 1) (b m p : Nat) (hp : p < m) (P : Nat → Int) (W : World) (hR : Ring W b m P) : Calls Try.prog 45 #[.agg #[.int .i64 (kd : Int), .pointer (some ⟨b, 0, none⟩)], .pointer (some ⟨b + p, 0, none⟩)] W fun e w' => e = .returned (.bool (decide (kd = 1 ∨ p + 1 < m))) ∧ Below W.heap.size W w' := by
  rcases (show kd = 0 ∨ kd = 1 by omega) with rfl | rfl
  · have h1 := hR p hp
    by_cases e : p + 1 = m
    · rw [if_pos e] at h1
      have h2 := hR 0 (by omega)
      rw [Nat.add_zero] at h1 h2
      refine (movesFrom_chain b (b + p) b _ W h1 _ _ _ _ h2 h2).mono ?_
      rintro e' w' ⟨rfl, hb⟩
      exact ⟨by simp; omega, hb⟩
    · rw [if_neg e] at h1
      have h2 := hR 0 (by omega)
      have h3 := hR (p + 1) (by omega)
      rw [Nat.add_zero] at h2
      refine (movesFrom_chain b (b + p) (b + (p + 1)) _ W h1 _ _ _ _ h3 h2).mono ?_
      rintro e' w' ⟨rfl, hb⟩
      exact ⟨by simp; omega, hb⟩
  · refine (movesFrom_cycle b (b + p) W).mono ?_
    rintro e' w' ⟨rfl, hb⟩
    exact ⟨by simp, hb⟩

theorem Dfs.set7 {lo b : Nat} {Ds : List Nat} {W : World} {n n0 : Int} {T T0 : Nat → Int} (h : Dfs lo Ds W) (hR : Cb W b n0 T0) : Dfs lo Ds ((((((((W).setCell ⟨b, 0, none⟩ (.int .i64 (n))).setCell ⟨b, 1, none⟩ (.int .i64 (T 0))).setCell ⟨b, 2, none⟩ (.int .i64 (T 1))).setCell ⟨b, 3, none⟩ (.int .i64 (T 2))).setCell ⟨b, 4, none⟩ (.int .i64 (T 3))).setCell ⟨b, 5, none⟩ (.int .i64 (T 4))).setCell ⟨b, 6, none⟩ (.int .i64 (T 5))) := Dfs.same h (fun k hk => by
  have hne : k ≠ b := by
    rintro rfl
    obtain ⟨c, hb, _⟩ := hR
    rw [hb] at hk; cases hk
  have hk1 : ∀ (X : World) (j : Nat) (v : Value), (X.setCell ⟨b, j, none⟩ v).heap[k]? = X.heap[k]? := fun X j v => Below.heap_setCell X _ v k hne
  rw [hk1, hk1, hk1, hk1, hk1, hk1, hk1])
theorem stK_moves {kd : Nat} {L : List Int} {p : Nat} (hp : p < L.length) (h : kd = 1 ∨ p + 1 < L.length) (T : Nat → Int) : stK (kd, L) T p = upI T (ofL L p) (ofL L (if p + 1 = L.length then 0 else p + 1)) := by
  unfold stK
  simp only
  by_cases e : p + 1 < L.length
  · rw [if_pos e, if_neg (by omega)]
  · rw [if_neg e, if_neg (by omega), if_pos (by omega)]
theorem stK_still {kd : Nat} {L : List Int} {p : Nat} (hk : kd ≤ 1) (h : ¬ (kd = 1 ∨ p + 1 < L.length)) (T : Nat → Int) : stK (kd, L) T p = T := by
  unfold stK
  simp only
  rw [if_neg (by omega), if_pos (by omega)]

set_option maxHeartbeats 1000000 in
theorem along_any (N lo : Nat) (v : Value) (ps : List (KW × Nat)) (w : World) (hN1 : 1 ≤ N) (hN6 : N ≤ 6) (hWW : WW w lo ps v) (hK : ∀ p ∈ ps, p.1.1 ≤ 1) (hE : ∀ p ∈ ps, ∀ z ∈ p.1.2, 0 ≤ z ∧ z < (N : Int)) (hpl : ps.length ≤ 2097152) :
  Calls Try.prog 29 #[.int .i64 (N : Int), v] w fun e w' => ∃ T : Nat → Int, e = .returned (.agg #[.int .i64 ((N : Int)), .int .i64 (T 0), .int .i64 (T 1), .int .i64 (T 2), .int .i64 (T 3), .int .i64 (T 4), .int .i64 (T 5)]) ∧ Hid (∀ j, j < N → T j = alK (fun _ => -1) (ps.map (·.1)) j) ∧ Below w.heap.size w w' := by
  obtain ⟨A, c, rfl⟩ : ∃ A c, v = .slice A ps.length c := by
    rcases hWW.1.2 with ⟨rfl, h0⟩ | ⟨g, cap, cur, rfl, _⟩
    · exact ⟨none, 0, by rw [h0]⟩
    · exact ⟨_, _, rfl⟩
  have HK := Lib.hid hK
  have HE := Lib.hid hE
  have HWW := Lib.hid hWW
  clear hK hE hWW
  refine (callsIn_wide (n := 3)).1 ?_
  refine callsIn_of_wp_marks Try.func29 rfl trivial ?_ rfl
  simp only [Try.ntmps29, List.size_toArray, List.length_cons, List.length_nil, Nat.reduceAdd, Nat.reduceSub, Array.replicate_succ, Array.replicate_zero, List.push_toArray, List.append_toArray, List.nil_append, List.cons_append]
  gi_wp2_with fail
  refine ⟨trivial, (callsIn_wide.2 (still_any N hN6 _)).mono ?_⟩
  rintro e w1 ⟨T0, rfl, HT0, hb⟩
  have hR1 := (Cb.new w 0 (fun _ => 0)).below hb (by simp)
  have hB1 : Below w.heap.size w w1 := ((Below.refl _ w).alloc (Nat.le_refl _) _).trans (hb.mono (by simp))
  have hz0 : w.heap.size < w1.heap.size := by have := hb.size; simp at this; omega
  have hC := Cb.new w1 N T0
  have hR := hR1.alloc (.cells #[.int .i64 ((N : Int)), .int .i64 (T0 0), .int .i64 (T0 1), .int .i64 (T0 2), .int .i64 (T0 3), .int .i64 (T0 4), .int .i64 (T0 5)] 50)
  have hB2 : Below w.heap.size w (w1.alloc (.cells #[.int .i64 ((N : Int)), .int .i64 (T0 0), .int .i64 (T0 1), .int .i64 (T0 2), .int .i64 (T0 3), .int .i64 (T0 4), .int .i64 (T0 5)] 50)) := hB1.alloc (by omega) _
  have hz1 : (w1.alloc (.cells #[.int .i64 ((N : Int)), .int .i64 (T0 0), .int .i64 (T0 1), .int .i64 (T0 2), .int .i64 (T0 3), .int .i64 (T0 4), .int .i64 (T0 5)] 50)).heap.size = w1.heap.size + 1 := by simp
  clear hb hR1
  gi_wp2
  generalize w1.alloc (.cells #[.int .i64 ((N : Int)), .int .i64 (T0 0), .int .i64 (T0 1), .int .i64 (T0 2), .int .i64 (T0 3), .int .i64 (T0 4), .int .i64 (T0 5)] 50) = W1 at *
  refine wpIn_loop (I := fun a W => ∃ (t : Nat) (Ds : List Nat) (u7 u8 u14 u15 u16 u17 u18 u19 u20 u21 u22 u23 u24 u25 u26 u27 u28 u29 u30 u31 u32 u33 u34 u35 u36 : Value),
      a = { tmps := #[.int .i64 (N : Int), .slice A ps.length c, undef, undef, .pointer (some ⟨w.heap.size, 0, none⟩), .pointer (some ⟨w1.heap.size, 0, none⟩), undef, u7, u8, .int .i64 (N : Int), .agg #[.int .i64 ((N : Int)), .int .i64 (T0 0), .int .i64 (T0 1), .int .i64 (T0 2), .int .i64 (T0 3), .int .i64 (T0 4), .int .i64 (T0 5)], .slice A ps.length c, .int .i64 (ps.length : Int), .int .i64 (t : Int), u14, u15, u16, u17, u18, u19, u20, u21, u22, u23, u24, u25, u26, u27, u28, u29, u30, u31, u32, u33, u34, u35, u36, undef], defers := dfl Ds } ∧
      t ≤ ps.length ∧ Cb W w1.heap.size N (alK T0 ((ps.take t).map (·.1))) ∧ W1.grownBy W (some w1.heap.size) ∧ Dfs W1.heap.size Ds W)
    (μ := fun a _ => ps.length - (intOf (a.tmps.getD 13 undef)).toNat) ?start ?round
  case start =>
    refine ⟨0, [], _, _, _, _, _, _, _, _, _, _, _, _, _, _, _, _, _, _, _, _, _, _, _, _, _, rfl, by omega, hC, gb_self _ _, ⟨List.nodup_nil, fun D hD => by cases hD⟩⟩
  case round =>
    rintro a W ⟨t, Ds, u7, u8, u14, u15, u16, u17, u18, u19, u20, u21, u22, u23, u24, u25, u26, u27, u28, u29, u30, u31, u32, u33, u34, u35, u36, rfl, ht, hC, hG, hD⟩
    have hWs := hG.size
    by_cases hlt : t < ps.length
    · obtain ⟨p, hp⟩ : ∃ p, ps[t]? = some p := ⟨_, List.getElem?_eq_getElem hlt⟩
      have hpm := List.mem_of_getElem? hp
      have hk1 := HK.out p hpm
      have hent := HE.out p hpm
      have hpw := HWW.out.2 p hpm
      have hcl := wc_get ps t p hp
      have HAK : Hid (alK T0 ((ps.take (t + 1)).map (·.1)) = alS (alK T0 ((ps.take t).map (·.1))) p.1) := by
        show _ = _; rw [List.take_add_one, hp, List.map_append]; exact alK_snoc _ _ _
      obtain ⟨g, rfl⟩ : ∃ g, A = some ⟨g, 0, none⟩ := by
        rcases HWW.out.1.2 with ⟨_, h0⟩ | ⟨g, cap, cur, h1, _⟩
        · omega
        · cases h1; exact ⟨_, rfl⟩
      have hgl := (HWW.out.1.lt g rfl).2
      have c0 := HWW.out.1.cells (g := g) rfl _ _ hcl.1
      have c1 := HWW.out.1.cells (g := g) rfl _ _ hcl.2
      have ea : ∀ j, (⟨g, 0, none⟩ : Addr).add j = ⟨g, j, none⟩ := fun j => by unfold Addr.add; split <;> simp_all
      rw [ea] at c0 c1
      have hsame : ∀ j, j < w.heap.size → W.heap[j]? = w.heap[j]? := fun j hj => (hG.block j (by omega) (by simp; omega)).trans (hB2.block j hj)
      replace c0 := (World.cell?_of_block (hsame g hgl)).trans c0
      replace c1 := (World.cell?_of_block (hsame g hgl)).trans c1
      obtain ⟨⟨kd, L⟩, b⟩ := p
      simp only at c0 c1 hk1 hent hpw HAK
      obtain ⟨hL1, hbb, hR0⟩ := hpw
      have hRl := hR0.lt hL1
      have hRW : Ring W b L.length (ofL L) := hR0.same (fun j h1 h2 => hsame j (by omega))
      have hB7 := B2.alloc (B2.new W 58 (.int .i64 (kd : Int)) (.pointer (some ⟨b, 0, none⟩))) (.cells #[.int .i64 (kd : Int), .pointer (some ⟨b, 0, none⟩)] 58)
      have hWb := B2.new (W.alloc (.cells #[.int .i64 (kd : Int), .pointer (some ⟨b, 0, none⟩)] 58)) 58 (.int .i64 (kd : Int)) (.pointer (some ⟨b, 0, none⟩))
      rw [World.size_alloc] at hWb
      have h70 := B2.new W 58 (.int .i64 (kd : Int)) (.pointer (some ⟨b, 0, none⟩))
      have d0 := B2.c0 h70
      have d1 := B2.c1 h70
      have hbe : Below W.heap.size W ((W.alloc (.cells #[.int .i64 (kd : Int), .pointer (some ⟨b, 0, none⟩)] 58)).alloc (.cells #[.int .i64 (kd : Int), .pointer (some ⟨b, 0, none⟩)] 58)) := ((Below.refl _ W).alloc (Nat.le_refl _) _).alloc (by simp) _
      have hR4 := hRW.below hbe (by omega)
      have hG4 : W.grownBy ((W.alloc (.cells #[.int .i64 (kd : Int), .pointer (some ⟨b, 0, none⟩)] 58)).alloc (.cells #[.int .i64 (kd : Int), .pointer (some ⟨b, 0, none⟩)] 58)) none := gb_bel hbe
      have hsz4 : ((W.alloc (.cells #[.int .i64 (kd : Int), .pointer (some ⟨b, 0, none⟩)] 58)).alloc (.cells #[.int .i64 (kd : Int), .pointer (some ⟨b, 0, none⟩)] 58)).heap.size = W.heap.size + 2 := by simp
      have hC4 : Cb ((W.alloc (.cells #[.int .i64 (kd : Int), .pointer (some ⟨b, 0, none⟩)] 58)).alloc (.cells #[.int .i64 (kd : Int), .pointer (some ⟨b, 0, none⟩)] 58)) w1.heap.size N (alK T0 ((ps.take t).map (·.1))) := World.rowIs.of_block hC (hG4.block _ (by omega) (by simp))
      clear hcl hp hpm ea hR0 hbe h70
      gi_wp2_with fail
      refine ⟨trivial, (steps_in Fence.wide 2 trivial rfl _ _ _).mono ?_⟩
      rintro e W3 ⟨rfl, rfl⟩
      clear c0 c1 d0 d1
      gi_wp2
      generalize ((W.alloc (.cells #[.int .i64 (kd : Int), .pointer (some ⟨b, 0, none⟩)] 58)).alloc (.cells #[.int .i64 (kd : Int), .pointer (some ⟨b, 0, none⟩)] 58)) = W4 at *
      generalize alK T0 ((ps.take t).map (·.1)) = T1 at *
      refine wpIn_rangeFunc_ownG rfl (by omega) (gf := 54) (lb := #[.pointer (some ⟨W.heap.size + 1, 0, none⟩)]) rfl trivial (enters_of Try.func54 (by kernel_rfl) rfl)
        (steps_stops Fence.wide 2 trivial rfl (by omega) b L.length (W.heap.size + 1) hL1 kd (ofL L) W4 hR4 hWb) Kr_t (Kr_b (by omega) (by omega)) (Below.refl _ _) (fun _ => rfl)
        (fun (pre : List (Fin L.length)) V => Cb V w1.heap.size N ((pre.map (·.val)).foldl (stK (kd, L)) T1) ∧ W4.grownBy V (some w1.heap.size))
        (fun _ _ _ => False)
        (OwnFrom.and (Own.from (fun s A B row hs hg hr => cb_own _ _ (fun pre : List (Fin L.length) => (pre.map (·.val)).foldl (stK (kd, L)) T1) s A B row hs hg hr) _) (ownFrom_gb (Nat.le_refl _)))
        (fun _ _ _ _ _ hs _ _ => hs)
        ⟨hC4, gb_self _ _⟩
        ?a1 ?assign ?body ?done ?stop
      case assign =>
        intro l x V K hK
        gi_wp2
        exact hK
      case body =>
        rintro l pre x V ⟨hC5, hG5⟩ hlen5
        have hmx : Try.prog.follows .mixedOrders = true := by kernel_rfl
        have hVs := hG5.size
        have hRV : Ring V b L.length (ofL L) := hR4.same (fun j h1 h2 => hG5.block j (by omega) (by simp; omega))
        have h7V := hB7.same (hG5.block W.heap.size (by omega) (by simp; omega))
        have c70 := B2.c0 h7V
        have c71 := B2.c1 h7V
        have hFT : Hid (((pre ++ [x]).map (·.val)).foldl (stK (kd, L)) T1 = stK (kd, L) ((pre.map (·.val)).foldl (stK (kd, L)) T1) x.val) := by
          show _ = _; rw [List.map_append, List.foldl_append]; rfl
        generalize (pre.map (·.val)).foldl (stK (kd, L)) T1 = T2 at *
        have hcall := Lib.hid (movesFrom_any kd hk1 b L.length x.val x.isLt (ofL L) V hRV)
        have hRVl := hRV.lt hL1
        gi_wp2_with fail
        refine ⟨trivial, (CallsIn.inRound l (callsIn_wide.2 hcall.out)).mono ?_⟩
        rintro e w' ⟨rfl, hb'⟩
        have hC' := hC5.below hb' hC5.lt
        by_cases hmv : kd = 1 ∨ x.val + 1 < L.length
        · rw [decide_eq_true hmv]
          have hR' := hRV.below hb' hRVl
          have q1 := hR' x.val x.isLt
          obtain ⟨nx, hnx⟩ : ∃ nx, nx = if x.val + 1 = L.length then 0 else x.val + 1 := ⟨_, rfl⟩
          have hnl : nx < L.length := by rw [hnx]; have := x.isLt; split <;> omega
          have HST : Hid (stK (kd, L) T2 x.val = upI T2 (ofL L x.val) (ofL L nx)) := by show _ = _; rw [hnx]; exact stK_moves x.isLt hmv T2
          rw [← hnx] at q1
          have q2 := hR' nx hnl
          have c10 := B2.c0 q1
          have c11 := B2.c1 q1
          have c20 := B2.c0 q2
          have hz := hent (ofL L x.val) (by unfold ofL; rw [List.getElem?_eq_getElem x.isLt]; exact List.getElem_mem _)
          obtain ⟨u, hu⟩ := Int.eq_ofNat_of_zero_le hz.1
          rw [hu] at c10 hz
          have HU := Lib.hid hu
          have hc2 := hC'.at_ (k := u) (by omega)
          have hf2 := hC'.frozen (1 + u)
          have hS := hC'.set_ u (ofL L nx)
          have hg0 : w'.grownBy (w'.setCell ⟨w1.heap.size, 1 + u, none⟩ (.int .i64 (ofL L nx))) (some w1.heap.size) := ⟨rfl, rfl, rfl, (KeepsWalks.setCell w' _ _).size, fun j _ hj => Below.heap_setCell _ _ _ j (fun e => hj (by rw [e]))⟩
          have hg1 := gb_then (gb_weak (gb_bel hb') (some w1.heap.size)) hg0 (fun g e => .inr (by cases e; rfl))
          have hg2 : V.grownBy (w'.setCell ⟨w1.heap.size, 1 + u, none⟩ (.int .i64 (ofL L nx))).drew (some w1.heap.size) := ⟨hg1.os, hg1.tape, hg1.output, hg1.size, hg1.block⟩
          have hb6 : u < 6 := by omega
          have HG2 := Lib.hid hg2
          have HS := Lib.hid hS
          clear hu hmv hnx hnl hR' q1 q2 hC' hC5 hS hg0 hg1 hg2 hb' h7V c70 c71
          gi_wp2
          refine wpIn_region_still_tail 12 hmx (by kernel_rfl) (by kernel_rfl) ?_
          simp only [List.take_succ_cons, List.take_zero, List.drop_succ_cons, List.drop_zero]
          repeat still_step
          refine wpStill_nil ?_
          change wpListIn _ _ _ _ _ _ _ w'.drew
          have hc3 : w'.drew.cell? ⟨w1.heap.size, 1 + u, none⟩ = some (.int .i64 (T2 u)) := hc2
          have hf3 : w'.drew.frozen? ⟨w1.heap.size, 1 + u, none⟩ = false := hf2
          clear c10 c11 c20 hc2 hf2
          gi_wp2
          all_goals refine ⟨KeepsFrom.of_grownBy HG2.out (fun j e => by cases e; omega), ⟨fun j h1 h2 => HG2.out.block j (by omega) (by simp; omega), HG2.out.block _ (by omega) (by simp; omega)⟩, ?_, gb_then hG5 HG2.out (fun g e => .inr (by cases e; rfl))⟩
          all_goals rw [hFT.out, HST.out]
          all_goals exact Cb.congr HS.out (fun j _ => by unfold upI; rw [HU.out]; by_cases e : j = u <;> simp [e] <;> omega)
        · rw [decide_eq_false hmv]
          clear c70 c71
          gi_wp2
          refine ⟨KeepsFrom.of_grownBy (gb_bel hb') (fun j e => by cases e), ⟨fun j h1 h2 => hb'.block j (by omega), hb'.block _ (by omega)⟩, ?_, gb_then hG5 (gb_bel hb') (fun g e => by cases e)⟩
          rw [hFT.out, stK_still hk1 hmv]; exact hC'
      case done =>
        rintro D ys V hDlo hys ⟨hC5, hG5⟩ hK5
        have hT : (ys.map (·.val)).foldl (stK (kd, L)) T1 = alS T1 (kd, L) := by
          rw [hys]
          exact (stK_range (kd, L) hk1 hL1 T1 _ (Nat.le_refl _)).trans (pT_all _ _)
        rw [hT, ← HAK.out] at hC5
        have hGV : W.grownBy V (some w1.heap.size) := gb_then (gb_weak hG4 _) hG5 (fun g e => .inr (by cases e; rfl))
        have hDV : Dfs W1.heap.size (D :: Ds) V := by
          have h0 : Dfs W1.heap.size Ds V := Dfs.same hD (fun k hk => hGV.block k (Array.getElem?_eq_some_iff.1 hk).1 (by
            rintro e
            obtain rfl : k = w1.heap.size := by simpa using e
            obtain ⟨c, hb, _⟩ := hC
            rw [hb] at hk; cases hk))
          refine ⟨List.nodup_cons.2 ⟨fun hm => ?_, h0.1⟩, fun E hE => ?_⟩
          · have := hD.lt D hm; omega
          · rcases List.mem_cons.1 hE with rfl | hE
            · exact ⟨by omega, hK5⟩
            · exact h0.2 E hE
        clear hT
        gi_wp2
        refine ⟨⟨t + 1, D :: Ds, _, _, _, _, _, _, _, _, _, _, _, _, _, _, _, _, _, _, _, _, _, _, _, _, _, rfl, by omega, hC5, gb_then hG hGV (fun g e => .inr (by cases e; rfl)), hDV⟩, ?_⟩
        simp [intOf]; omega
      case stop =>
        rintro D c pre V _ _ h _
        exact h.elim
    · obtain rfl : t = ps.length := by omega
      rw [List.take_length] at hC
      have hR' : Cb W w.heap.size 0 (fun _ => 0) := World.rowIs.of_block hR (hG.block _ (by omega) (by simp; omega))
      have hBW : Below w.heap.size w W := hB2.grown hG (by omega) (fun g e => by cases e; omega)
      have HTT : Hid (∀ j, j < N → alK T0 (ps.map (·.1)) j = alK (fun _ => -1) (ps.map (·.1)) j) := alK_cong (P := fun j => j < N) _ (fun j hj => by rw [HT0.out j, if_pos hj])
      generalize alK T0 (ps.map (·.1)) = T9 at *
      have HD : Hid (Dfs W1.heap.size Ds ((((((((W).setCell ⟨w.heap.size, 0, none⟩ (.int .i64 (N))).setCell ⟨w.heap.size, 1, none⟩ (.int .i64 (T9 0))).setCell ⟨w.heap.size, 2, none⟩ (.int .i64 (T9 1))).setCell ⟨w.heap.size, 3, none⟩ (.int .i64 (T9 2))).setCell ⟨w.heap.size, 4, none⟩ (.int .i64 (T9 3))).setCell ⟨w.heap.size, 5, none⟩ (.int .i64 (T9 4))).setCell ⟨w.heap.size, 6, none⟩ (.int .i64 (T9 5)))) := Dfs.set7 hD hR'
      have HF : Hid (Cb ((((((((W).setCell ⟨w.heap.size, 0, none⟩ (.int .i64 (N))).setCell ⟨w.heap.size, 1, none⟩ (.int .i64 (T9 0))).setCell ⟨w.heap.size, 2, none⟩ (.int .i64 (T9 1))).setCell ⟨w.heap.size, 3, none⟩ (.int .i64 (T9 2))).setCell ⟨w.heap.size, 4, none⟩ (.int .i64 (T9 3))).setCell ⟨w.heap.size, 5, none⟩ (.int .i64 (T9 4))).setCell ⟨w.heap.size, 6, none⟩ (.int .i64 (T9 5))) w.heap.size N T9) := Cb.full hR'
      have HB : Hid (Below w.heap.size w ((((((((W).setCell ⟨w.heap.size, 0, none⟩ (.int .i64 (N))).setCell ⟨w.heap.size, 1, none⟩ (.int .i64 (T9 0))).setCell ⟨w.heap.size, 2, none⟩ (.int .i64 (T9 1))).setCell ⟨w.heap.size, 3, none⟩ (.int .i64 (T9 2))).setCell ⟨w.heap.size, 4, none⟩ (.int .i64 (T9 3))).setCell ⟨w.heap.size, 5, none⟩ (.int .i64 (T9 4))).setCell ⟨w.heap.size, 6, none⟩ (.int .i64 (T9 5)))) := below_set7 hBW (Nat.le_refl _) _ _ _ _ _ _ _
      obtain ⟨a0, a1, a2, a3, a4, a5, a6⟩ := hR'.all
      obtain ⟨b0, b1, b2, b3, b4, b5, b6⟩ := hR'.frees
      obtain ⟨c0, c1, c2, c3, c4, c5, c6⟩ := hC.all
      clear hD hC hR' hBW hG HWW
      gi_wp2
      refine dfs_leave W1.heap.size (fun V => Cb V w.heap.size N T9 ∧ Below w.heap.size w V) ?_ ?_ Ds _ HD.out ⟨HF.out, HB.out⟩
      · rintro V D hlo hV ⟨h1, h2⟩
        refine ⟨World.rowIs.of_block h1 (World.putObj_heap_other (by omega)), h2.trans ((Below.refl _ V).grown (grownBy_putObj' V D _) (by have := h2.size; omega) (fun g e => by cases e; omega))⟩
      · rintro V ⟨h1, h2⟩
        obtain ⟨q0, q1, q2, q3, q4, q5, q6⟩ := h1.all
        refine ⟨.agg #[.int .i64 ((N : Int)), .int .i64 (T9 0), .int .i64 (T9 1), .int .i64 (T9 2), .int .i64 (T9 3), .int .i64 (T9 4), .int .i64 (T9 5)], ?_, T9, rfl, HTT.out, h2⟩
        simp [results, Try.f29, go_sem, q0, q1, q2, q3, q4, q5, q6]

theorem implWaysChart_any (n : Int) (lo1 hi1 lo2 hi2 : Nat) (ad bd : Addr) (n1 n2 c1 c2 : Nat) (Cs Ys : List (List Int)) (w : World) (h1 : OSS w lo1 hi1 (.slice (some ad) n1 c1) Cs) (h2 : OSS w lo2 hi2 (.slice (some bd) n2 c2) Ys)
    (hn1 : n1 ≤ 1048576) (hn2 : n2 ≤ 1048576) (hl1 : ∀ L ∈ Cs, L.length ≤ 1048576) (hl2 : ∀ L ∈ Ys, L.length ≤ 1048576) :
    Calls Try.prog 9 #[.int .i64 n, .slice (some ad) n1 c1, .slice (some bd) n2 c2] w fun e w' => ∃ v, e = .returned (.tuple #[v, .bool (wcB n Cs Ys)]) ∧ NewL w (wcL n Cs Ys) v w' :=
  implWaysChart_of (fun N lo v ps W h1 h2 h3 h4 h5 h6 => along_any N lo v ps W h1 h2 h3 h4 h5 h6) n lo1 hi1 lo2 hi2 ad bd n1 n2 c1 c2 Cs Ys w h1 h2 hn1 hn2 hl1 hl2
end

end Go.Proofs.Ytonoepggcgjfhaa
