/-
  spec: all ways of a chart, chains and cycles.
-/
import Derived.Test.YtckppfgooflooaaL2A
namespace Go.Proofs.Ytckppfgooflooaa
set_option maxRecDepth 100000
open Go.RowKit

theorem bit0_fin : ∀ (m : Fin 64) (z : Fin 6), (bits BinOp.and IntKind.i64 ((m.val : Int) / 2 ^ z.val) 1 == 0) = !m.val.testBit z.val := by decide +kernel
theorem info_partsS : (Try.prog.info? 27).map (fun i => (i.zero, i.size, i.bytes)) = some (some (.slice none 0 0), 1, 24) := info_ints

/-- two lists of lists, no two of whose blocks meet -/
def Two (w : World) (base : Nat) (v1 v2 : Value) (Cs Ys : List (List Int)) : Prop :=
  ∃ vs1 vs2, w.ownsRow base 27 1 v1 Cs.length vs1 ∧ w.ownsRow base 27 1 v2 Ys.length vs2 ∧ (∀ g, v1.ownBlock = some g → v2.ownBlock = some g → False) ∧ vs1.length = Cs.length ∧ Inn w base w.heap.size (vs1 ++ vs2) (Cs ++ Ys)
section
variable {w w' : World} {base : Nat} {v1 v2 v v' u : Value} {Cs Ys Ls : List (List Int)} {vs : List Value}
theorem Two.below (h : Two w base v1 v2 Cs Ys) (hb : Below w.heap.size w w') : Two w' base v1 v2 Cs Ys := by
  obtain ⟨vs1, vs2, h1, h2, h3, h4, h5⟩ := h
  exact ⟨vs1, vs2, own_below h1 hb, own_below h2 hb, h3, h4, (h5.below hb).more (Nat.le_refl _) hb.size⟩
/-- one list more among the inner ones, an outer row having grown -/
theorem inn_app {w1 : World} {n : Nat} {xs : List Value} {L : List Int} (h1 : w.ownsRow base 27 1 v n xs) (h3 : Inn w base w.heap.size vs Ls) (hu : OI w base w.heap.size u L)
    (ha : ∀ (i : Nat) (u' : Value), vs[i]? = some u' → ∀ g : Nat, u'.ownBlock = some g → u.ownBlock = some g → False)
    (hgrow : (w.alloc (.cells #[u] 27)).grownBy w1 v.ownBlock) : Inn w1 base w1.heap.size (vs ++ [u]) (Ls ++ [L]) := by
  have hsz : w.heap.size ≤ w1.heap.size := by have := hgrow.size; simp at this; omega
  have hkeep : ∀ k, k < w.heap.size → v.ownBlock ≠ some k → w1.heap[k]? = w.heap[k]? := fun k hk hne =>
    (hgrow.block k (by simp; omega) (fun e => hne e.symm)).trans (Below.heap_alloc w _ k hk)
  have hty : ∀ (x : Value) (g : Nat) (M : List Int), OI w base w.heap.size x M → x.ownBlock = some g → v.ownBlock ≠ some g := fun x g M hx hg he => by
    rcases h1.2 with ⟨rfl, _⟩ | ⟨g', cap, cur, rfl, _, hh, _⟩
    · simp [Value.ownBlock] at he
    · have : g' = g := by simpa [Value.ownBlock] using he
      subst this
      exact own_blk_ne hx.1 hh (by decide) hg
  have h3' := h3.snoc hu ha
  refine (h3'.same fun i x hx g hg => ?_).more (Nat.le_refl _) hsz
  have hl : i < (vs ++ [u]).length := (List.getElem?_eq_some_iff.1 hx).1
  have o := h3'.own i x _ hx (List.getElem?_eq_getElem (show i < (Ls ++ [L]).length by rw [← h3'.len]; exact hl))
  exact hkeep g (h3'.lt hx hg).2.2 (hty x g _ o hg)
/-- a new list is apart from all older ones -/
theorem fresh_apart {w0 : World} {b0 : Nat} {L : List Int} (h : Inn w0 base b0 vs Ls) (hw : w0.heap.size ≤ w'.heap.size) (hu : w.ownsRow w'.heap.size 3 1 u L.length (ivs L)) :
    ∀ (i : Nat) (u' : Value), vs[i]? = some u' → ∀ g : Nat, u'.ownBlock = some g → u.ownBlock = some g → False := fun i u' hi g e1 e2 => by
  have a := (h.lt hi e1).2.2
  have b := (hu.lt g e2).1
  omega
theorem Two.app1 {w1 : World} {L : List Int} {vs1 : List Value} (h1 : w.ownsRow base 27 1 v1 Cs.length vs1) (h2 : w.ownsRow base 27 1 v2 0 []) (h3 : ∀ g, v1.ownBlock = some g → v2.ownBlock = some g → False) (h4 : Inn w base w.heap.size vs1 Cs)
    (hu : OI w base w.heap.size u L) (ha : ∀ (i : Nat) (u' : Value), vs1[i]? = some u' → ∀ g : Nat, u'.ownBlock = some g → u.ownBlock = some g → False)
    (hown' : w1.ownsRow base 27 1 v' (Cs.length + 1) (vs1 ++ [u])) (hgrow : (w.alloc (.cells #[u] 27)).grownBy w1 v1.ownBlock) (hat : v'.ownBlock = v1.ownBlock ∨ v'.ownBlock = some (w.alloc (.cells #[u] 27)).heap.size) :
    Two w1 base v' v2 (Cs ++ [L]) [] := by
  have h2' : w1.ownsRow base 27 1 v2 0 [] := own_same h2 fun g hg => (hgrow.block g (by have := (h2.lt g hg).2; simp; omega) (fun e => h3 g e.symm hg)).trans (Below.heap_alloc w _ g (h2.lt g hg).2)
  refine ⟨vs1 ++ [u], [], by rw [List.length_append]; exact hown', h2', fun g e1 e2 => ?_, by have := hown'.1; simp at this ⊢; omega, ?_⟩
  · rcases hat with e | e
    · exact h3 g (by rw [← e]; exact e1) e2
    · rw [e] at e1; injection e1 with e1; have := (h2.lt g e2).2; simp at e1; omega
  · rw [List.append_nil, List.append_nil]
    exact inn_app h1 h4 hu ha hgrow
theorem Two.app2 {w1 : World} {L : List Int} {vs1 vs2 : List Value} (h1 : w.ownsRow base 27 1 v1 Cs.length vs1) (h2 : w.ownsRow base 27 1 v2 Ys.length vs2) (h3 : ∀ g, v1.ownBlock = some g → v2.ownBlock = some g → False) (hl : vs1.length = Cs.length) (h4 : Inn w base w.heap.size (vs1 ++ vs2) (Cs ++ Ys))
    (hu : OI w base w.heap.size u L) (ha : ∀ (i : Nat) (u' : Value), (vs1 ++ vs2)[i]? = some u' → ∀ g : Nat, u'.ownBlock = some g → u.ownBlock = some g → False)
    (hown' : w1.ownsRow base 27 1 v' (Ys.length + 1) (vs2 ++ [u])) (hgrow : (w.alloc (.cells #[u] 27)).grownBy w1 v2.ownBlock) (hat : v'.ownBlock = v2.ownBlock ∨ v'.ownBlock = some (w.alloc (.cells #[u] 27)).heap.size) :
    Two w1 base v1 v' Cs (Ys ++ [L]) := by
  have h1' : w1.ownsRow base 27 1 v1 Cs.length vs1 := own_same h1 fun g hg => (hgrow.block g (by have := (h1.lt g hg).2; simp; omega) (fun e => h3 g hg e.symm)).trans (Below.heap_alloc w _ g (h1.lt g hg).2)
  refine ⟨vs1, vs2 ++ [u], h1', by rw [List.length_append]; exact hown', fun g e1 e2 => ?_, hl, ?_⟩
  · rcases hat with e | e
    · exact h3 g e1 (by rw [← e]; exact e2)
    · rw [e] at e2; injection e2 with e2; have := (h1.lt g e1).2; simp at e2; omega
  · rw [← List.append_assoc, ← List.append_assoc]
    exact inn_app h2 h4 hu ha hgrow
end

theorem inn_last {w : World} {base hi : Nat} {vs : List Value} {Ls : List (List Int)} {u : Value} {L : List Int} (h : Inn w base hi (vs ++ [u]) (Ls ++ [L])) : OI w base hi u L := by
  have hl := h.len
  simp at hl
  exact h.own vs.length u L (by simp) (by rw [hl]; simp)
theorem below_app {w wr w1 : World} {base n : Nat} {v : Value} {xs : List Value} {o : Obj} (hB : Below w.heap.size w wr) (hown : wr.ownsRow base 27 1 v n xs) (hb : w.heap.size ≤ base) (hgrow : (wr.alloc o).grownBy w1 v.ownBlock) : Below w.heap.size w w1 := by
  refine (hB.alloc hB.size _).grown hgrow ?_ (fun g hg => by have := (hown.lt g hg).1; omega)
  have := hB.size; simp; omega
/-- a mask grows by a list, point by point -/
theorem orL_step {L : List Int} {m t : Nat} (ht : t < L.length) : orL m (L.take (t + 1)) = orL m (L.take t) ||| 1 <<< (L[t]?.getD 0).toNat := by rw [take_snoc_get L ht, orL_snoc]
theorem orL_take_lt {L : List Int} {m t : Nat} (hm : m < 64) (h : ∀ z ∈ L, 0 ≤ z ∧ z < 6) : orL m (L.take t) < 64 := orL_lt _ _ hm (fun z hz => h z (List.mem_of_mem_take hz))
theorem chL_le (F : Nat → Int) (n m : Nat) : ∀ k, (chL F n m k).length ≤ k
  | 0 => Nat.le_refl _
  | k + 1 => by rw [chL_succ]; have := chL_le F n m k; split <;> simp <;> omega
theorem cyL_le (F : Nat → Int) (n q : Nat) : ∀ k, (cyL F n q k).length ≤ k
  | 0 => Nat.le_refl _
  | k + 1 => by rw [cyL_succ]; have := cyL_le F n q k; split <;> simp <;> omega
theorem raN_range {zs : List Int} (h : isC zs = true) : RangeM zs.length (ofL zs) (raN zs) := fun i hi => by
  have hF := isC_CH h
  have e : raN zs = domL (mv (trn zs.length (ofL zs)) zs.length) := by
    unfold raN; rw [mvT_yes h, fk_yes h]; rfl
  rw [e, dom_bit hF.six (CH_trn hF).en zs.length (Nat.le_refl _) i, decide_eq_true hi, Bool.true_and, decide_eq_false_iff_not, NR_trn hF hi]
  exact Decidable.not_not
theorem raN_lt (zs : List Int) : raN zs < 64 := domL_lt _

set_option maxHeartbeats 2000000 in
theorem l2Ways_any (A : Option Addr) (n c : Nat) (zs : List Int) (w : World) (h : RI w A n zs) (hC : isC zs = true) :
    Calls Try.prog 50 #[.slice A n c] w fun e w' => ∃ v1 v2, e = .returned (.tuple #[v1, v2]) ∧ v2 ≠ .slice none 0 0 ∧ Two w' w.heap.size v1 v2 (chL (ofL zs) n (raN zs) n) (cyL (ofL zs) n (orSS 0 (chL (ofL zs) n (raN zs) n)) n) ∧ Below w.heap.size w w' := by
  obtain rfl := h.len
  obtain ⟨i1, hj, hj0, hj1, hj2⟩ := info_parts info_partsS
  have h6 := (isC_len hC).2
  have hE := isC_ent hC
  have HF := Lib.hid (isC_CH hC)
  have HR := Lib.hid (raN_range hC)
  have hrl := raN_lt zs
  have HT : Hid (domL (mv (ofL (LT zs.length (turnL zs.length (mv (ofL zs) zs.length)))) zs.length) = raN zs) := by
    show _ = _; unfold raN; rw [mvT_yes hC, fk_yes hC]; rw [mv_congr (fun j hj => ofL_LT _ j hj)]
  have hpos := (isC_len hC).1
  clear hC
  generalize hm : raN zs = m at HR hrl HT
  clear hm
  go_enter Try.func50, Try.ntmps50
  have hL1 : ((w.alloc (.cells #[] 27)).alloc (.cells #[] 27)).ownsRow w.heap.size 27 1 (.slice (some ⟨w.heap.size, 0, none⟩) 0 0) 0 [] :=
    (World.ownsRow_lit (base := w.heap.size) (e := 27) (size := 1) w #[] 0 (Nat.le_refl _) (by simp [maxLen]) rfl).alloc _
  have hL2 : ((w.alloc (.cells #[] 27)).alloc (.cells #[] 27)).ownsRow w.heap.size 27 1 (.slice (some ⟨w.heap.size + 1, 0, none⟩) 0 0) 0 [] := by
    have := World.ownsRow_lit (base := w.heap.size) (e := 27) (size := 1) (w.alloc (.cells #[] 27)) #[] 0 (by simp) (by simp [maxLen]) rfl
    simpa using this
  have hB0 : Below w.heap.size w ((w.alloc (.cells #[] 27)).alloc (.cells #[] 27)) := ((Below.refl _ _).alloc (Nat.le_refl _) _).alloc (by simp) _
  have hTw : Two ((w.alloc (.cells #[] 27)).alloc (.cells #[] 27)) w.heap.size (.slice (some ⟨w.heap.size, 0, none⟩) 0 0) (.slice (some ⟨w.heap.size + 1, 0, none⟩) 0 0) [] [] :=
    ⟨[], [], hL1, hL2, fun g e1 e2 => by simp [Value.ownBlock] at e1 e2; omega, rfl, Inn.nil⟩
  have hr0 := h.below hB0
  clear hL1 hL2
  go_wp2_with fail
  generalize (w.alloc (.cells #[] 27)).alloc (.cells #[] 27) = w0 at hTw hB0 hr0 ⊢
  refine (l1Turned_any _ _ _ _ _ hr0 h6 hE).mono ?_
  rintro e w1 ⟨v, rfl, hown, hb1⟩
  rw [LT_length] at hown
  obtain ⟨g, cp, rfl, _, _⟩ := hown.form (by omega)
  have hr := RI.of_own hown
  have hTw1 := hTw.below hb1
  have hB1 := hB0.trans (hb1.mono hB0.size)
  clear hTw hr0 hown
  go_wp2_with fail
  refine (l1Domain_any _ _ _ _ _ hr h6 (tu_ent _)).mono ?_
  rintro e w2 ⟨rfl, rfl⟩
  rw [HT.out]
  clear hr HT hb1 hB0
  go_wp2
  go_loopw [4, 6, 8] (fun v s i wr => ∃ k : Nat, k ≤ zs.length ∧ i = .int .i64 k ∧ s = .int .i64 (orSS 0 (chL (ofL zs) zs.length m k) : Nat) ∧ Two wr w.heap.size v (.slice (some ⟨w.heap.size + 1, 0, none⟩) 0 0) (chL (ofL zs) zs.length m k) [] ∧ Below w.heap.size w wr) (fun _ _ i _ => zs.length - (intOf i).toNat)
  case atStart => exact ⟨0, Nat.zero_le _, rfl, rfl, hTw1, hB1⟩
  case round =>
    clear hTw1 hB1
    obtain ⟨k, hk, rfl, rfl, hTw, hB⟩ := hrel
    have hent := chL_ent (m := m) HF.out k hk
    have hsl := orSS_lt (chL (ofL zs) zs.length m k) 0 (by omega) (fun L hL z hz => by have := hent L hL z hz; omega)
    by_cases hlt : k < zs.length
    · have hbit := bit0_fin ⟨m, hrl⟩ ⟨k, by omega⟩
      simp only at hbit
      have hcs := chL_succ (ofL zs) zs.length m k
      cases hb : m.testBit k
      · rw [hb] at hbit
        rw [if_neg (by rw [hb]; simp)] at hcs
        have HCS := Lib.hid hcs
        have hwl := way_len HF.out hlt
        have hwe := way_ent HF.out hlt
        have hcl := chL_le (ofL zs) zs.length m k
        clear hcs hb
        go_wp2_with fail
        refine (l2Way_any A _ c k zs wr (h.below hB) HF.out hlt).mono ?_
        rintro e w3 ⟨v3, rfl, hown, hb3⟩
        have hTw3 := hTw.below hb3
        have hB3 := hB.trans (hb3.mono hB.size)
        have hs3 := hB.size
        obtain ⟨vs1, vs2, a1, a2, a3, a4, a5⟩ := hTw
        obtain rfl : vs2 = [] := List.eq_nil_of_length_eq_zero (by have := a2.1; simpa using this)
        rw [List.append_nil, List.append_nil] at a5
        have hap := fresh_apart a5 (Nat.le_refl _) hown
        have a1' := own_below a1 hb3
        have a2' := own_below a2 hb3
        have a5' := (a5.below hb3).more (Nat.le_refl _) hb3.size
        have hou := (OI.of hown).less hs3
        generalize wayL (ofL zs) zs.length k = W at hown hwl hwe hou hap HCS
        obtain ⟨Av, cv, rfl⟩ := own_slice hown
        clear a1 a2 a5 hTw3 hown
        generalize chL (ofL zs) zs.length m k = Cs at hsl hcl a1' a4 a5' HCS hent
        have p2 : Cs.length + 1 ≤ maxLen := by unfold maxLen; omega
        have p3 : (Cs.length + 1) * 24 ≤ 140737488355328 := by omega
        have p4 : ∀ o : Obj, w.heap.size ≤ (w3.alloc o).heap.size := fun o => by have := hB3.size; simp; omega
        go_wp2_with (at_builtin; refine wpList_append_own_at _ rfl _ _ 28 rfl w.heap.size 27 i1 (.slice none 0 0) 1 24 Try.underlying28 hj hj0 hj1 hj2 rfl (by decide) _ _ _ rfl (a1'.alloc _) ⟨w3.heap.size, 0, none⟩ 1 1 [.slice Av W.length cv] rfl rfl (cell_one_new _ _ _) (by simp [Value.oneCell']) p2 p3 (p4 _) ?_; intro v' w4 hown' hgrow _ hat)
        have hTwo := Two.app1 a1' a2' a3 a5' hou hap hown' hgrow hat
        have hin := inn_app a1' a5' hou hap hgrow
        have hB4 := below_app hB3 a1' (Nat.le_refl _) hgrow
        have hrW := (ri_oi (inn_last hin)).2
        have hwe6 : ∀ z ∈ W, 0 ≤ z ∧ z < 6 := fun z hz => by have := hwe z hz; omega
        have HTW := Lib.hid hTwo
        have HB4 := Lib.hid hB4
        have HOR := Lib.hid (orSS_snoc 0 Cs W)
        clear hTwo hin hB4 hown' hgrow hat a1' a2' a3 a5' hou hap hB hB3 hb3 hwe
        go_loop [6, 10] (fun s i => ∃ t : Nat, t ≤ W.length ∧ i = .int .i64 t ∧ s = .int .i64 (orL (orSS 0 Cs) (W.take t) : Nat)) (fun _ i => W.length - (intOf i).toNat)
        case atStart => exact ⟨0, Nat.zero_le _, rfl, rfl⟩
        case round =>
          obtain ⟨t, ht, rfl, rfl⟩ := hrel
          by_cases htl : t < W.length
          · obtain ⟨ad, rfl, hab, hc⟩ := hrW.at_ htl
            have hz := hwe6 (W[t]?.getD 0) (by rw [List.getElem?_eq_getElem htl]; exact List.getElem_mem _)
            have HST := Lib.hid (orL_step (m := orSS 0 Cs) htl)
            have hlt' := orL_take_lt (t := t) hsl hwe6
            have hset := set_is (m := orL (orSS 0 Cs) (W.take t)) hlt' hz.1 hz.2
            generalize orL (orSS 0 Cs) (W.take t) = mt at HST hlt' hset
            generalize W[t]?.getD 0 = z at hc hz HST hset
            obtain ⟨u, rfl⟩ := Int.eq_ofNat_of_zero_le hz.1
            rw [Int.toNat_natCast] at hset HST
            have HM := Lib.hid hset
            clear hset hrW
            go_wp2
            go_round
            case rel => exact ⟨t + 1, by omega, by go_num, by rw [HST.out, ← HM.out]⟩
            case measure => simp [intOf]; omega
          · obtain rfl : t = W.length := by omega
            rw [List.take_length, ← HOR.out, ← HCS.out]
            go_wp2
            go_roundw
            case rel => exact ⟨k + 1, by omega, by go_num, by rw [HCS.out], by rw [HCS.out]; exact HTW.out, HB4.out⟩
            case measure => simp [intOf]; omega
      · rw [hb] at hbit
        rw [if_pos hb] at hcs
        have HCS := Lib.hid hcs
        clear hcs hb
        go_wp2
        go_roundw
        case rel => exact ⟨k + 1, by omega, by go_num, by rw [HCS.out], by rw [HCS.out]; exact hTw, hB⟩
        case measure => simp [intOf]; omega
    · obtain rfl : k = zs.length := by omega
      have hent1 := hent
      clear hent
      generalize hCs : chL (ofL zs) zs.length m zs.length = Cs at hTw hent1 hsl ⊢
      generalize hq : orSS 0 Cs = q at hsl ⊢
      have HCs := Lib.hid hCs
      clear hCs
      go_wp2
      go_loopw [5, 6, 11] (fun v2 s i wr2 => ∃ k : Nat, k ≤ zs.length ∧ i = .int .i64 k ∧ v2 ≠ .slice none 0 0 ∧ s = .int .i64 (orSS q (cyL (ofL zs) zs.length q k) : Nat) ∧ Two wr2 w.heap.size u4 v2 Cs (cyL (ofL zs) zs.length q k) ∧ Below w.heap.size w wr2) (fun _ _ i _ => zs.length - (intOf i).toNat)
      case atStart => exact ⟨0, Nat.zero_le _, rfl, by simp, rfl, hTw, hB⟩
      case round =>
        clear hTw hB hk hlt
        obtain ⟨k, hk, rfl, hv2, rfl, hTw, hB⟩ := hrel
        have HV2 := Lib.hid hv2
        clear hv2
        have hent := cyL_ent (m := q) HF.out k hk
        have hsl2 := orSS_lt (cyL (ofL zs) zs.length q k) q hsl (fun L hL z hz => by have := hent L hL z hz; omega)
        by_cases hlt : k < zs.length
        · have hbit := bit0_fin ⟨orSS q (cyL (ofL zs) zs.length q k), hsl2⟩ ⟨k, by omega⟩
          simp only at hbit
          have hcs := cyL_succ (ofL zs) zs.length q k
          cases hb : (orSS q (cyL (ofL zs) zs.length q k)).testBit k
          · rw [hb] at hbit
            rw [if_neg (by rw [hb]; simp)] at hcs
            have HCS := Lib.hid hcs
            have hwl := way_len HF.out hlt
            have hwe := way_ent HF.out hlt
            have hcl := cyL_le (ofL zs) zs.length q k
            clear hcs hb
            go_wp2_with fail
            refine (l2Way_any A _ c k zs wr (h.below hB) HF.out hlt).mono ?_
            rintro e w3 ⟨v3, rfl, hown, hb3⟩
            have hB3 := hB.trans (hb3.mono hB.size)
            have hs3 := hB.size
            obtain ⟨vs1, vs2, a1, a2, a3, a4, a5⟩ := hTw
            have hap := fresh_apart a5 (Nat.le_refl _) hown
            have a1' := own_below a1 hb3
            have a2' := own_below a2 hb3
            have a5' := (a5.below hb3).more (Nat.le_refl _) hb3.size
            have hou := (OI.of hown).less hs3
            generalize wayL (ofL zs) zs.length k = W at hown hwl hwe hou hap HCS
            obtain ⟨Av, cv, rfl⟩ := own_slice hown
            clear a1 a2 a5 hown hbit
            generalize cyL (ofL zs) zs.length q k = Ys at hsl2 hcl a2' a5' HCS hent
            have p2 : Ys.length + 1 ≤ maxLen := by unfold maxLen; omega
            have p3 : (Ys.length + 1) * 24 ≤ 140737488355328 := by omega
            have p4 : ∀ o : Obj, w.heap.size ≤ (w3.alloc o).heap.size := fun o => by have := hB3.size; simp; omega
            go_wp2_with (at_builtin; refine wpList_append_own_at _ rfl _ _ 28 rfl w.heap.size 27 i1 (.slice none 0 0) 1 24 Try.underlying28 hj hj0 hj1 hj2 rfl (by decide) _ _ _ rfl (a2'.alloc _) ⟨w3.heap.size, 0, none⟩ 1 1 [.slice Av W.length cv] rfl rfl (cell_one_new _ _ _) (by simp [Value.oneCell']) p2 p3 (p4 _) ?_; intro v' w4 hown' hgrow hnil hat)
            have HV3 : Hid (v' ≠ .slice none 0 0) := fun e => by have := (hnil.1 e).2; omega
            clear hnil
            have hTwo := Two.app2 a1' a2' a3 a4 a5' hou hap hown' hgrow hat
            have hin := inn_app a2' a5' hou hap hgrow
            have hB4 := below_app hB3 a2' (Nat.le_refl _) hgrow
            have hrW := (ri_oi (inn_last hin)).2
            have hwe6 : ∀ z ∈ W, 0 ≤ z ∧ z < 6 := fun z hz => by have := hwe z hz; omega
            have HTW := Lib.hid hTwo
            have HB4 := Lib.hid hB4
            have HOR := Lib.hid (orSS_snoc q Ys W)
            clear hTwo hin hB4 hown' hgrow hat a1' a2' a3 a5' hou hap hB hB3 hb3 hwe
            go_loop [6, 13] (fun s i => ∃ t : Nat, t ≤ W.length ∧ i = .int .i64 t ∧ s = .int .i64 (orL (orSS q Ys) (W.take t) : Nat)) (fun _ i => W.length - (intOf i).toNat)
            case atStart => exact ⟨0, Nat.zero_le _, rfl, rfl⟩
            case round =>
              obtain ⟨t, ht, rfl, rfl⟩ := hrel
              by_cases htl : t < W.length
              · obtain ⟨ad, rfl, hab, hc⟩ := hrW.at_ htl
                have hz := hwe6 (W[t]?.getD 0) (by rw [List.getElem?_eq_getElem htl]; exact List.getElem_mem _)
                have HST := Lib.hid (orL_step (m := orSS q Ys) htl)
                have hlt' := orL_take_lt (t := t) hsl2 hwe6
                have hset := set_is (m := orL (orSS q Ys) (W.take t)) hlt' hz.1 hz.2
                generalize orL (orSS q Ys) (W.take t) = mt at HST hlt' hset
                generalize W[t]?.getD 0 = z at hc hz HST hset
                obtain ⟨u, rfl⟩ := Int.eq_ofNat_of_zero_le hz.1
                rw [Int.toNat_natCast] at hset HST
                have HM := Lib.hid hset
                clear hset hrW
                go_wp2
                go_round
                case rel => exact ⟨t + 1, by omega, by go_num, by rw [HST.out, ← HM.out]⟩
                case measure => simp [intOf]; omega
              · obtain rfl : t = W.length := by omega
                rw [List.take_length, ← HOR.out, ← HCS.out]
                go_wp2
                go_roundw
                case rel => exact ⟨k + 1, by omega, by go_num, HV3.out, by rw [HCS.out], by rw [HCS.out]; exact HTW.out, HB4.out⟩
                case measure => simp [intOf]; omega
          · rw [hb] at hbit
            rw [if_pos hb] at hcs
            have HCS := Lib.hid hcs
            clear hcs hb
            go_wp2
            go_roundw
            case rel => exact ⟨k + 1, by omega, by go_num, HV2.out, by rw [HCS.out], by rw [HCS.out]; exact hTw, hB⟩
            case measure => simp [intOf]; omega
        · obtain rfl : k = zs.length := by omega
          subst hq
          go_wp2
          go_ret2
          refine ⟨_, _, rfl, HV2.out, ?_, hB⟩
          rw [HCs.out]
          exact hTw
end Go.Proofs.Ytckppfgooflooaa
