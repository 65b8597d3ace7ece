/-
  impl.numbered: the graph of the nodes that are reached from 0, numbered in order.
-/
import Derived.Test.YthliifgjolgmgaaDoorGz
namespace Go.Proofs.YthliifgjolgmgaaDoor
set_option maxRecDepth 100000
set_option linter.unusedVariables false
open Go.RowKit Go.Lib

def numL (nx : Nat → Nat → Option Nat) (M : List Nat) (k : Nat) : List Int := (List.range k).flatMap (toN nx M)
theorem numL_succ (nx : Nat → Nat → Option Nat) (M : List Nat) (k : Nat) : numL nx M (k + 1) = numL nx M k ++ toN nx M k := by
  unfold numL; rw [List.range_succ, List.flatMap_append]; simp
theorem numL_len (nx : Nat → Nat → Option Nat) (M : List Nat) : ∀ k, (numL nx M k).length = k * M.length
  | 0 => by simp [numL]
  | k + 1 => by rw [numL_succ, List.length_append, numL_len nx M k, toN_len, Nat.add_mul, Nat.one_mul]
theorem numL_le {nx : Nat → Nat → Option Nat} {M : List Nat} (h : M.length ≤ 40) (k : Nat) : (numL nx M k).length ≤ 40 * k := by
  rw [numL_len, Nat.mul_comm 40 k]; exact Nat.mul_le_mul_left _ h
theorem ixE_met {M : List Nat} {x : Option Nat} (h : ∀ u, x = some u → u ∈ M) : ixE M x = enc (x.map (ixQ M)) := by
  cases x with
  | none => rfl
  | some u =>
    show (if u ∈ M then ((ixQ M u : Nat) : Int) else -1) = _
    rw [if_pos (h u rfl)]; rfl
theorem own_sl5 {w : World} {base size n : Nat} {e : TypeId} {v : Value} {xs : List Value} (h : w.ownsRow base e size v n xs) : ∃ (A : Option Addr) (c : Nat), v = .slice A n c := by
  rcases h.2 with ⟨rfl, rfl⟩ | ⟨g, cap, cur, rfl, _⟩
  · exact ⟨none, 0, rfl⟩
  · exact ⟨_, _, rfl⟩
/-- the graph that is being made, the nodes that are met, the result's place -/
structure NbS (w wr : World) (lo B R gm cm q : Nat) (M : List Nat) (v : Value) (L : List Int) : Prop where
  bx : Blk wr B 52 #[.int .i64 (q : Int), v]
  own : wr.ownsRow lo 3 1 v L.length (ivs L)
  met : wr.ownsRow lo 3 1 (.slice (some ⟨gm, 0, none⟩) q cm) q (ivs (natsI M))
  ne : v.ownBlock ≠ some gm
  rb : Blk wr R 52 #[.int .i64 0, .slice none 0 0]
  bel : Below lo w wr
  lb : lo ≤ B
  nr : R ≠ B
  low : lo ≤ w.heap.size
section
variable {w wr : World} {lo B R gm cm q : Nat} {M : List Nat} {v : Value} {L : List Int}
theorem NbS.drew (h : NbS w wr lo B R gm cm q M v L) : NbS w wr.drew lo B R gm cm q M v L :=
  ⟨h.bx.drew, h.own.drew, h.met.drew, h.ne, h.rb.drew, h.bel.drew, h.lb, h.nr, h.low⟩
theorem NbS.on {w' : World} (h : NbS w wr lo B R gm cm q M v L) (hb : Below wr.heap.size wr w') : NbS w w' lo B R gm cm q M v L :=
  ⟨h.bx.below hb h.bx.lt, gt_below h.own hb, gt_below h.met hb, h.ne, h.rb.below hb h.rb.lt, h.bel.trans (hb.mono (Nat.le_trans h.low h.bel.size)), h.lb, h.nr, h.low⟩
theorem NbS.alloc (h : NbS w wr lo B R gm cm q M v L) (o : Obj) : NbS w (wr.alloc o) lo B R gm cm q M v L := h.on ((Below.refl _ _).alloc (Nat.le_refl _) _)
theorem NbS.far (h : NbS w wr lo B R gm cm q M v L) : v.ownBlock ≠ some B ∧ v.ownBlock ≠ some R := ⟨own_blk_ne h.own h.bx (by decide), own_blk_ne h.own h.rb (by decide)⟩
theorem NbS.app (h : NbS w wr lo B R gm cm q M v L) {z : Int} {g7 c7 : Nat} {w7 : World} (hown : w7.ownsRow lo 3 1 (.slice (some ⟨g7, 0, none⟩) (L.length + 1) c7) (L.length + 1) (ivs L ++ [.int .i64 z])) (hg : wr.grownBy w7 v.ownBlock) (hat : v.ownBlock = some g7 ∨ g7 = wr.heap.size) :
    NbS w (w7.setCell ⟨B, 1, none⟩ (.slice (some ⟨g7, 0, none⟩) (L.length + 1) c7)) lo B R gm cm q M (.slice (some ⟨g7, 0, none⟩) (L.length + 1) c7) (L ++ [z]) := by
  have hb : Blk w7 B _ _ := h.bx.grown hg h.far.1.symm
  have hr : Blk w7 R _ _ := h.rb.grown hg h.far.2.symm
  have hm := h.met.kept hg (.inr (fun e => h.ne e.symm))
  have hlt := (h.met.lt gm rfl).2
  refine ⟨hb.set_ 1 _, ?_, ownsRow_setCell_other hm (own_blk_ne hm hb (by decide)) _, ?_, hr.far h.nr _, (h.bel.grown hg (Nat.le_trans h.low h.bel.size) (fun k e => (h.own.lt k e).1)).setCell h.lb _, h.lb, h.nr, h.low⟩
  · rw [List.length_append, List.length_singleton]
    have := ownsRow_setCell_other hown (own_blk_ne hown hb (by decide)) (a := ⟨B, 1, none⟩) (.slice (some ⟨g7, 0, none⟩) (L.length + 1) c7)
    simpa [ivs] using this
  · intro e
    have e : some g7 = some gm := e
    injection e with e
    rcases hat with h' | h'
    · exact h.ne (by rw [h', e])
    · omega
end
set_option maxHeartbeats 4000000 in
theorem numb_any (gf : Nat) (ca cb : Array Value) (N : Nat) (nx : Nat → Nat → Option Nat) (w : World) (h0 : 0 < N) (hx : ∀ c v u, nx c v = some u → u < N) (eg : ∀ args w, (callFunc gf args).run Tryd.prog w = .ok (.enter gf args) w) (hL : LeadsAt gf ca cb nx N w) :
    Calls Tryd.prog 29 #[.int .i64 0, .func (.func gf) ca cb] w fun e w' => Below w.heap.size w w' ∧ ((e = .returned (.tuple #[.agg #[.int .i64 0, .slice none 0 0], .bool false]) ∧ 40 < (metQ nx N).length) ∨
      ∃ v, e = .returned (.tuple #[.agg #[.int .i64 ((metQ nx N).length : Int), v], .bool true]) ∧ (metQ nx N).length ≤ 40 ∧ w'.ownsRow w.heap.size 3 1 v (numL nx (metQ nx N) 4).length (ivs (numL nx (metQ nx N) 4))) := by
  obtain ⟨i0, hi, hz0, hz1, hz2⟩ := info_parts info_int
  have hB0 : Below w.heap.size w (w.alloc (.cells #[.int .i64 0, .slice none 0 0] 52)) := (Below.refl _ w).alloc (Nat.le_refl _) _
  have HR0 := Lib.hid (Blk.new w 52 #[.int .i64 0, .slice none 0 0])
  have HRA := Lib.hid (reach_any gf ca cb N nx (w.alloc (.cells #[.int .i64 0, .slice none 0 0] 52)) h0 hx eg (hL.on ((Below.refl _ _).alloc (Nat.le_refl _) _)))
  have HL := Lib.hid hL
  have HB0 := Lib.hid hB0
  have HCL : Hid (∀ c v u, v ∈ metQ nx N → c < 4 → nx c v = some u → u ∈ metQ nx N) := fun c v u => metQ_closed h0 hx
  clear hL hB0
  go_enter Tryd.func29, Tryd.ntmps29
  go_wp2_with fail
  refine HRA.out.mono ?_
  rintro e w1 ⟨gm, cm, M, rfl, hMP, hMN, ho, hb⟩
  have HR1 := Lib.hid (HR0.out.below hb HR0.out.lt)
  have HB1 := Lib.hid (HB0.out.trans (hb.mono HB0.out.size))
  have HO1 := Lib.hid (gt_down (base' := w.heap.size) ho (by simp))
  have HMN := Lib.hid hMN
  have HMP := Lib.hid hMP
  obtain ⟨q, HQ⟩ : ∃ q, Hid (M.length = q) := ⟨_, rfl⟩
  have hq44 : q ≤ 44 := by rw [← HQ.out]; exact hMP.1
  rw [HQ.out] at HO1 ⊢
  clear ho hb HRA HR0 HB0 hMN hMP
  have c0 : w1.cell? ⟨w.heap.size, 0, none⟩ = some (.int .i64 0) := HR1.out.cell 0
  have c1 : w1.cell? ⟨w.heap.size, 1, none⟩ = some (.slice none 0 0) := HR1.out.cell 1
  have f0 := HR1.out.frozen 0
  have f1 := HR1.out.frozen 1
  have hlt := HR1.out.lt
  by_cases h40 : q > 40
  · have h40i : (q : Int) > 40 := by omega
    have HTM : Hid (40 < (metQ nx N).length) := by
      rcases HMP.out.2 with ⟨h, _⟩ | ⟨_, h⟩
      · rw [HQ.out] at h; omega
      · exact h
    have HBF := Lib.hid ((HB1.out.setCell (p := ⟨w.heap.size, 0, none⟩) (Nat.le_refl _) (.int .i64 0)).setCell (p := ⟨w.heap.size, 1, none⟩) (Nat.le_refl _) (.slice none 0 0))
    go_wp2
    exact bodyPost_ret (v := .tuple #[.agg #[.int .i64 0, .slice none 0 0], .bool false]) (by simp [results, Tryd.results29, go_sem, c0, c1]) rfl ⟨HBF.out, .inl ⟨rfl, HTM.out⟩⟩
  · have h40i : ¬ (q : Int) > 40 := by omega
    have HM : Hid (M = metQ nx N) := by
      rcases HMP.out.2 with ⟨_, h⟩ | ⟨h, _⟩
      · exact h
      · rw [HQ.out] at h; omega
    have hmm := HM.out
    subst hmm
    have HN0 : Hid (NbS w (w1.alloc (.cells #[.int .i64 (q : Int), .slice none 0 0] 52)) w.heap.size w1.heap.size w.heap.size gm cm q (metQ nx N) (.slice none 0 0) (numL nx (metQ nx N) 0)) :=
      ⟨Blk.new _ _ _, World.ownsRow_nil _ _ _ _, HO1.out.alloc _, by simp [Value.ownBlock], HR1.out.alloc _, HB1.out.alloc HB1.out.size _, HB1.out.size, by omega, Nat.le_refl _⟩
    clear HO1 HR1 HB1 c0 c1 f0 f1 HMP
    go_wp2
    generalize w1.heap.size = B at *
    generalize w1.alloc (.cells #[.int .i64 (q : Int), .slice none 0 0] 52) = w2 at *
    go_loopg [21] 4 (fun g0 s21 wr => ∃ (k : Nat) (v : Value), k + g0 = 4 ∧ s21 = .int .i64 (k : Int) ∧ Hid (NbS w wr w.heap.size B w.heap.size gm cm q (metQ nx N) v (numL nx (metQ nx N) k)))
    case atStart => exact ⟨0, _, rfl, rfl, HN0.out⟩
    case round =>
      clear HN0
      obtain ⟨k, v, hkg, rfl, HN⟩ := hrel
      by_cases hk4 : k < 4
      · have hki : (k : Int) < 4 := by omega
        have HLS : Hid (numL nx (metQ nx N) (k + 1) = numL nx (metQ nx N) k ++ (toN nx (metQ nx N) k).take q) := by
          show _ = _
          rw [numL_succ, List.take_of_length_le (by rw [toN_len, HQ.out]; exact Nat.le_refl _)]
        have HP0 : Hid (numL nx (metQ nx N) k = numL nx (metQ nx N) k ++ (toN nx (metQ nx N) k).take 0) := by show _ = _; simp
        have HPL : Hid (∀ j, (numL nx (metQ nx N) k ++ (toN nx (metQ nx N) k).take j).length ≤ 200) := fun j => by
          rw [List.length_append, List.length_take, toN_len, HQ.out]
          have := numL_le (nx := nx) (M := metQ nx N) (by rw [HQ.out]; omega) k
          omega
        have HST : Hid (∀ j x, (metQ nx N)[j]? = some x → (numL nx (metQ nx N) k ++ (toN nx (metQ nx N) k).take j) ++ [ixE (metQ nx N) (nx k x)] = numL nx (metQ nx N) k ++ (toN nx (metQ nx N) k).take (j + 1)) := fun j x hj => by
          have hjl := (List.getElem?_eq_some_iff.1 hj).1
          have hg := toN_get (nx := nx) (c := k) hj
          have hg2 := List.getElem?_eq_some_iff.1 hg
          rw [List.append_assoc, List.take_succ_eq_append_getElem hg2.1, hg2.2, ixE_met (fun u hu => HCL.out k x u (List.mem_of_getElem? hj) hk4 hu)]
        rw [HP0.out] at HN
        generalize numL nx (metQ nx N) k = L0 at *
        generalize toN nx (metQ nx N) k = T0 at *
        go_wp2
        go_loopg [26] q (fun g1 s26 wy => ∃ (j : Nat) (v : Value), j + g1 = q ∧ s26 = .int .i64 (j : Int) ∧ Hid (NbS w wy w.heap.size B w.heap.size gm cm q (metQ nx N) v (L0 ++ T0.take j)))
        case atStart => exact ⟨0, v, by omega, rfl, HN.out⟩
        case round =>
          clear HN HP0
          obtain ⟨j, v, hjg, rfl, HN⟩ := hrel
          by_cases hj : j < q
          · have hji : (j : Int) < (q : Int) := by omega
            obtain ⟨x, hxj⟩ : ∃ x, (metQ nx N)[j]? = some x := ⟨_, List.getElem?_eq_getElem (by rw [HQ.out]; exact hj)⟩
            have hxN := HMN.out x (List.mem_of_getElem? hxj)
            have hcm : wr.cell? ⟨gm, j, none⟩ = some (.int .i64 (x : Int)) := by rw [HN.out.met.cellAt j (by omega), ivs_get, natsI_get hxj]; rfl
            have HSS := Lib.hid (HST.out j x hxj)
            have hLL := HPL.out j
            clear hxj
            generalize L0 ++ T0.take j = L at *
            obtain ⟨y, HY⟩ : ∃ y, Hid (nx k x = y) := ⟨_, rfl⟩
            have HLC : Hid (∀ W : World, Below w.heap.size w W → Calls Tryd.prog gf (ca ++ (#[.int .i64 (x : Int), .int .i64 (k : Int)] ++ cb)) W fun e w' => e = .returned (.int .i64 (enc y)) ∧ Below W.heap.size W w') := fun W hW => by
              rw [← HY.out]; exact HL.out W x k hW hxN hk4
            rw [HY.out] at HSS
            have HIX : Hid (∀ W : World, W.ownsRow w.heap.size 3 1 (.slice (some ⟨gm, 0, none⟩) q cm) q (ivs (natsI (metQ nx N))) → Calls Tryd.prog 58 #[.slice (some ⟨gm, 0, none⟩) q cm, .int .i64 (enc y)] W fun e w' => e = .returned (.int .i64 (ixE (metQ nx N) y)) ∧ w' = W) := fun W hW =>
              slIndexN_any gm q cm (metQ nx N) y W HQ.out (fun i t ht => by
                have hil := (List.getElem?_eq_some_iff.1 ht).1
                rw [HQ.out] at hil
                rw [hW.cellAt i (by omega), ivs_get, natsI_get ht]; rfl) (by omega)
            generalize ixE (metQ nx N) y = z at *
            generalize enc y = ey at *
            have hbc : wr.cell? ⟨B, 1, none⟩ = some v := HN.out.bx.cell 1
            have hbf := HN.out.bx.frozen 1
            have hbl := HN.out.bx.lt
            have hx1 : L.length + 1 ≤ maxLen := by unfold maxLen; omega
            have hx2 : (L.length + 1) * 8 ≤ 140737488355328 := by omega
            have hN1 := HN.out.drew
            have tok1 : True := trivial
            go_wp2_with fail
            go_region_law (first
              | (have _t := tok1
                 go_simp
                 refine (HLC.out _ hN1.bel).mono ?_
                 rintro e w3 ⟨rfl, hb3⟩
                 have hN1 := hN1.on hb3
                 have hbc := hN1.bx.cell 1
                 have hbf := hN1.bx.frozen 1
                 have hN2 := hN1.alloc (.cells #[.int .i64 z] 3)
                 have hbcA := hN2.bx.cell 1
                 clear tok1 _t hb3)
              | (go_simp
                 go_at_call 58
                 refine (HIX.out _ hN1.met).mono ?_
                 rintro e w4 ⟨rfl, rfl⟩)
              | (refine step_append_lies _ (by rfl) _ _ _ (by rfl) w.heap.size 3 i0 (.int .i64 0) 1 8 Tryd.underlying24 hi hz0 hz1 hz2 rfl (by decide) v L.length (ivs L) (by rfl) hN2.own ⟨w4.heap.size, 0, none⟩ 1 1 [.int .i64 z] (by rfl) rfl (cell_one_new _ _ _) (by simp [Value.oneCell']) (by decide) hx1 hx2 hN2.bel.size (w4.heap.size + 1) (by simp) ?_
                 intro g7 c7 w7 hown7 hgrow7 hat7 hlt7
                 have hN3 := hN2.app hown7 hgrow7 (hat7.elim .inl (fun e => .inr (e.trans (by simp))))
                 have hb7 := hN2.bx.grown hgrow7 hN2.far.1.symm
                 have hbc := hb7.cell 1
                 have hbf := hb7.frozen 1
                 have hbl7 := hb7.lt))
            all_goals
              rw [HSS.out] at hN3
              have HN3 := Lib.hid hN3
              clear hN1 hN2 hN3 hown7 hgrow7 hat7 hb7 hbc hbf
              go_wp2
              go_roundg (q - (j + 1))
              case measure => omega
              case rel => exact ⟨j + 1, _, by omega, by go_num, HN3⟩
          · obtain rfl : j = q := by omega
            have hji : ¬ (j : Int) < (j : Int) := by omega
            rw [← HLS.out] at HN
            go_wp2
            go_roundg (4 - (k + 1))
            case measure => omega
            case rel => exact ⟨k + 1, v, by omega, by go_num, HN⟩
      · obtain rfl : k = 4 := by omega
        obtain ⟨A4, c4, rfl⟩ := own_sl5 HN.out.own
        have b0 : wr.cell? ⟨B, 0, none⟩ = some (.int .i64 (q : Int)) := HN.out.bx.cell 0
        have b1 : wr.cell? ⟨B, 1, none⟩ = some (.slice A4 (numL nx (metQ nx N) 4).length c4) := HN.out.bx.cell 1
        have r0 : wr.cell? ⟨w.heap.size, 0, none⟩ = some (.int .i64 0) := HN.out.rb.cell 0
        have r1 : wr.cell? ⟨w.heap.size, 1, none⟩ = some (.slice none 0 0) := HN.out.rb.cell 1
        have f0 := HN.out.rb.frozen 0
        have f1 := HN.out.rb.frozen 1
        have hlr := HN.out.rb.lt
        have HBF := Lib.hid ((HN.out.bel.setCell (p := ⟨w.heap.size, 0, none⟩) (Nat.le_refl _) (.int .i64 (q : Int))).setCell (p := ⟨w.heap.size, 1, none⟩) (Nat.le_refl _) (.slice A4 (numL nx (metQ nx N) 4).length c4))
        have HOF := Lib.hid (ownsRow_setCell_other (ownsRow_setCell_other HN.out.own (a := ⟨w.heap.size, 0, none⟩) HN.out.far.2 (.int .i64 (q : Int))) (a := ⟨w.heap.size, 1, none⟩) HN.out.far.2 (.slice A4 (numL nx (metQ nx N) 4).length c4))
        have HQ4 : Hid ((metQ nx N).length ≤ 40) := by show _ ≤ _; rw [HQ.out]; omega
        go_wp2
        (try simp only [Exit.inBlock, Exit.then])
        exact bodyPost_ret (v := .tuple #[.agg #[.int .i64 (q : Int), .slice A4 (numL nx (metQ nx N) 4).length c4], .bool true]) (by simp [results, Tryd.results29, go_sem, r0, r1]) rfl ⟨HBF.out, .inr ⟨_, by rw [HQ.out], HQ4.out, HOF.out⟩⟩
end Go.Proofs.YthliifgjolgmgaaDoor
