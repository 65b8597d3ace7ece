/-
  SpecA SpecB Ones ExpA SpecC Mark Pair ExpB Set.
-/
import Derived.Maps.AppendAt
import Derived.Deep.QuietTactic
import Derived.BigQuiet
import Derived.WalkLawsBesides
import Derived.RegionTactic
import Derived.BigRegion
import Derived.Test.YtkfiehndlgplgaaGreatDoorMA
namespace Go.Proofs.YtkfiehndlgplgaaGreatDoor
set_option maxRecDepth 100000
set_option linter.unusedVariables false
set_option linter.unusedSimpArgs false
set_option linter.unusedSectionVars false

/-! spec's small functions on lists: l1None, l1Turned, l1Domain, l1Size, l1Idem, l1Times, l1Set. -/
section
open Go.RowKit

theorem ivs_snoc (L : List Int) (z : Int) : ivs L ++ [Value.int .i64 z] = ivs (L ++ [z]) := by simp [ivs]
theorem repl_snoc (k : Nat) (z : Int) : List.replicate k z ++ [z] = List.replicate (k + 1) z := by rw [List.replicate_succ']

/-- the post of a function that hands back a new list -/
def NewL (w : World) (L : List Int) (v : Value) (w' : World) : Prop := w'.ownsRow w.heap.size 3 1 v L.length (ivs L) ∧ Below w.heap.size w w'

/-- the empty literal -/
theorem own_lit0 (w : World) : (w.alloc (.cells #[] 3)).ownsRow w.heap.size 3 1 (.slice (some ⟨w.heap.size, 0, none⟩) 0 0) 0 (ivs []) := World.ownsRow_lit (base := w.heap.size) (e := 3) (size := 1) w #[] 0 (Nat.le_refl _) (by simp [maxLen]) rfl

theorem app_step {w wr w1 : World} {v v' : Value} {k : Nat} {L L' : List Int} {z : Int} (hB : Below w.heap.size w wr) (hown : wr.ownsRow w.heap.size 3 1 v k (ivs L)) (hown' : w1.ownsRow w.heap.size 3 1 v' (k + 1) (ivs L ++ [.int .i64 z]))
    (hgrow : (wr.alloc (.cells #[.int .i64 z] 3)).grownBy w1 v.ownBlock) (hL : L ++ [z] = L') : w1.ownsRow w.heap.size 3 1 v' (k + 1) (ivs L') ∧ Below w.heap.size w w1 := by
  refine ⟨by rw [← hL, ← ivs_snoc]; exact hown', (hB.alloc hB.size _).grown hgrow ?_ (fun g hg => (hown.lt g hg).1)⟩
  have := hB.size; simp; omega

set_option maxHeartbeats 400000 in
theorem l1None_any (n : Nat) (hn : n ≤ 6) (w : World) : Calls Tryz.prog 121 #[.int .i64 n] w fun e w' => ∃ v, e = .returned v ∧ NewL w (LT n (stillF n)) v w' := by
  obtain ⟨i0, hi, hz0, hz1, hz2⟩ := info_parts info_int
  go_enter Tryz.func121, Tryz.ntmps121
  go_wp2
  go_loopw [3, 4] (fun v i wr => ∃ k : Nat, k ≤ n ∧ i = .int .i64 k ∧ wr.ownsRow w.heap.size 3 1 v k (ivs (LT k (stillF n))) ∧ Below w.heap.size w wr) (fun _ i _ => n - (intOf i).toNat)
  case atStart => exact ⟨0, Nat.zero_le _, rfl, own_lit0 w, (Below.refl _ _).alloc (Nat.le_refl _) _⟩
  case round =>
    obtain ⟨k, hk, rfl, hown, hB⟩ := hrel
    by_cases hlt : k < n
    · have HL := Lib.hid (show LT k (stillF n) ++ [-1] = LT (k + 1) (stillF n) by rw [LT_succ]; simp [stillF, hlt])
      have h1 : k + 1 ≤ maxLen := by unfold maxLen; omega
      have h2 : (k + 1) * 8 ≤ 140737488355328 := by omega
      have h3 : ∀ o : Obj, w.heap.size ≤ (wr.alloc o).heap.size := fun o => by have := hB.size; simp; omega
      go_wp2_with (at_builtin; refine wpList_append_own _ rfl _ _ 24 rfl w.heap.size 3 i0 (.int .i64 0) 1 8 Tryz.underlying24 hi hz0 hz1 hz2 rfl (by decide) _ _ _ rfl (hown.alloc _) ⟨wr.heap.size, 0, none⟩ 1 1 [.int .i64 (-1)] rfl rfl (cell_one_new _ _ _) (by simp [Value.oneCell']) h1 h2 (h3 _) ?_; intro v' w1 hown' hgrow _)
      have hR := app_step hB hown hown' hgrow HL.out
      exact ⟨⟨k + 1, by omega, by go_num, hR.1, hR.2⟩, by simp [intOf]; omega⟩
    · obtain rfl : k = n := by omega
      go_wp2
      go_ret
      exact ⟨u3, rfl, by rw [LT_length]; exact hown, hB⟩

set_option maxHeartbeats 400000 in
theorem l1Turned_any (A : Option Addr) (n c : Nat) (zs : List Int) (w : World) (h : RI w A n zs) (hn : n ≤ 6) (hE : Ent n zs) :
    Calls Tryz.prog 91 #[.slice A n c] w fun e w' => ∃ v, e = .returned v ∧ NewL w (LT n (turnL n (mv (ofL zs) n))) v w' := by
  go_enter Tryz.func91, Tryz.ntmps91
  go_wp2_with fail
  refine (l1None_any n hn w).mono ?_
  rintro e w1 ⟨v, rfl, hown, hB⟩
  rw [LT_length] at hown
  have hw := h.below hB
  by_cases hn0 : n = 0
  · subst hn0
    go_wp2
    refine wp_loop_rounds 1 ?_; rw [rounds_succ]
    go_wp2
    go_ret
    exact ⟨v, rfl, by rw [LT_length]; exact hown, hB⟩
  obtain ⟨g, cp, rfl, hgb, hgl⟩ := hown.form (by omega)
  have HL := Lib.hid h.len
  go_wp2
  go_loopw [4] (fun i wr => ∃ k : Nat, k ≤ n ∧ i = .int .i64 k ∧ wr.ownsRow w.heap.size 3 1 (.slice (some ⟨g, 0, none⟩) n cp) n (ivs (LT n (turnL n (mv (ofL zs) k)))) ∧ Below w.heap.size w wr) (fun i _ => n - (intOf i).toNat)
  case atStart => exact ⟨0, Nat.zero_le _, rfl, hown, hB⟩
  case round =>
    clear hown hB
    obtain ⟨k, hk, rfl, hown, hB⟩ := hrel
    by_cases hlt : k < n
    · obtain ⟨ad, rfl, hab, hc⟩ := (h.below hB).at_ hlt
      have hz := hE k hlt
      have hof : ofL zs k = zs[k]?.getD 0 := rfl
      generalize zs[k]?.getD 0 = z at hc hz hof
      clear h hw
      rcases hz with rfl | ⟨hz0, hzn⟩
      · have HS := Lib.hid (mv_skip hof)
        clear hof
        go_wp2
        go_roundw
        case rel => exact ⟨k + 1, by omega, by go_num, by rw [HS.out]; exact hown, hB⟩
        case measure => simp [intOf]; omega
      · obtain ⟨u, rfl⟩ := Int.eq_ofNat_of_zero_le hz0
        have hu : u < n := by omega
        have hin : k < 6 ∧ 0 ≤ ofL zs k ∧ ofL zs k < 6 := ⟨by omega, by omega, by omega⟩
        have hm := mv_step hin
        have ho := hown.cellAt u (by omega)
        have hf := hown.frozenAt u
        obtain ⟨y, hy⟩ : ∃ y, (ivs (LT n (turnL n (mv (ofL zs) k))))[u]? = some y := ⟨_, List.getElem?_eq_getElem (by simp [ivs, LT]; omega)⟩
        rw [hy] at ho
        have hst := (hown.stored u (.int .i64 (k : Int))).1
        have hls : (ivs (LT n (turnL n (mv (ofL zs) k)))).set u (.int .i64 (k : Int)) = ivs (LT n (turnL n (mv (ofL zs) (k + 1)))) := by
          rw [hm]
          unfold ivs
          rw [← List.map_set, LT_set hu]
          congr 1
          refine LT_congr (fun j _ => ?_)
          rw [turnL_snoc]; simp [turnS, hof]
        rw [hls] at hst
        have HST := Lib.hid hst
        have hB' := hB.setCell (p := ⟨g, u, none⟩) hgb (.int .i64 (k : Int))
        clear hst hls hy hm hof hin hown hB
        go_wp2
        go_roundw
        case rel => exact ⟨k + 1, by omega, by go_num, HST.out, hB'⟩
        case measure => simp [intOf]; omega
    · obtain rfl : k = n := by omega
      go_wp2
      go_ret
      exact ⟨_, rfl, by rw [LT_length]; exact hown, hB⟩
end

/-! spec's small functions on lists: l1Domain, l1Size, l1Idem, l1Times, l1Set, l1Below, l1Both. -/
section
open Go.RowKit


/-- how many of the points below k a set has -/
def popK (m : Nat) : Nat → Nat
  | 0 => 0
  | k + 1 => popK m k + (m.testBit k).toNat
theorem popK_le (m : Nat) : ∀ k, popK m k ≤ k
  | 0 => by simp [popK]
  | k + 1 => by have := popK_le m k; unfold popK; cases m.testBit k <;> simp <;> omega
theorem bitv_fin : ∀ (m : Fin 64) (z : Fin 6), bits BinOp.and IntKind.i64 ((m.val : Int) / 2 ^ z.val) 1 = ((m.val.testBit z.val).toNat : Int) := by decide +kernel


set_option maxHeartbeats 400000 in
theorem l1Idem_any (A : Option Addr) (n c : Nat) (zs : List Int) (w : World) (h : RI w A n zs) (hn : n ≤ 6) (hE : Ent n zs) :
    Calls Tryz.prog 79 #[.slice A n c] w fun e w' => e = .returned (.bool (idemL (mv (ofL zs) n))) ∧ w = w' := by
  go_enter Tryz.func79, Tryz.ntmps79
  go_wp2
  go_loop [3] (fun i => ∃ k : Nat, k ≤ n ∧ i = .int .i64 k ∧ Hid (idemL (mv (ofL zs) k) = true)) (fun i => n - (intOf i).toNat)
  case atStart => exact ⟨0, Nat.zero_le _, rfl, Lib.hid rfl⟩
  case round =>
    obtain ⟨k, hk, rfl, HI⟩ := hrel
    by_cases hlt : k < n
    · obtain ⟨ad, rfl, hab, hc⟩ := h.at_ hlt
      have hz := hE k hlt
      have hof : ofL zs k = zs[k]?.getD 0 := rfl
      generalize zs[k]?.getD 0 = z at hc hz hof
      clear h
      rcases hz with rfl | ⟨hz0, hzn⟩
      · have HS := Lib.hid (mv_skip hof)
        clear hof
        go_wp2
        go_round
        case rel => exact ⟨k + 1, by omega, by go_num, by rw [HS.out]; exact HI⟩
        case measure => simp [intOf]; omega
      · have hm := mv_step (T := ofL zs) (k := k) ⟨by omega, by omega, by omega⟩
        by_cases he : z = k
        · have hb : (z != (k : Int)) = false := by simp [he]
          have HM : Hid (idemL (mv (ofL zs) (k + 1)) = true) := by show _ = _; rw [hm, idemL_snoc, HI.out]; simp [hof, he]
          clear hm hof he
          go_wp2
          go_round
          case rel => exact ⟨k + 1, by omega, by go_num, HM⟩
          case measure => simp [intOf]; omega
        · have hb : (z != (k : Int)) = true := by simp [he]
          have HM : Hid (idemL (mv (ofL zs) n) = false) := by
            refine idemL_take (k := k + 1) (by omega) ?_
            rw [hm, idemL_snoc]; simp [hof]; intro _ h; exact he h.symm
          clear hm hof he
          go_wp2
          go_ret
          exact ⟨by rw [HM.out]; rfl, rfl⟩
    · obtain rfl : k = n := by omega
      go_wp2
      go_ret
      exact ⟨by rw [HI.out]; rfl, rfl⟩

/-- the product, place by place -/
def tmF (zs ys : List Int) (j : Nat) : Int := if ofL zs j < 0 then -1 else ofL ys (ofL zs j).toNat
theorem tmF_closed {n : Nat} {zs ys : List Int} (hn : n ≤ 6) (hE : Ent n zs) : LT n (tmF zs ys) = LT n (timesL n (ofL ys) (mv (ofL zs) n)) := by
  refine LT_congr (fun j hj => ?_)
  rw [times_closed n _ _ j n hn]
  have hz : ofL zs j = -1 ∨ (0 ≤ ofL zs j ∧ ofL zs j < n) := hE j hj
  unfold tmF stillF
  rcases hz with h | ⟨h0, h1⟩
  · rw [if_pos (by omega), if_neg (by omega), if_pos hj]
  · rw [if_neg (by omega), if_pos ⟨hj, h0, by omega⟩]

set_option maxHeartbeats 1000000 in
theorem l1Times_any (A B : Option Addr) (n c d : Nat) (zs ys : List Int) (w : World) (h : RI w A n zs) (h' : RI w B n ys) (hn : n ≤ 6) (hE : Ent n zs) :
    Calls Tryz.prog 92 #[.slice A n c, .slice B n d] w fun e w' => ∃ v, e = .returned v ∧ NewL w (LT n (timesL n (ofL ys) (mv (ofL zs) n))) v w' := by
  obtain ⟨i0, hi, hz0, hz1, hz2⟩ := info_parts info_int
  rw [← tmF_closed hn hE]
  go_enter Tryz.func92, Tryz.ntmps92
  go_wp2
  go_loopw [5, 6] (fun v i wr => ∃ k : Nat, k ≤ n ∧ i = .int .i64 k ∧ wr.ownsRow w.heap.size 3 1 v k (ivs (LT k (tmF zs ys))) ∧ Below w.heap.size w wr) (fun _ i _ => n - (intOf i).toNat)
  case atStart => exact ⟨0, Nat.zero_le _, rfl, own_lit0 w, (Below.refl _ _).alloc (Nat.le_refl _) _⟩
  case round =>
    obtain ⟨k, hk, rfl, hown, hB⟩ := hrel
    by_cases hlt : k < n
    · obtain ⟨ad, rfl, hab, hc⟩ := h.at_ hlt
      have g := (hB.cell (p := ad.add k) (by rw [block_of_add]; exact hab)).trans hc
      have hz := hE k hlt
      have hof : ofL zs k = zs[k]?.getD 0 := rfl
      have hLs := LT_succ k (tmF zs ys)
      generalize zs[k]?.getD 0 = z at g hz hof
      clear hc h
      have h1 : k + 1 ≤ maxLen := by unfold maxLen; omega
      have h2 : (k + 1) * 8 ≤ 140737488355328 := by omega
      have h3 : ∀ o : Obj, w.heap.size ≤ (wr.alloc o).heap.size := fun o => by have := hB.size; simp; omega
      rcases hz with rfl | ⟨hz1', hz2'⟩
      · have HL := Lib.hid (show LT k (tmF zs ys) ++ [-1] = LT (k + 1) (tmF zs ys) by rw [hLs]; simp [tmF, hof])
        clear hLs hof
        go_wp2_with (at_builtin; refine wpList_append_own _ rfl _ _ 24 rfl w.heap.size 3 i0 (.int .i64 0) 1 8 Tryz.underlying24 hi hz0 hz1 hz2 rfl (by decide) _ _ _ rfl (hown.alloc _) ⟨wr.heap.size, 0, none⟩ 1 1 [.int .i64 (-1)] rfl rfl (cell_one_new _ _ _) (by simp [Value.oneCell']) h1 h2 (h3 _) ?_; intro v' w1 hown' hgrow _)
        have hR := app_step hB hown hown' hgrow HL.out
        exact ⟨⟨k + 1, by omega, by go_num, hR.1, hR.2⟩, by simp [intOf]; omega⟩
      · obtain ⟨u, rfl⟩ := Int.eq_ofNat_of_zero_le hz1'
        obtain ⟨ad', rfl, hab', hc'⟩ := h'.at_ (k := u) (by omega)
        have g' := (hB.cell (p := ad'.add u) (by rw [block_of_add]; exact hab')).trans hc'
        have HL := Lib.hid (show LT k (tmF zs ys) ++ [ys[u]?.getD 0] = LT (k + 1) (tmF zs ys) by rw [hLs]; unfold tmF; rw [hof, if_neg (by omega)]; rfl)
        generalize ys[u]?.getD 0 = y at g' HL
        clear hLs hof hc' h'
        go_wp2_with (at_builtin; refine wpList_append_own _ rfl _ _ 24 rfl w.heap.size 3 i0 (.int .i64 0) 1 8 Tryz.underlying24 hi hz0 hz1 hz2 rfl (by decide) _ _ _ rfl (hown.alloc _) ⟨wr.heap.size, 0, none⟩ 1 1 [.int .i64 (y)] rfl rfl (cell_one_new _ _ _) (by simp [Value.oneCell']) h1 h2 (h3 _) ?_; intro v' w1 hown' hgrow _)
        have hR := app_step hB hown hown' hgrow HL.out
        exact ⟨⟨k + 1, by omega, by go_num, hR.1, hR.2⟩, by simp [intOf]; omega⟩
    · obtain rfl : k = n := by omega
      go_wp2
      go_ret
      exact ⟨_, rfl, by rw [LT_length]; exact hown, hB⟩

/-- a set's chart, place by place -/
def seF (m j : Nat) : Int := if m.testBit j = true then (j : Int) else -1

end

/-! math/bits.OnesCount at a set of six points. -/
section
open Go.RowKit

set_option maxHeartbeats 400000 in
theorem ones64_any (m : Nat) (hm : m < 64) (w : World) : Calls Tryz.prog 135 #[.int .u64 m] w fun e w' => e = .returned (.int .i64 (popK m 6 : Nat)) ∧ w = w' := by
  go_enter Tryz.func135, Tryz.ntmps135
  go_wp2
  go_ret
  refine ⟨?_, rfl⟩
  refine congrArg Ending.returned (congrArg (Value.int .i64) ?_)
  obtain ⟨x, rfl⟩ : ∃ x : Fin 64, x.val = m := ⟨⟨m, hm⟩, rfl⟩
  clear hm
  revert x
  decide +kernel

set_option maxHeartbeats 400000 in
theorem ones_any (m : Nat) (hm : m < 64) (w : World) : Calls Tryz.prog 117 #[.int .u64 m] w fun e w' => e = .returned (.int .i64 (popK m 6 : Nat)) ∧ w = w' := by
  go_enter Tryz.func117, Tryz.ntmps117
  go_wp2_with fail
  refine (ones64_any m hm _).mono ?_
  rintro e w' ⟨rfl, rfl⟩
  go_wp2
  go_ret
  exact ⟨rfl, rfl⟩
end

/-! The exported functions of one chart: impl and spec. -/
section
open Go.RowKit

theorem own_le {w : World} {base base' size n : Nat} {e : TypeId} {v : Value} {xs : List Value} (h : w.ownsRow base e size v n xs) (hb : base' ≤ base) : w.ownsRow base' e size v n xs :=
  ⟨h.1, h.2.imp id fun ⟨g, cap, cur, a, b, c⟩ => ⟨g, cap, cur, a, Nat.le_trans hb b, c⟩⟩
theorem newL_of {w w3 : World} {base k : Nat} {B : Addr} {F : Nat → Int} {L : List Int} (hown : w3.ownsRow base 3 1 (.slice (some B) k k) k (ivs (LT k F))) (hbase : w.heap.size ≤ base) (hB : Below w.heap.size w w3) (hL : LT k F = L) : NewL w L (.slice (some B) k k) w3 := by
  subst hL
  exact ⟨by rw [LT_length]; exact own_le hown hbase, hB⟩

/-- the turned chart as a list; nothing where it is none -/
def tuL (zs : List Int) : List Int := LT (fk zs) (turnL (fk zs) (mv (fT zs) (fk zs)))
def doN (zs : List Int) : Nat := domL (mv (fT zs) (fk zs))

theorem turnL_congr {n : Nat} {T T' : Nat → Int} (hn : n ≤ 6) (h : ∀ j, j < 6 → T j = T' j) : turnL n (mv T n) = turnL n (mv T' n) := by rw [mv_congr (fun j hj => h j (by omega))]

set_option maxHeartbeats 400000 in
theorem implTurned_any (A : Option Addr) (n c : Nat) (zs : List Int) (w : World) (h : RI w A n zs) :
    Calls Tryz.prog 14 #[.slice A n c] w fun e w' => ∃ v, e = .returned (.tuple #[v, .bool (isC zs)]) ∧ NewL w (tuL zs) v w' := by
  go_enter Tryz.func14, Tryz.ntmps14
  go_wp2_with fail
  refine (chartOf_any _ _ _ _ _ h).mono ?_
  rintro e w1 ⟨k, T, rfl, hy, hno, hb⟩
  obtain ⟨rfl, hT⟩ := of_facts hy hno
  have hOk := (fT_ok zs).congr hT (fk_le zs)
  have hk := fk_le zs
  have HL : Hid (LT (fk zs) (turnL (fk zs) (mv T (fk zs))) = tuL zs) := by show _ = _; rw [turnL_congr hk hT]; rfl
  generalize fk zs = k at *
  clear hy hno hT h
  go_wp2_with fail
  refine (turned_any k hk T hOk _).mono ?_
  rintro e w2 ⟨T', rfl, HT, hb2⟩
  go_wp2_with fail
  refine (list_any k hk T' _).mono ?_
  rintro e w3 ⟨B, rfl, hown, hb3⟩
  have hB2 : Below w.heap.size w w2 := (hb.alloc hb.size _).trans (hb2.mono (by have := hb.size; simp; omega))
  have hB3 : Below w.heap.size w w3 := hB2.trans (hb3.mono hB2.size)
  have hN := newL_of hown hB2.size hB3 ((LT_congr (fun j hj => HT.out j (by omega))).trans HL.out)
  clear hown hb3 hb2 hb
  go_wp2
  go_ret2
  exact ⟨_, rfl, hN⟩


/-- turned charts move to points of the chart alone -/
theorem turn_ok {n : Nat} (hn : n ≤ 6) (T : Nat → Int) : ∀ k, k ≤ n → ∀ j, j < n → turnL n (mv T k) j = -1 ∨ (0 ≤ turnL n (mv T k) j ∧ turnL n (mv T k) j < 6)
  | 0, _, j, hj => by simp [mv, turnL, stillF, hj]
  | k + 1, hk, j, hj => by
    have ih := turn_ok hn T k (by omega) j hj
    by_cases hc : k < 6 ∧ 0 ≤ T k ∧ T k < 6
    · rw [mv_step hc, turnL_snoc]
      unfold turnS
      by_cases e : j = (T k).toNat
      · rw [if_pos e]; right; simp; omega
      · rw [if_neg e]; exact ih
    · have e0 : mv T (k + 1) = mv T k := by simp [mv, hc]
      rw [e0]; exact ih

set_option maxHeartbeats 400000 in
theorem image_any (n : Nat) (hn : n ≤ 6) (T : Nat → Int) (hT : Ok n T) (w : World) :
    Calls Tryz.prog 75 #[.agg #[.int .i64 ((n : Int)), .int .i64 (T 0), .int .i64 (T 1), .int .i64 (T 2), .int .i64 (T 3), .int .i64 (T 4), .int .i64 (T 5)]] w fun e w' => e = .returned (.int .i64 (domL (mv (turnL n (mv T n)) n) : Nat)) ∧ Below w.heap.size w w' := by
  go_enter Tryz.func75, Tryz.ntmps75
  go_wp2_with fail
  refine (turned_any n hn T hT _).mono ?_
  rintro e w1 ⟨T', rfl, HT, hb⟩
  have hOk : Ok n T' := Ok.congr (turn_ok hn T n (Nat.le_refl _)) HT.out hn
  have HM : Hid (mv T' n = mv (turnL n (mv T n)) n) := mv_congr (fun j hj => HT.out j (by omega))
  go_wp2_with fail
  refine (domain_any n hn T' hOk _).mono ?_
  rintro e w2 ⟨rfl, hb2⟩
  have hB2 : Below w.heap.size w w2 := (((Below.refl _ _).alloc (Nat.le_refl _) _).trans (hb.mono (by simp))).trans (hb2.mono (by have := hb.size; simp at this; omega))
  clear hb hb2
  go_wp2
  go_ret
  exact ⟨by rw [← HM.out]; rfl, hB2⟩

def raN (zs : List Int) : Nat := domL (mv (turnL (fk zs) (mv (fT zs) (fk zs))) (fk zs))


set_option maxHeartbeats 400000 in
theorem rank_any (n : Nat) (hn : n ≤ 6) (T : Nat → Int) (hT : Ok n T) (w : World) :
    Calls Tryz.prog 77 #[.agg #[.int .i64 ((n : Int)), .int .i64 (T 0), .int .i64 (T 1), .int .i64 (T 2), .int .i64 (T 3), .int .i64 (T 4), .int .i64 (T 5)]] w fun e w' => e = .returned (.int .i64 (popK (domL (mv T n)) 6 : Nat)) ∧ Below w.heap.size w w' := by
  have hd := domL_lt (mv T n)
  go_enter Tryz.func77, Tryz.ntmps77
  go_wp2_with fail
  refine (domain_any n hn T hT _).mono ?_
  rintro e w1 ⟨rfl, hb⟩
  have hB1 : Below w.heap.size w w1 := ((Below.refl _ _).alloc (Nat.le_refl _) _).trans (hb.mono (by simp))
  generalize hm : domL (mv T n) = m at *
  have HM := Lib.hid hm
  clear hb hm
  go_wp2_with fail
  refine (ones_any m hd _).mono ?_
  rintro e w' ⟨rfl, rfl⟩
  go_wp2
  go_ret
  exact ⟨by rw [HM.out]; rfl, hB1⟩


set_option maxHeartbeats 400000 in
theorem implIdem_any (A : Option Addr) (n c : Nat) (zs : List Int) (w : World) (h : RI w A n zs) :
    Calls Tryz.prog 19 #[.slice A n c] w fun e w' => e = .returned (.bool (isC zs && idemL (mv (fT zs) (fk zs)))) ∧ Below w.heap.size w w' := by
  go_enter Tryz.func19, Tryz.ntmps19
  go_wp2_with fail
  refine (chartOf_any _ _ _ _ _ h).mono ?_
  rintro e w1 ⟨k, T, rfl, hy, hno, hb⟩
  obtain ⟨rfl, hT⟩ := of_facts hy hno
  have hOk := (fT_ok zs).congr hT (fk_le zs)
  have hk := fk_le zs
  have HL : Hid (idemL (mv T (fk zs)) = idemL (mv (fT zs) (fk zs))) := by show _ = _; rw [mv_congr (fun j hj => hT j (by omega))]
  clear hy hno hT h
  cases hC : isC zs
  · have HC := Lib.hid hC
    clear hC
    go_wp2
    go_ret
    exact ⟨by rw [HC.out]; rfl, hb.alloc hb.size _⟩
  · have HC := Lib.hid hC
    clear hC
    go_wp2_with fail
    refine (idem_any _ hk T hOk _).mono ?_
    rintro e w2 ⟨rfl, hb2⟩
    have hB2 : Below w.heap.size w w2 := (hb.alloc hb.size _).trans (hb2.mono (by have := hb.size; simp; omega))
    clear hb hb2
    go_wp2
    go_ret
    exact ⟨by rw [HC.out, ← HL.out]; rfl, hB2⟩
end

/-! spec's exported functions of one chart. -/
section
open Go.RowKit

theorem tuL_yes {zs : List Int} (h : isC zs = true) : LT zs.length (turnL zs.length (mv (ofL zs) zs.length)) = tuL zs := by
  unfold tuL; rw [fk_yes h]
  have := (isC_len h).2
  rw [turnL_congr this (fun j _ => fT_yes h j)]
theorem tuL_no {zs : List Int} (h : isC zs = false) : tuL zs = [] := by unfold tuL; rw [fk_no h]; rfl
theorem mvT_yes {zs : List Int} (h : isC zs = true) : mv (fT zs) (fk zs) = mv (ofL zs) zs.length := by rw [fk_yes h]; exact mv_congr (fun j _ => fT_yes h j)
theorem mvT_no {zs : List Int} (h : isC zs = false) : mv (fT zs) (fk zs) = [] := by rw [fk_no h]; rfl

theorem tuL_le (zs : List Int) : (tuL zs).length ≤ 6 := by unfold tuL; rw [LT_length]; exact fk_le zs




theorem turn_ent {n : Nat} (T : Nat → Int) : ∀ k, k ≤ n → ∀ j, turnL n (mv T k) j = -1 ∨ (0 ≤ turnL n (mv T k) j ∧ turnL n (mv T k) j < n) ∨ (turnL n (mv T k) j = 0 ∧ n ≤ j)
  | 0, _, j => by
    by_cases hj : j < n
    · left; simp [mv, turnL, stillF, hj]
    · right; right; exact ⟨by simp [mv, turnL, stillF, hj], by omega⟩
  | k + 1, hk, j => by
    have ih := turn_ent (n := n) T k (by omega) j
    by_cases hc : k < 6 ∧ 0 ≤ T k ∧ T k < 6
    · rw [mv_step hc, turnL_snoc]
      unfold turnS
      by_cases e : j = (T k).toNat
      · rw [if_pos e]; right; left; simp; omega
      · rw [if_neg e]; exact ih
    · have e0 : mv T (k + 1) = mv T k := by simp [mv, hc]
      rw [e0]; exact ih
theorem tu_ent {n : Nat} (T : Nat → Int) : Ent n (LT n (turnL n (mv T n))) := fun j hj => by
  rw [LT_get _ _ _ hj]
  rcases turn_ent (n := n) T n (Nat.le_refl _) j with h | h | h
  · exact .inl h
  · exact .inr h
  · omega
theorem ofL_LT {n : Nat} (F : Nat → Int) (j : Nat) (hj : j < n) : ofL (LT n F) j = F j := LT_get _ _ _ hj


end

/-! The exact laws' own functions: marks laid into a slice, marks asked. -/
section
open Go.RowKit

/-- the marks k, k + 1, .. -/
def mk (k : Nat) (j : Nat) : Int := ((k + j : Nat) : Int)
/-- what a list holds when the first t places bear marks -/
def mkP (k : Nat) (zs : List Int) (t j : Nat) : Int := if j < t then mk k j else ofL zs j
theorem mkP_step (k n : Nat) (zs : List Int) (t : Nat) (ht : t < n) : (ivs (LT n (mkP k zs t))).set t (.int .i64 ((k + t : Nat) : Int)) = ivs (LT n (mkP k zs (t + 1))) := by
  unfold ivs
  rw [← List.map_set, LT_set ht]
  congr 1
  refine LT_congr (fun j _ => ?_)
  unfold mkP
  by_cases e : j = t
  · subst e; simp [mk]
  · by_cases h : j < t
    · simp [e, h, show j < t + 1 by omega]
    · simp [e, h, show ¬ j < t + 1 by omega]
theorem mkP_all (k n : Nat) (zs : List Int) : LT n (mkP k zs n) = LT n (mk k) := LT_congr (fun j hj => by simp [mkP, hj])
theorem mkP_none (k n : Nat) (zs : List Int) (h : zs.length = n) : LT n (mkP k zs 0) = zs := by
  rw [← LT_ofL h]; exact LT_congr (fun j hj => by simp [mkP, ofL, LT, hj])




theorem own_below {w w' : World} {base size n : Nat} {e : TypeId} {v : Value} {xs : List Value} (h : w.ownsRow base e size v n xs) (hb : Below w.heap.size w w') : w'.ownsRow base e size v n xs :=
  h.kept (row := none) ⟨hb.os, hb.tape, hb.output, hb.size, fun k hk _ => hb.block k hk⟩ (by cases v.ownBlock <;> simp)
theorem own_slice {w : World} {base size n : Nat} {e : TypeId} {v : Value} {xs : List Value} (h : w.ownsRow base e size v n xs) : ∃ (A : Option Addr) (c : Nat), v = .slice A n c := by
  rcases h.2 with ⟨rfl, rfl⟩ | ⟨g, cap, cur, rfl, _⟩
  · exact ⟨none, 0, rfl⟩
  · exact ⟨_, _, rfl⟩
/-- a store into rows of the call's own: what lay below stays -/
theorem below_grown {w wr w1 : World} {base size n : Nat} {e : TypeId} {v : Value} {xs : List Value} (hB : Below w.heap.size w wr) (h : wr.ownsRow base e size v n xs) (hb : w.heap.size ≤ base) (hg : wr.grownBy w1 v.ownBlock) : Below w.heap.size w w1 :=
  hB.grown hg hB.size (fun k hk => Nat.le_trans hb (h.lt k hk).1)
/-- another row, all of whose blocks lie elsewhere, stays -/
theorem own_apart {w w' : World} {base base' size size' n n' : Nat} {e e' : TypeId} {v v' : Value} {xs xs' : List Value} (h : w.ownsRow base e size v n xs) (_h' : w.ownsRow base' e' size' v' n' xs') (hg : w.grownBy w' v'.ownBlock)
    (hne : ∀ g, v.ownBlock = some g → v'.ownBlock = some g → False) : w'.ownsRow base e size v n xs :=
  h.kept hg (by
    cases hv : v.ownBlock with
    | none => exact .inl rfl
    | some g => exact .inr (fun e => hne g hv e.symm))
/-- two rows, the one made before the other -/
theorem apart_of {w w0 : World} {base base' size size' n n' : Nat} {e e' : TypeId} {v v' : Value} {xs xs' : List Value} (h : w0.ownsRow base e size v n xs) (hle : w0.heap.size ≤ base') (h' : w.ownsRow base' e' size' v' n' xs') :
    ∀ g, v.ownBlock = some g → v'.ownBlock = some g → False := fun g h1 h2 => by
  have a := (h.lt g h1).2
  have b := (h'.lt g h2).1
  omega
theorem ri_grown {w w' : World} {A : Option Addr} {n : Nat} {zs : List Int} {v : Value} {base : Nat} {size n' : Nat} {e : TypeId} {xs : List Value} (h : Reads w base 1 A n (ivs zs)) (hg : w.grownBy w' v.ownBlock) (h' : w.ownsRow base e size v n' xs) (hbs : base ≤ w.heap.size) : Reads w' base 1 A n (ivs zs) :=
  h.grown hg hbs (fun g e => (h'.lt g e).1)
end

/-! impl.chartPair. -/
section
open Go.RowKit

/-- two lists are charts of as many points -/
def isP (f g : List Int) : Bool := isC f && (isC g && decide (f.length = g.length))
def pk (f g : List Int) : Nat := if isP f g = true then f.length else 0
def pF (f g : List Int) (j : Nat) : Int := if isP f g = true then ofL f j else 0
def pG (f g : List Int) (j : Nat) : Int := if isP f g = true then ofL g j else 0

def PairPost (f g : List Int) (w : World) (e : Ending) (w' : World) : Prop :=
  ∃ (k : Nat) (T G : Nat → Int), e = .returned (.tuple #[.agg #[.int .i64 ((k : Int)), .int .i64 (T 0), .int .i64 (T 1), .int .i64 (T 2), .int .i64 (T 3), .int .i64 (T 4), .int .i64 (T 5)], .agg #[.int .i64 ((k : Int)), .int .i64 (G 0), .int .i64 (G 1), .int .i64 (G 2), .int .i64 (G 3), .int .i64 (G 4), .int .i64 (G 5)], .bool (isP f g)]) ∧ k = pk f g ∧ (∀ j, j < 6 → T j = pF f g j) ∧ (∀ j, j < 6 → G j = pG f g j) ∧ Below w.heap.size w w'

theorem pair_no {f g : List Int} (h : isP f g = false) : 0 = pk f g ∧ (∀ j : Nat, j < 6 → (0 : Int) = pF f g j) ∧ (∀ j : Nat, j < 6 → (0 : Int) = pG f g j) := by
  simp [pk, pF, pG, h]

theorem below_set77 {b b' : Nat} {a w : World} (h : Below a.heap.size a w) (hb : a.heap.size ≤ b) (hb' : a.heap.size ≤ b') (v0 v1 v2 v3 v4 v5 v6 u0 u1 u2 u3 u4 u5 u6 : Value) (o : Obj) :
    Below a.heap.size a ((((((((((((((((w.setCell ⟨b, 0, none⟩ v0).setCell ⟨b, 1, none⟩ v1).setCell ⟨b, 2, none⟩ v2).setCell ⟨b, 3, none⟩ v3).setCell ⟨b, 4, none⟩ v4).setCell ⟨b, 5, none⟩ v5).setCell ⟨b, 6, none⟩ v6).setCell ⟨b', 0, none⟩ u0).setCell ⟨b', 1, none⟩ u1).setCell ⟨b', 2, none⟩ u2).setCell ⟨b', 3, none⟩ u3).setCell ⟨b', 4, none⟩ u4).setCell ⟨b', 5, none⟩ u5).setCell ⟨b', 6, none⟩ u6).alloc o)) :=
  have hh := below_set7 (below_set7 h hb v0 v1 v2 v3 v4 v5 v6) hb' u0 u1 u2 u3 u4 u5 u6
  hh.alloc hh.size o

set_option maxHeartbeats 2000000 in
theorem chartPair_any (A B : Option Addr) (n m c d : Nat) (zs ys : List Int) (w : World) (h : RI w A n zs) (h' : RI w B m ys) :
    Calls Tryz.prog 74 #[.slice A n c, .slice B m d] w (PairPost zs ys w) := by
  have HL := Lib.hid h.len
  have HL' := Lib.hid h'.len
  go_enter Tryz.func74, Tryz.ntmps74
  go_wp2_with fail
  have hb0 : Below w.heap.size w ((w.alloc (.cells #[.int .i64 ((0 : Int)), .int .i64 ((fun _ => (0 : Int)) 0), .int .i64 ((fun _ => (0 : Int)) 1), .int .i64 ((fun _ => (0 : Int)) 2), .int .i64 ((fun _ => (0 : Int)) 3), .int .i64 ((fun _ => (0 : Int)) 4), .int .i64 ((fun _ => (0 : Int)) 5)] 58)).alloc (.cells #[.int .i64 ((0 : Int)), .int .i64 ((fun _ => (0 : Int)) 0), .int .i64 ((fun _ => (0 : Int)) 1), .int .i64 ((fun _ => (0 : Int)) 2), .int .i64 ((fun _ => (0 : Int)) 3), .int .i64 ((fun _ => (0 : Int)) 4), .int .i64 ((fun _ => (0 : Int)) 5)] 58)) := ((Below.refl _ w).alloc (Nat.le_refl _) _).alloc (by simp) _
  have hR0 := (Cb.new w 0 (fun _ => 0)).alloc (.cells #[.int .i64 ((0 : Int)), .int .i64 ((fun _ => (0 : Int)) 0), .int .i64 ((fun _ => (0 : Int)) 1), .int .i64 ((fun _ => (0 : Int)) 2), .int .i64 ((fun _ => (0 : Int)) 3), .int .i64 ((fun _ => (0 : Int)) 4), .int .i64 ((fun _ => (0 : Int)) 5)] 58)
  have hR1 := Cb.new (w.alloc (.cells #[.int .i64 ((0 : Int)), .int .i64 ((fun _ => (0 : Int)) 0), .int .i64 ((fun _ => (0 : Int)) 1), .int .i64 ((fun _ => (0 : Int)) 2), .int .i64 ((fun _ => (0 : Int)) 3), .int .i64 ((fun _ => (0 : Int)) 4), .int .i64 ((fun _ => (0 : Int)) 5)] 58)) 0 (fun _ => 0)
  rw [World.size_alloc] at hR1
  refine (chartOf_any _ _ _ _ _ (h.below hb0)).mono ?_
  rintro e w1 ⟨k, T, rfl, hy, hno, hb⟩
  have HY := Lib.hid hy
  have HN := Lib.hid hno
  have hB1 : Below w.heap.size w w1 := hb0.trans (hb.mono hb0.size)
  have hz1 : w.heap.size + 1 + 1 ≤ w1.heap.size := by have := hb.size; simpa using this
  have hR0 := (hR0.below hb (by simp <;> omega)).alloc (.cells #[.int .i64 ((k : Int)), .int .i64 (T 0), .int .i64 (T 1), .int .i64 (T 2), .int .i64 (T 3), .int .i64 (T 4), .int .i64 (T 5)] 58)
  have hR1 := (hR1.below hb (by simp <;> omega)).alloc (.cells #[.int .i64 ((k : Int)), .int .i64 (T 0), .int .i64 (T 1), .int .i64 (T 2), .int .i64 (T 3), .int .i64 (T 4), .int .i64 (T 5)] 58)
  have hC := Cb.new w1 k T
  have hB1' := hB1.alloc hB1.size (.cells #[.int .i64 ((k : Int)), .int .i64 (T 0), .int .i64 (T 1), .int .i64 (T 2), .int .i64 (T 3), .int .i64 (T 4), .int .i64 (T 5)] 58)
  clear hb hb0 hB1 hy hno
  go_wp2_with fail
  refine (chartOf_any _ _ _ _ _ (h'.below hB1')).mono ?_
  rintro e w2 ⟨k', T', rfl, hy', hno', hb⟩
  have HY' := Lib.hid hy'
  have HN' := Lib.hid hno'
  have hB2 : Below w.heap.size w w2 := hB1'.trans (hb.mono hB1'.size)
  have hz2 : w1.heap.size + 1 ≤ w2.heap.size := by have := hb.size; simpa using this
  have hR0 := hR0.below hb (by simp <;> omega)
  have hR1 := hR1.below hb (by simp <;> omega)
  have hC := hC.below hb (by simp)
  have hq0 : w.heap.size < w2.heap.size := by omega
  have hq1 : w.heap.size + 1 < w2.heap.size := by omega
  have hq2 : w1.heap.size < w2.heap.size := by omega
  have hB3 := hB2.alloc hB2.size (.cells #[.int .i64 ((k' : Int)), .int .i64 (T' 0), .int .i64 (T' 1), .int .i64 (T' 2), .int .i64 (T' 3), .int .i64 (T' 4), .int .i64 (T' 5)] 58)
  clear hb hB1' hB3 h h' hy' hno'
  obtain ⟨a0, a1, a2, a3, a4, a5, a6⟩ := hR0.all
  obtain ⟨b0, b1, b2, b3, b4, b5, b6⟩ := hR0.frees
  obtain ⟨c0, c1, c2, c3, c4, c5, c6⟩ := hR1.all
  obtain ⟨d0, d1, d2, d3, d4, d5, d6⟩ := hR1.frees
  obtain ⟨e0, e1, e2, e3, e4, e5, e6⟩ := hC.all
  cases hCf : isC zs
  · have HP : Hid (isP zs ys = false) := by show _ = _; simp [isP, hCf]
    clear hCf
    go_wp2
    refine bodyPost_ret (v := .tuple #[.agg #[.int .i64 (((0 : Nat) : Int)), .int .i64 ((fun _ => (0 : Int)) 0), .int .i64 ((fun _ => (0 : Int)) 1), .int .i64 ((fun _ => (0 : Int)) 2), .int .i64 ((fun _ => (0 : Int)) 3), .int .i64 ((fun _ => (0 : Int)) 4), .int .i64 ((fun _ => (0 : Int)) 5)], .agg #[.int .i64 (((0 : Nat) : Int)), .int .i64 ((fun _ => (0 : Int)) 0), .int .i64 ((fun _ => (0 : Int)) 1), .int .i64 ((fun _ => (0 : Int)) 2), .int .i64 ((fun _ => (0 : Int)) 3), .int .i64 ((fun _ => (0 : Int)) 4), .int .i64 ((fun _ => (0 : Int)) 5)], .bool false]) (by simp [results, Tryz.results74, go_sem, hq0, hq1, a0, a1, a2, a3, a4, a5, a6, c0, c1, c2, c3, c4, c5, c6]) rfl ⟨0, fun _ => 0, fun _ => 0, by rw [HP.out], (pair_no HP.out).1, (pair_no HP.out).2.1, (pair_no HP.out).2.2, below_set77 hB2 (Nat.le_refl _) (Nat.le_succ _) _ _ _ _ _ _ _ _ _ _ _ _ _ _ _⟩
  · cases hCg : isC ys
    · have HP : Hid (isP zs ys = false) := by show _ = _; simp [isP, hCg]
      clear hCf hCg
      go_wp2
      refine bodyPost_ret (v := .tuple #[.agg #[.int .i64 (((0 : Nat) : Int)), .int .i64 ((fun _ => (0 : Int)) 0), .int .i64 ((fun _ => (0 : Int)) 1), .int .i64 ((fun _ => (0 : Int)) 2), .int .i64 ((fun _ => (0 : Int)) 3), .int .i64 ((fun _ => (0 : Int)) 4), .int .i64 ((fun _ => (0 : Int)) 5)], .agg #[.int .i64 (((0 : Nat) : Int)), .int .i64 ((fun _ => (0 : Int)) 0), .int .i64 ((fun _ => (0 : Int)) 1), .int .i64 ((fun _ => (0 : Int)) 2), .int .i64 ((fun _ => (0 : Int)) 3), .int .i64 ((fun _ => (0 : Int)) 4), .int .i64 ((fun _ => (0 : Int)) 5)], .bool false]) (by simp [results, Tryz.results74, go_sem, hq0, hq1, a0, a1, a2, a3, a4, a5, a6, c0, c1, c2, c3, c4, c5, c6]) rfl ⟨0, fun _ => 0, fun _ => 0, by rw [HP.out], (pair_no HP.out).1, (pair_no HP.out).2.1, (pair_no HP.out).2.2, below_set77 hB2 (Nat.le_refl _) (Nat.le_succ _) _ _ _ _ _ _ _ _ _ _ _ _ _ _ _⟩
    · have HZ := Lib.hid (HY.out hCf)
      have HZ' := Lib.hid (HY'.out hCg)
      by_cases hl : k = k'
      · have hne : ((k : Int) != (k' : Int)) = false := by simp [hl]
        have HP : Hid (isP zs ys = true) := by show _ = _; simp [isP, hCf, hCg]; rw [← HZ.out.1, ← HZ'.out.1, hl]
        have HKK := Lib.hid hl
        clear hCf hCg hl
        go_wp2
        go_region
        all_goals go_wp2
        refine bodyPost_ret (v := .tuple #[.agg #[.int .i64 ((k : Int)), .int .i64 (T 0), .int .i64 (T 1), .int .i64 (T 2), .int .i64 (T 3), .int .i64 (T 4), .int .i64 (T 5)], .agg #[.int .i64 ((k' : Int)), .int .i64 (T' 0), .int .i64 (T' 1), .int .i64 (T' 2), .int .i64 (T' 3), .int .i64 (T' 4), .int .i64 (T' 5)], .bool true]) (by simp [results, Tryz.results74, go_sem, hq0, hq1, a0, a1, a2, a3, a4, a5, a6, c0, c1, c2, c3, c4, c5, c6]) rfl ⟨k, T, T', by rw [HP.out, HKK.out], ?_, fun j hj => ?_, fun j hj => ?_, (below_set77 hB2 (Nat.le_refl _) (Nat.le_succ _) _ _ _ _ _ _ _ _ _ _ _ _ _ _ _).drew⟩
        · simp [pk, HP.out, HZ.out.1]
        · simp [pF, HP.out, HZ.out.2 j hj]
        · simp [pG, HP.out, HZ'.out.2 j hj]
      · have hne : ((k : Int) != (k' : Int)) = true := by rw [bne_iff_ne]; omega
        have HP : Hid (isP zs ys = false) := by
          show _ = _
          simp only [isP, hCf, hCg, Bool.true_and]
          exact decide_eq_false (fun e => hl (by rw [HZ.out.1, HZ'.out.1, e]))
        clear hCf hCg hl
        go_wp2
        refine bodyPost_ret (v := .tuple #[.agg #[.int .i64 (((0 : Nat) : Int)), .int .i64 ((fun _ => (0 : Int)) 0), .int .i64 ((fun _ => (0 : Int)) 1), .int .i64 ((fun _ => (0 : Int)) 2), .int .i64 ((fun _ => (0 : Int)) 3), .int .i64 ((fun _ => (0 : Int)) 4), .int .i64 ((fun _ => (0 : Int)) 5)], .agg #[.int .i64 (((0 : Nat) : Int)), .int .i64 ((fun _ => (0 : Int)) 0), .int .i64 ((fun _ => (0 : Int)) 1), .int .i64 ((fun _ => (0 : Int)) 2), .int .i64 ((fun _ => (0 : Int)) 3), .int .i64 ((fun _ => (0 : Int)) 4), .int .i64 ((fun _ => (0 : Int)) 5)], .bool false]) (by simp [results, Tryz.results74, go_sem, hq0, hq1, a0, a1, a2, a3, a4, a5, a6, c0, c1, c2, c3, c4, c5, c6]) rfl ⟨0, fun _ => 0, fun _ => 0, by rw [HP.out], (pair_no HP.out).1, (pair_no HP.out).2.1, (pair_no HP.out).2.2, below_set77 hB2 (Nat.le_refl _) (Nat.le_succ _) _ _ _ _ _ _ _ _ _ _ _ _ _ _ _⟩
end

/-! The exported functions of two charts, of a set: impl, and spec's of products, meets, sets, cuts. -/
section
open Go.RowKit

theorem newL_oB {w w3 : World} {base k : Nat} {B : Addr} {F : Nat → Int} {L : List Int} (hown : w3.ownsRow base 3 1 (.slice (some B) k k) k (ivs (LT k F))) (hbase : w.heap.size ≤ base) (hB : Below w.heap.size w w3) (hL : LT k F = L) : NewL w L (.slice (some B) k k) w3 := by
  subst hL
  refine ⟨?_, hB⟩
  rw [LT_length]
  exact ⟨hown.1, hown.2.imp id fun ⟨g, cap, cur, a, b, c⟩ => ⟨g, cap, cur, a, Nat.le_trans hbase b, c⟩⟩

theorem pk_le (f g : List Int) : pk f g ≤ 6 := by
  unfold pk; split
  · rename_i h; unfold isP at h; rw [Bool.and_eq_true] at h; exact (isC_len h.1).2
  · omega
theorem isP_yes {f g : List Int} (h : isP f g = true) : isC f = true ∧ isC g = true ∧ f.length = g.length := by
  unfold isP at h; rw [Bool.and_eq_true, Bool.and_eq_true] at h; exact ⟨h.1, h.2.1, of_decide_eq_true h.2.2⟩
theorem pk_yes {f g : List Int} (h : isP f g = true) : pk f g = f.length := by simp [pk, h]
theorem pk_no {f g : List Int} (h : isP f g = false) : pk f g = 0 := by simp [pk, h]
theorem pF_yes {f g : List Int} (h : isP f g = true) : pF f g = ofL f := by funext j; simp [pF, h]
theorem pG_yes {f g : List Int} (h : isP f g = true) : pG f g = ofL g := by funext j; simp [pG, h]
theorem pF_ok (f g : List Int) : Ok (pk f g) (pF f g) := by
  cases h : isP f g
  · rw [pk_no h]; intro j hj; omega
  · rw [pk_yes h, pF_yes h]; have := isP_yes h; exact ent_ok (isC_len this.1).2 (isC_ent this.1)
theorem pG_ok (f g : List Int) : Ok (pk f g) (pG f g) := by
  cases h : isP f g
  · rw [pk_no h]; intro j hj; omega
  · rw [pk_yes h, pG_yes h]; have := isP_yes h; rw [this.2.2]; exact ent_ok (isC_len this.2.1).2 (isC_ent this.2.1)

def tiL (f g : List Int) : List Int := LT (pk f g) (timesL (pk f g) (pG f g) (mv (pF f g) (pk f g)))
def meL (f g : List Int) : List Int := LT (pk f g) (meetL (pk f g) (pG f g) (mv (pF f g) (pk f g)))
theorem tiL_le (f g : List Int) : (tiL f g).length ≤ 6 := by unfold tiL; rw [LT_length]; exact pk_le f g
theorem meL_le (f g : List Int) : (meL f g).length ≤ 6 := by unfold meL; rw [LT_length]; exact pk_le f g
theorem tiL_no {f g : List Int} (h : isP f g = false) : tiL f g = [] := by unfold tiL; rw [pk_no h]; rfl
theorem meL_no {f g : List Int} (h : isP f g = false) : meL f g = [] := by unfold meL; rw [pk_no h]; rfl
theorem times_congr {n : Nat} {T T' G G' : Nat → Int} (hn : n ≤ 6) (h : ∀ j, j < 6 → T j = T' j) (h' : ∀ j, j < 6 → G j = G' j) : LT n (timesL n G (mv T n)) = LT n (timesL n G' (mv T' n)) := by
  refine LT_congr (fun j hj => ?_)
  rw [times_closed n _ _ j n hn, times_closed n _ _ j n hn, h j (by omega)]
  split
  · rename_i hc; exact h' _ (by omega)
  · rfl
theorem meet_congr {n : Nat} {T T' G G' : Nat → Int} (hn : n ≤ 6) (h : ∀ j, j < 6 → T j = T' j) (h' : ∀ j, j < 6 → G j = G' j) : LT n (meetL n G (mv T n)) = LT n (meetL n G' (mv T' n)) := by
  refine LT_congr (fun j hj => ?_)
  rw [meet_closed n _ _ j n hn, meet_closed n _ _ j n hn, h j (by omega), h' j (by omega)]





/-- the common part, place by place -/
def meF (zs ys : List Int) (j : Nat) : Int := if ofL zs j = ofL ys j then ofL zs j else -1
theorem meF_closed {n : Nat} {zs ys : List Int} (hn : n ≤ 6) (hE : Ent n zs) : LT n (meF zs ys) = LT n (meetL n (ofL ys) (mv (ofL zs) n)) := by
  refine LT_congr (fun j hj => ?_)
  rw [meet_closed n _ _ j n hn]
  have hz : ofL zs j = -1 ∨ (0 ≤ ofL zs j ∧ ofL zs j < n) := hE j hj
  unfold meF stillF
  refine Eq.symm ?_
  rcases hz with h | ⟨h0, h1⟩
  · have hn : ¬ ((j < n ∧ 0 ≤ ofL zs j ∧ ofL zs j < 6) ∧ ofL ys j = ofL zs j) := fun hh => by omega
    rw [if_neg hn, if_pos hj]
    split
    · exact h.symm
    · rfl
  · by_cases e : ofL zs j = ofL ys j
    · rw [if_pos ⟨⟨hj, h0, by omega⟩, e.symm⟩, if_pos e]
    · have hn : ¬ ((j < n ∧ 0 ≤ ofL zs j ∧ ofL zs j < 6) ∧ ofL ys j = ofL zs j) := fun h => e h.2.symm
      rw [if_neg hn, if_neg e, if_pos hj]

end

/-! Sets as charts, cuts: impl.identity, impl.isSet, ChartSet, ChartCut of both. -/
section
open Go.RowKit

/-- the number tells a set of n points -/
def inS (n : Nat) (s : Int) : Bool := decide (0 ≤ s ∧ s < 2 ^ n)
theorem inS_nat {n : Nat} {s : Int} (hn : n ≤ 6) (h : inS n s = true) : ∃ m : Nat, s = m ∧ m < 64 := by
  have h' := of_decide_eq_true h
  obtain ⟨m, rfl⟩ := Int.eq_ofNat_of_zero_le h'.1
  refine ⟨m, rfl, ?_⟩
  have : (2 : Int) ^ n ≤ 64 := by
    match n, hn with
    | 0, _ => decide
    | 1, _ => decide
    | 2, _ => decide
    | 3, _ => decide
    | 4, _ => decide
    | 5, _ => decide
    | 6, _ => decide
  omega

def idF (n j : Nat) : Int := if j < n then (j : Int) else 0


theorem pow_fin : ∀ n : Fin 7, wrap64 (2 ^ n.val) = 2 ^ n.val := by decide +kernel
theorem pow_is {n : Nat} (hn : n ≤ 6) : wrap64 (2 ^ n) = 2 ^ n := pow_fin ⟨n, by omega⟩
theorem pow_lim : ∀ n : Fin 7, (1 : Int) ≤ 2 ^ n.val ∧ (2 : Int) ^ n.val ≤ 64 := by decide +kernel


def seOK (N s : Int) : Bool := inB N 1 6 && inS N.toNat s
def seL (N s : Int) : List Int := if seOK N s = true then LT N.toNat (seF s.toNat) else []
theorem seL_le (N s : Int) : (seL N s).length ≤ 6 := by
  unfold seL; split
  · rename_i h; rw [LT_length]; unfold seOK at h; rw [Bool.and_eq_true] at h; have := of_decide_eq_true h.1; omega
  · simp
theorem cut_id {n m : Nat} (hn : n ≤ 6) {T : Nat → Int} (hT : ∀ j, T j = idF n j) : LT n (cutL n m (mv T n)) = LT n (seF m) := by
  refine LT_congr (fun j hj => ?_)
  rw [cut_closed n m T j n hn, hT j]
  have e : idF n j = j := by simp [idF, hj]
  rw [e]
  unfold seF stillF
  by_cases hb : m.testBit j = true
  · rw [if_pos ⟨⟨hj, by omega, by omega⟩, hb⟩, if_pos hb]
  · rw [if_neg (fun h => hb h.2), if_neg hb, if_pos hj]
theorem idF_ok {n : Nat} (hn : n ≤ 6) : Ok n (idF n) := fun j hj => .inr ⟨by simp [idF, hj], by simp [idF, hj]; omega⟩



theorem ofL_LT' {n : Nat} (F : Nat → Int) (j : Nat) (hj : j < n) : ofL (LT n F) j = F j := LT_get _ _ _ hj

def cuOK (zs : List Int) (s : Int) : Bool := isC zs && inS zs.length s
def cuL (zs : List Int) (s : Int) : List Int := if cuOK zs s = true then LT zs.length (cutL zs.length s.toNat (mv (ofL zs) zs.length)) else []
theorem cuL_le (zs : List Int) (s : Int) : (cuL zs s).length ≤ 6 := by
  unfold cuL; split
  · rename_i h; rw [LT_length]; unfold cuOK at h; rw [Bool.and_eq_true] at h; exact (isC_len h.1).2
  · simp
theorem cut_congr {n m : Nat} {T T' : Nat → Int} (h : ∀ j, j < n → T j = T' j) : cutL n m (mv T n) = cutL n m (mv T' n) := by rw [mv_congr h]
theorem cut_times {n m : Nat} {zs : List Int} (hn : n ≤ 6) (hE : Ent n zs) : LT n (timesL n (ofL zs) (mv (ofL (LT n (seF m))) n)) = LT n (cutL n m (mv (ofL zs) n)) := by
  refine LT_congr (fun j hj => ?_)
  rw [times_closed n _ _ j n hn, cut_closed n m _ j n hn, ofL_LT' _ j hj]
  have hz : ofL zs j = -1 ∨ (0 ≤ ofL zs j ∧ ofL zs j < n) := hE j hj
  unfold seF stillF
  by_cases hb : m.testBit j = true
  · rw [if_pos hb, if_pos ⟨hj, by omega, by omega⟩]
    have e : ((j : Int)).toNat = j := by omega
    rw [e]
    rcases hz with h | ⟨h0, h1⟩
    · rw [if_neg (fun hh => by omega), if_pos hj]; exact h
    · rw [if_pos ⟨⟨hj, h0, by omega⟩, hb⟩]
  · have e2 : ¬ ((j < n ∧ 0 ≤ ofL zs j ∧ ofL zs j < 6) ∧ m.testBit j = true) := fun hh => hb hh.2
    have e1 : ¬ (j < n ∧ (0 : Int) ≤ -1 ∧ (-1 : Int) < 6) := fun hh => by omega
    rw [if_neg hb, if_neg e2, if_neg e1]
theorem se_ent {n m : Nat} : Ent n (LT n (seF m)) := fun j hj => by
  rw [LT_get _ _ _ hj]
  unfold seF; split
  · right; omega
  · left; rfl


end

end Go.Proofs.YtkfiehndlgplgaaGreatDoor
