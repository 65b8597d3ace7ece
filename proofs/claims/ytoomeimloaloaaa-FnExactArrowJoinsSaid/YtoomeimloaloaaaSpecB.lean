/-
  spec's small functions on lists: l1Domain, l1Size, l1Idem, l1Times, l1Set, l1Below, l1Both.
-/
import Derived.Test.YtoomeimloaloaaaSpecA
import Derived.Deep.QuietTactic
import Derived.BigQuiet
namespace Go.Proofs.Ytoomeimloaloaaa
set_option maxRecDepth 100000
open Go.RowKit

set_option maxHeartbeats 400000 in
theorem l1Domain_any (A : Option Addr) (n c : Nat) (zs : List Int) (w : World) (h : RI w A n zs) (hn : n ≤ 6) (hE : Ent n zs) :
    Calls Try.prog 24 #[.slice A n c] w fun e w' => e = .returned (.int .i64 (domL (mv (ofL zs) n) : Nat)) ∧ w = w' := by
  go_enter Try.func24, Try.ntmps24
  go_wp2
  go_loop [3, 4] (fun s i => ∃ k : Nat, k ≤ n ∧ i = .int .i64 k ∧ s = .int .i64 (domL (mv (ofL zs) k) : Nat)) (fun _ i => n - (intOf i).toNat)
  case atStart => exact ⟨0, Nat.zero_le _, rfl, rfl⟩
  case round =>
    obtain ⟨k, hk, rfl, rfl⟩ := hrel
    by_cases hlt : k < n
    · obtain ⟨ad, rfl, hab, hc⟩ := h.at_ hlt
      have hz := hE k hlt
      have hof : ofL zs k = zs[k]?.getD 0 := rfl
      generalize zs[k]?.getD 0 = z at hc hz hof
      clear h
      rcases hz with rfl | ⟨hz0, hzn⟩
      · have HS := Lib.hid (mv_skip hof)
        clear hof
        go_wp2
        go_round
        case rel => exact ⟨k + 1, by omega, by go_num, by rw [HS.out]⟩
        case measure => simp [intOf]; omega
      · have hm := mv_step (T := ofL zs) (k := k) ⟨by omega, by omega, by omega⟩
        have HM : Hid (bits BinOp.or IntKind.i64 (domL (mv (ofL zs) k) : Nat) (wrap64 (2 ^ k)) = (domL (mv (ofL zs) (k + 1)) : Nat)) := by
          show _ = _
          rw [hm, domL_snoc]
          exact set_fin ⟨_, domL_lt _⟩ ⟨k, by omega⟩
        clear hm hof
        go_wp2
        go_round
        case rel => exact ⟨k + 1, by omega, by go_num, by rw [← HM.out]⟩
        case measure => simp [intOf]; omega
    · obtain rfl : k = n := by omega
      go_wp2
      go_ret
      exact ⟨rfl, rfl⟩

/-- how many of the points below k a set has -/
def popK (m : Nat) : Nat → Nat
  | 0 => 0
  | k + 1 => popK m k + (m.testBit k).toNat
theorem popK_le (m : Nat) : ∀ k, popK m k ≤ k
  | 0 => by simp [popK]
  | k + 1 => by have := popK_le m k; unfold popK; cases m.testBit k <;> simp <;> omega
theorem bitv_fin : ∀ (m : Fin 64) (z : Fin 6), bits BinOp.and IntKind.i64 ((m.val : Int) / 2 ^ z.val) 1 = ((m.val.testBit z.val).toNat : Int) := by decide +kernel



/-- the product, place by place -/
def tmF (zs ys : List Int) (j : Nat) : Int := if ofL zs j < 0 then -1 else ofL ys (ofL zs j).toNat
theorem tmF_closed {n : Nat} {zs ys : List Int} (hn : n ≤ 6) (hE : Ent n zs) : LT n (tmF zs ys) = LT n (timesL n (ofL ys) (mv (ofL zs) n)) := by
  refine LT_congr (fun j hj => ?_)
  rw [times_closed n _ _ j n hn]
  have hz : ofL zs j = -1 ∨ (0 ≤ ofL zs j ∧ ofL zs j < n) := hE j hj
  unfold tmF stillF
  rcases hz with h | ⟨h0, h1⟩
  · rw [if_pos (by omega), if_neg (by omega), if_pos hj]
  · rw [if_neg (by omega), if_pos ⟨hj, h0, by omega⟩]

set_option maxHeartbeats 1000000 in
theorem l1Times_any (A B : Option Addr) (n c d : Nat) (zs ys : List Int) (w : World) (h : RI w A n zs) (h' : RI w B n ys) (hn : n ≤ 6) (hE : Ent n zs) :
    Calls Try.prog 27 #[.slice A n c, .slice B n d] w fun e w' => ∃ v, e = .returned v ∧ NewL w (LT n (timesL n (ofL ys) (mv (ofL zs) n))) v w' := by
  obtain ⟨i0, hi, hz0, hz1, hz2⟩ := info_parts info_int
  rw [← tmF_closed hn hE]
  go_enter Try.func27, Try.ntmps27
  go_wp2
  go_loopw [5, 6] (fun v i wr => ∃ k : Nat, k ≤ n ∧ i = .int .i64 k ∧ wr.ownsRow w.heap.size 3 1 v k (ivs (LT k (tmF zs ys))) ∧ Below w.heap.size w wr) (fun _ i _ => n - (intOf i).toNat)
  case atStart => exact ⟨0, Nat.zero_le _, rfl, own_lit0 w, (Below.refl _ _).alloc (Nat.le_refl _) _⟩
  case round =>
    obtain ⟨k, hk, rfl, hown, hB⟩ := hrel
    by_cases hlt : k < n
    · obtain ⟨ad, rfl, hab, hc⟩ := h.at_ hlt
      have g := (hB.cell (p := ad.add k) (by rw [block_of_add]; exact hab)).trans hc
      have hz := hE k hlt
      have hof : ofL zs k = zs[k]?.getD 0 := rfl
      have hLs := LT_succ k (tmF zs ys)
      generalize zs[k]?.getD 0 = z at g hz hof
      clear hc h
      have h1 : k + 1 ≤ maxLen := by unfold maxLen; omega
      have h2 : (k + 1) * 8 ≤ 140737488355328 := by omega
      have h3 : ∀ o : Obj, w.heap.size ≤ (wr.alloc o).heap.size := fun o => by have := hB.size; simp; omega
      rcases hz with rfl | ⟨hz1', hz2'⟩
      · have HL := Lib.hid (show LT k (tmF zs ys) ++ [-1] = LT (k + 1) (tmF zs ys) by rw [hLs]; simp [tmF, hof])
        clear hLs hof
        go_wp2_with (at_builtin; refine wpList_append_own _ rfl _ _ 22 rfl w.heap.size 3 i0 (.int .i64 0) 1 8 Try.underlying22 hi hz0 hz1 hz2 rfl (by decide) _ _ _ rfl (hown.alloc _) ⟨wr.heap.size, 0, none⟩ 1 1 [.int .i64 (-1)] rfl rfl (cell_one_new _ _ _) (by simp [Value.oneCell']) h1 h2 (h3 _) ?_; intro v' w1 hown' hgrow _)
        have hR := app_step hB hown hown' hgrow HL.out
        exact ⟨⟨k + 1, by omega, by go_num, hR.1, hR.2⟩, by simp [intOf]; omega⟩
      · obtain ⟨u, rfl⟩ := Int.eq_ofNat_of_zero_le hz1'
        obtain ⟨ad', rfl, hab', hc'⟩ := h'.at_ (k := u) (by omega)
        have g' := (hB.cell (p := ad'.add u) (by rw [block_of_add]; exact hab')).trans hc'
        have HL := Lib.hid (show LT k (tmF zs ys) ++ [ys[u]?.getD 0] = LT (k + 1) (tmF zs ys) by rw [hLs]; unfold tmF; rw [hof, if_neg (by omega)]; rfl)
        generalize ys[u]?.getD 0 = y at g' HL
        clear hLs hof hc' h'
        go_wp2_with (at_builtin; refine wpList_append_own _ rfl _ _ 22 rfl w.heap.size 3 i0 (.int .i64 0) 1 8 Try.underlying22 hi hz0 hz1 hz2 rfl (by decide) _ _ _ rfl (hown.alloc _) ⟨wr.heap.size, 0, none⟩ 1 1 [.int .i64 (y)] rfl rfl (cell_one_new _ _ _) (by simp [Value.oneCell']) h1 h2 (h3 _) ?_; intro v' w1 hown' hgrow _)
        have hR := app_step hB hown hown' hgrow HL.out
        exact ⟨⟨k + 1, by omega, by go_num, hR.1, hR.2⟩, by simp [intOf]; omega⟩
    · obtain rfl : k = n := by omega
      go_wp2
      go_ret
      exact ⟨_, rfl, by rw [LT_length]; exact hown, hB⟩

/-- a set's chart, place by place -/
def seF (m j : Nat) : Int := if m.testBit j = true then (j : Int) else -1

end Go.Proofs.Ytoomeimloaloaaa
