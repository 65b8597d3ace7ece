/-
  spec's small functions on lists: l1None, l1Turned, l1Domain, l1Size, l1Idem, l1Times, l1Set.
-/
import Derived.Test.YtoomeimloaloaaaIn
import Derived.Test.YtoomeimloaloaaaFold
import Derived.Maps.AppendAt
namespace Go.Proofs.Ytoomeimloaloaaa
set_option maxRecDepth 100000
open Go.RowKit

theorem ivs_snoc (L : List Int) (z : Int) : ivs L ++ [Value.int .i64 z] = ivs (L ++ [z]) := by simp [ivs]
theorem repl_snoc (k : Nat) (z : Int) : List.replicate k z ++ [z] = List.replicate (k + 1) z := by rw [List.replicate_succ']

/-- the post of a function that hands back a new list -/
def NewL (w : World) (L : List Int) (v : Value) (w' : World) : Prop := w'.ownsRow w.heap.size 3 1 v L.length (ivs L) ∧ Below w.heap.size w w'

/-- the empty literal -/
theorem own_lit0 (w : World) : (w.alloc (.cells #[] 3)).ownsRow w.heap.size 3 1 (.slice (some ⟨w.heap.size, 0, none⟩) 0 0) 0 (ivs []) := World.ownsRow_lit (base := w.heap.size) (e := 3) (size := 1) w #[] 0 (Nat.le_refl _) (by simp [maxLen]) rfl

theorem app_step {w wr w1 : World} {v v' : Value} {k : Nat} {L L' : List Int} {z : Int} (hB : Below w.heap.size w wr) (hown : wr.ownsRow w.heap.size 3 1 v k (ivs L)) (hown' : w1.ownsRow w.heap.size 3 1 v' (k + 1) (ivs L ++ [.int .i64 z]))
    (hgrow : (wr.alloc (.cells #[.int .i64 z] 3)).grownBy w1 v.ownBlock) (hL : L ++ [z] = L') : w1.ownsRow w.heap.size 3 1 v' (k + 1) (ivs L') ∧ Below w.heap.size w w1 := by
  refine ⟨by rw [← hL, ← ivs_snoc]; exact hown', (hB.alloc hB.size _).grown hgrow ?_ (fun g hg => (hown.lt g hg).1)⟩
  have := hB.size; simp; omega

set_option maxHeartbeats 400000 in
theorem l1None_any (n : Nat) (hn : n ≤ 6) (w : World) : Calls Try.prog 40 #[.int .i64 n] w fun e w' => ∃ v, e = .returned v ∧ NewL w (LT n (stillF n)) v w' := by
  obtain ⟨i0, hi, hz0, hz1, hz2⟩ := info_parts info_int
  go_enter Try.func40, Try.ntmps40
  go_wp2
  go_loopw [3, 4] (fun v i wr => ∃ k : Nat, k ≤ n ∧ i = .int .i64 k ∧ wr.ownsRow w.heap.size 3 1 v k (ivs (LT k (stillF n))) ∧ Below w.heap.size w wr) (fun _ i _ => n - (intOf i).toNat)
  case atStart => exact ⟨0, Nat.zero_le _, rfl, own_lit0 w, (Below.refl _ _).alloc (Nat.le_refl _) _⟩
  case round =>
    obtain ⟨k, hk, rfl, hown, hB⟩ := hrel
    by_cases hlt : k < n
    · have HL := Lib.hid (show LT k (stillF n) ++ [-1] = LT (k + 1) (stillF n) by rw [LT_succ]; simp [stillF, hlt])
      have h1 : k + 1 ≤ maxLen := by unfold maxLen; omega
      have h2 : (k + 1) * 8 ≤ 140737488355328 := by omega
      have h3 : ∀ o : Obj, w.heap.size ≤ (wr.alloc o).heap.size := fun o => by have := hB.size; simp; omega
      go_wp2_with (at_builtin; refine wpList_append_own _ rfl _ _ 22 rfl w.heap.size 3 i0 (.int .i64 0) 1 8 Try.underlying22 hi hz0 hz1 hz2 rfl (by decide) _ _ _ rfl (hown.alloc _) ⟨wr.heap.size, 0, none⟩ 1 1 [.int .i64 (-1)] rfl rfl (cell_one_new _ _ _) (by simp [Value.oneCell']) h1 h2 (h3 _) ?_; intro v' w1 hown' hgrow _)
      have hR := app_step hB hown hown' hgrow HL.out
      exact ⟨⟨k + 1, by omega, by go_num, hR.1, hR.2⟩, by simp [intOf]; omega⟩
    · obtain rfl : k = n := by omega
      go_wp2
      go_ret
      exact ⟨u3, rfl, by rw [LT_length]; exact hown, hB⟩

set_option maxHeartbeats 400000 in
theorem l1Turned_any (A : Option Addr) (n c : Nat) (zs : List Int) (w : World) (h : RI w A n zs) (hn : n ≤ 6) (hE : Ent n zs) :
    Calls Try.prog 25 #[.slice A n c] w fun e w' => ∃ v, e = .returned v ∧ NewL w (LT n (turnL n (mv (ofL zs) n))) v w' := by
  go_enter Try.func25, Try.ntmps25
  go_wp2_with fail
  refine (l1None_any n hn w).mono ?_
  rintro e w1 ⟨v, rfl, hown, hB⟩
  rw [LT_length] at hown
  have hw := h.below hB
  by_cases hn0 : n = 0
  · subst hn0
    go_wp2
    refine wp_loop_rounds 1 ?_; rw [rounds_succ]
    go_wp2
    go_ret
    exact ⟨v, rfl, by rw [LT_length]; exact hown, hB⟩
  obtain ⟨g, cp, rfl, hgb, hgl⟩ := hown.form (by omega)
  have HL := Lib.hid h.len
  go_wp2
  go_loopw [4] (fun i wr => ∃ k : Nat, k ≤ n ∧ i = .int .i64 k ∧ wr.ownsRow w.heap.size 3 1 (.slice (some ⟨g, 0, none⟩) n cp) n (ivs (LT n (turnL n (mv (ofL zs) k)))) ∧ Below w.heap.size w wr) (fun i _ => n - (intOf i).toNat)
  case atStart => exact ⟨0, Nat.zero_le _, rfl, hown, hB⟩
  case round =>
    clear hown hB
    obtain ⟨k, hk, rfl, hown, hB⟩ := hrel
    by_cases hlt : k < n
    · obtain ⟨ad, rfl, hab, hc⟩ := (h.below hB).at_ hlt
      have hz := hE k hlt
      have hof : ofL zs k = zs[k]?.getD 0 := rfl
      generalize zs[k]?.getD 0 = z at hc hz hof
      clear h hw
      rcases hz with rfl | ⟨hz0, hzn⟩
      · have HS := Lib.hid (mv_skip hof)
        clear hof
        go_wp2
        go_roundw
        case rel => exact ⟨k + 1, by omega, by go_num, by rw [HS.out]; exact hown, hB⟩
        case measure => simp [intOf]; omega
      · obtain ⟨u, rfl⟩ := Int.eq_ofNat_of_zero_le hz0
        have hu : u < n := by omega
        have hin : k < 6 ∧ 0 ≤ ofL zs k ∧ ofL zs k < 6 := ⟨by omega, by omega, by omega⟩
        have hm := mv_step hin
        have ho := hown.cellAt u (by omega)
        have hf := hown.frozenAt u
        obtain ⟨y, hy⟩ : ∃ y, (ivs (LT n (turnL n (mv (ofL zs) k))))[u]? = some y := ⟨_, List.getElem?_eq_getElem (by simp [ivs, LT]; omega)⟩
        rw [hy] at ho
        have hst := (hown.stored u (.int .i64 (k : Int))).1
        have hls : (ivs (LT n (turnL n (mv (ofL zs) k)))).set u (.int .i64 (k : Int)) = ivs (LT n (turnL n (mv (ofL zs) (k + 1)))) := by
          rw [hm]
          unfold ivs
          rw [← List.map_set, LT_set hu]
          congr 1
          refine LT_congr (fun j _ => ?_)
          rw [turnL_snoc]; simp [turnS, hof]
        rw [hls] at hst
        have HST := Lib.hid hst
        have hB' := hB.setCell (p := ⟨g, u, none⟩) hgb (.int .i64 (k : Int))
        clear hst hls hy hm hof hin hown hB
        go_wp2
        go_roundw
        case rel => exact ⟨k + 1, by omega, by go_num, HST.out, hB'⟩
        case measure => simp [intOf]; omega
    · obtain rfl : k = n := by omega
      go_wp2
      go_ret
      exact ⟨_, rfl, by rw [LT_length]; exact hown, hB⟩
end Go.Proofs.Ytoomeimloaloaaa
