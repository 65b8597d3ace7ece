/-
  Lst.
-/
import Derived.Laws.IdiomRangeMap
import Derived.Test.YtmknjifmmmnjjaaDoorNS
namespace Go.Proofs.YtmknjifmmmnjjaaDoor
set_option maxRecDepth 100000
set_option linter.unusedVariables false
set_option linter.unusedSimpArgs false
set_option linter.unusedSectionVars false

/-! impl.listsOf; (impl.semigroup).charts, part, idems of the nil map; how long parts of a semigroup are. -/
section
open Go.RowKit Go.Maps

theorem sub_le {zs ls : List (List Int)} (h : sgS zs = true) (hl : ls.length ≤ zs.length) (hm : ∀ L ∈ ls, L ∈ zs) : ls.length ≤ 400 ∧ totL ls ≤ 2400 ∧ ∀ L ∈ ls, L.length ≤ 1048576 := by
  have S := sgS_iff.1 h
  have h6 : ∀ L ∈ ls, L.length ≤ 6 := fun L hL => (isC_len (S.ch L (hm L hL)).1).2
  have h4 := S.most
  exact ⟨by omega, Nat.le_trans (totL_bound (show ls.length ≤ 400 by omega) h6) (by decide), fun L hL => by have := h6 L hL; omega⟩
theorem nil_le : ([] : List (List Int)).length ≤ 400 ∧ totL [] ≤ 2400 ∧ ∀ L ∈ ([] : List (List Int)), L.length ≤ 1048576 := ⟨by simp, by decide, fun L h => by cases h⟩
theorem idL_le (zs : List (List Int)) : (idL zs).length ≤ 400 ∧ totL (idL zs) ≤ 2400 ∧ ∀ L ∈ idL zs, L.length ≤ 1048576 := by
  unfold idL
  split
  · rename_i h; exact sub_le h (List.length_filter_le _ _) (fun L hL => (List.mem_filter.1 hL).1)
  · exact nil_le
theorem oss_nil (w : World) (lo hi : Nat) : OSS w lo hi (.slice none 0 0) [] := ⟨[], World.ownsRow_nil _ _ _ _, (fun g hg => by cases hg), Inn.nil⟩

theorem below_of_drewN {W W1 : World} (h : ∃ q, W1 = W.drewN q) : Below W.heap.size W W1 := by
  obtain ⟨q, rfl⟩ := h
  exact below_drewN (Below.refl _ _) q

set_option maxHeartbeats 1000000 in
theorem charts_none (w : World) :
    Calls Tryd.prog 32 #[.map none] w fun e w' => ∃ G, e = .returned (.slice (some ⟨G, 0, none⟩) 0 0) ∧ Below w.heap.size w w' := by
  obtain ⟨i1, hj, hj0, hj1, hj2⟩ := info_parts info_chart7
  have hlen : ∀ ty, (Builtin.len_ #[33] ty #[.map none]).run Tryd.prog w = .ok (.int .i64 0) w := fun ty => Maps.len_nil Tryd.underlying33 ty
  have hb8 : i1.bytes * 0 ≤ 281474976710656 := by omega
  have hrgW : ∀ W : World, (Instr.range 33 (.map none)).run Tryd.prog W = _ := fun W => run_range_nilMap (P := Tryd.prog) W 33 46 3 Tryd.underlying33
  have HNX : Hid (∀ (W : World) ty, (Instr.next (.pointer (some ⟨W.heap.size, 0, none⟩)) false ty).run Tryd.prog (W.alloc (.mapIter none 0 #[] 0)) = _) := fun W ty => run_next_nilMap (P := Tryd.prog) W ty 0 0 #[]
  go_enter Tryd.func32, Tryd.ntmps32
  go_wp2_with (first
    | (at_make; refine wpList_make_full _ rfl _ _ _ rfl w.heap.size 46 i1 _ 7 Tryd.underlying57 hj hj0 hj1 _ _ _ _ 0 rfl rfl rfl rfl hb8 (by unfold maxLen; omega) (Nat.le_refl _) ?_; intro w1 hrow hg; have hrg := hrgW w1; have hnx := HNX.out w1)
    | go_in)
  refine wp_loop_rounds 1 ?_
  rw [rounds_succ]
  go_wp2
  go_ret
  exact ⟨_, rfl, ((Below.refl _ _).grown hg (Nat.le_refl _) (fun k e => by cases e)).alloc (by have := hg.size; exact this) _⟩
end

end Go.Proofs.YtmknjifmmmnjjaaDoor
