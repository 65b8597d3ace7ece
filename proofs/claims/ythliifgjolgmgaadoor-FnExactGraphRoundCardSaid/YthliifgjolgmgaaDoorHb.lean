/-
  impl.graph.told: how a graph is told.
-/
import Derived.Test.YthliifgjolgmgaaDoorHa
import Derived.Laws.CopyOwn
namespace Go.Proofs.YthliifgjolgmgaaDoor
set_option maxRecDepth 100000
set_option linter.unusedVariables false
open Go.RowKit Go.Lib

theorem own_heap5 {w : World} {base g n : Nat} {e : TypeId} {xs : List Value} (h : w.ownsRow base e 1 (.slice (some ⟨g, 0, none⟩) n n) n xs) : w.heap[g]? = some (.cells xs.toArray e (0, 0)) ∧ base ≤ g := by
  rcases h.2 with ⟨h', _⟩ | ⟨g', cap, cur, h', hb, hg, hnc, hcm, hcs, htake⟩
  · cases h'
  · simp only [Value.slice.injEq, Option.some.injEq, Addr.mk.injEq, and_true, true_and] at h'
    obtain ⟨rfl, rfl⟩ := h'
    have : cur.toList = xs := by rw [← htake]; exact (List.take_of_length_le (by simp; omega)).symm
    rw [← this]
    exact ⟨hg, hb⟩
theorem own_of_heap5 {w : World} {base g n : Nat} {e : TypeId} {xs : List Value} (hg : w.heap[g]? = some (.cells xs.toArray e (0, 0))) (hn : xs.length = n) (hb : base ≤ g) (hm : n ≤ maxLen) : w.ownsRow base e 1 (.slice (some ⟨g, 0, none⟩) n n) n xs :=
  ⟨by omega, .inr ⟨g, n, xs.toArray, rfl, hb, hg, Nat.le_refl _, hm, by simpa using hn, List.take_of_length_le (by simp; omega)⟩⟩
theorem drop_cells {w : World} {base g m c : Nat} {T : List Int} (h : w.ownsRow base 3 1 (.slice (some ⟨g, 0, none⟩) (m + m) c) (m + m) (ivs T)) : ∀ j v, (ivs (T.drop m))[j]? = some v → w.cell? ((⟨g, m, none⟩ : Addr).add j) = some v := fun j v hv => by
  have e : (⟨g, m, none⟩ : Addr).add j = ⟨g, m + j, none⟩ := by
    unfold Addr.add; split <;> simp_all
  have hl := (List.getElem?_eq_some_iff.1 hv).1
  rw [ivs_length, List.length_drop] at hl
  have h1 := h.1
  rw [ivs_length] at h1
  rw [e, h.cellAt (m + j) (by omega)]
  rw [ivs_get, List.getElem?_drop] at hv
  rw [ivs_get]; exact hv
set_option maxHeartbeats 2000000 in
theorem told_any (base n m g c : Nat) (T : List Int) (w : World) (hm : m = 2 * n) (hn : 1 ≤ n) (hn2 : n ≤ 40) (hT : T.length = m + m) (ho : w.ownsRow base 3 1 (.slice (some ⟨g, 0, none⟩) (m + m) c) (m + m) (ivs T)) :
    Calls Tryd.prog 31 #[.agg #[.int .i64 (n : Int), .slice (some ⟨g, 0, none⟩) (m + m) c]] w fun e w' => ∃ H, e = .returned (.agg #[.int .i64 (n : Int), .slice (some ⟨H, 0, none⟩) n n, .slice (some ⟨H, n, none⟩) n n]) ∧ w.heap.size ≤ H ∧
      w'.ownsRow w.heap.size 3 1 (.slice (some ⟨H, 0, none⟩) m m) m (ivs (T.drop m)) ∧ Below w.heap.size w w' := by
  obtain ⟨i0, hi, hz0, hz1, hz2⟩ := info_parts info_int
  have hb8 : i0.bytes * m ≤ 281474976710656 := by rw [hz2]; omega
  have hmx : m ≤ maxLen := by unfold maxLen; omega
  have hsz : (Tryd.prog.info? 3).map (·.size) = some 1 := by rw [hi]; simp [hz1]
  have hlen : (ivs (T.drop m)).length = m := by rw [ivs_length, List.length_drop, hT]; omega
  have HL := Lib.hid hlen
  have HO1 : Hid (∀ v ∈ ivs (T.drop m), v.oneCell' = true) := fun v hv => by obtain ⟨z, _, e⟩ := List.mem_map.1 hv; rw [← e]; rfl
  have hmk0 : (madeCells (Value.int IntKind.i64 0).cells (m * 1)).toList.length = m := by simp [madeCells]
  have HM := Lib.hid hmk0
  have HN : Hid ((ivs (T.drop m)).length = Nat.min m m) := by show _ = _; rw [hlen]; exact (Nat.min_self m).symm
  have HF : Hid (0 + (ivs (T.drop m)).length ≤ (madeCells (Value.int IntKind.i64 0).cells (m * 1)).toList.length) := by show _ ≤ _; rw [hlen, hmk0]; omega
  have hcap := (own_cap ho).1
  have HT := Lib.hid hT
  have hA0 := (Blk.new w 52 #[.int .i64 (n : Int), .slice (some ⟨g, 0, none⟩) (m + m) c]).alloc (.cells #[.int .i64 0, .slice none 0 0, .slice none 0 0] 26)
  have hA1 := Blk.new (w.alloc (.cells #[.int .i64 (n : Int), .slice (some ⟨g, 0, none⟩) (m + m) c] 52)) 26 #[.int .i64 0, .slice none 0 0, .slice none 0 0]
  have hO0 := (ho.alloc (.cells #[.int .i64 (n : Int), .slice (some ⟨g, 0, none⟩) (m + m) c] 52)).alloc (.cells #[.int .i64 0, .slice none 0 0, .slice none 0 0] 26)
  have hB0 := ((Below.refl w.heap.size w).alloc (Nat.le_refl _) (.cells #[.int .i64 (n : Int), .slice (some ⟨g, 0, none⟩) (m + m) c] 52)).alloc (by simp) (.cells #[.int .i64 0, .slice none 0 0, .slice none 0 0] 26)
  simp only [World.size_alloc] at hA1
  have HA0 := Lib.hid hA0
  have HA1 := Lib.hid hA1
  have HO0 := Lib.hid hO0
  have HB0 := Lib.hid hB0
  have hmi : 2 * (n : Int) = (m : Int) := by omega
  have hcm : ¬ c = m := by omega
  have hm80 : m ≤ 80 := by omega
  have HMN := Lib.hid hm
  clear hm
  clear hlen hmk0 hT ho hA0 hA1 hO0 hB0
  go_enter Tryd.func31, Tryd.ntmps31
  go_wp2_with (first
    | (at_make
       refine wpList_make_full _ rfl _ _ _ rfl w.heap.size 3 i0 _ 1 Tryd.underlying24 hi hz0 hz1 _ _ _ _ m rfl rfl (by omega) (by omega) hb8 hmx (by simp; omega) ?_
       intro w1 hown hg
       have hh := own_heap5 hown
       have hA0 := HA0.out.grown hg (by simp)
       have hA1 := HA1.out.grown hg (by simp)
       have hB1 := (Below.refl (w.heap.size + 1 + 1) ((w.alloc (.cells #[.int .i64 (n : Int), .slice (some ⟨g, 0, none⟩) (m + m) c] 52)).alloc (.cells #[.int .i64 0, .slice none 0 0, .slice none 0 0] 26))).grown hg (by simp) (by simp)
       have hO1 := HO0.out.kept hg (.inr (by simp [Value.ownBlock]))
       have hc0 := hA0.cell 0
       have hc1 := hA0.cell 1
       simp only [World.size_alloc] at hh
       have HSRC := Lib.hid (drop_cells hO1)
       have HB1 := Lib.hid hB1
       have HH := Lib.hid hh
       clear hown hg hO1 hA0 hA1 hB1 hh)
    | (refine wpList_copy_splice rfl (.tmp 10) (.tmp 15) _ _ rfl 3 Tryd.underlying24 hsz (some ⟨w.heap.size + 1 + 1, 0, none⟩) (some ⟨g, m, none⟩) m m m (c - m) rfl rfl (w.heap.size + 1 + 1) 0 _ 3 HH.out.1 (ivs (T.drop m)) HN.out (fun _ => ⟨rfl, ⟨g, m, none⟩, rfl, HSRC.out⟩) HF.out HO1.out (w.heap.size + 1 + 1) _ HB1.out (Nat.le_refl _) ?_
       intro w2 HG2 hB2))
  have HBW := Lib.hid (HB0.out.trans (hB2.mono (by omega)))
  have hA2 := HA1.out.below hB2 (by omega)
  have a0 : w2.cell? ⟨w.heap.size + 1, 0, none⟩ = some (.int .i64 0) := hA2.cell 0
  have a1 : w2.cell? ⟨w.heap.size + 1, 1, none⟩ = some (.slice none 0 0) := hA2.cell 1
  have a2 : w2.cell? ⟨w.heap.size + 1, 2, none⟩ = some (.slice none 0 0) := hA2.cell 2
  have f0 := hA2.frozen 0
  have f1 := hA2.frozen 1
  have f2 := hA2.frozen 2
  have hlt := hA2.lt
  have HE : Hid (splice (madeCells (Value.int IntKind.i64 0).cells (m * 1)).toList 0 (ivs (T.drop m)) = ivs (T.drop m)) := by
    show _ = _
    unfold splice
    have h1 : (madeCells (Value.int IntKind.i64 0).cells (m * 1)).toList.length = m := by simp [madeCells]
    have h2 : (ivs (T.drop m)).length = m := by rw [ivs_length, List.length_drop, HT.out]; omega
    have h3 : List.drop (0 + (ivs (T.drop m)).length) (madeCells (Value.int IntKind.i64 0).cells (m * 1)).toList = [] := List.drop_eq_nil_of_le (by rw [h1, h2]; omega)
    rw [List.take_zero, List.nil_append, h3, List.append_nil]
  rw [HE.out] at HG2
  have HOW := Lib.hid (own_of_heap5 HG2.out HL.out (show w.heap.size ≤ w.heap.size + 1 + 1 by omega) hmx)
  have HAB := Lib.hid hA2
  have hmn : ¬ m = n := by have := HMN.out; omega
  have hmn2 : m - n = n := by have := HMN.out; omega
  have hmn3 : (n : Int) ≤ (m : Int) := by omega
  clear hB2 hA2 HG2 HE HB1 HA1 HH HSRC HA0 HO0 HB0
  simp only [Act.put, List.setIfInBounds_toArray, List.set_cons_zero, List.set_cons_succ]
  generalize goInt ((ivs (T.drop m)).length : Int) = gi at *
  go_wp2
  go_region
  have HBF := Lib.hid ((((HBW.out.setCell (p := ⟨w.heap.size + 1, 0, none⟩) (by simp) (.int .i64 (n : Int))).setCell (p := ⟨w.heap.size + 1, 1, none⟩) (by simp) (.slice (some ⟨w.heap.size + 1 + 1, 0, none⟩) n n)).setCell (p := ⟨w.heap.size + 1, 2, none⟩) (by simp) (.slice (some ⟨w.heap.size + 1 + 1, n, none⟩) n n)).drew)
  have hne : (Value.slice (some ⟨w.heap.size + 1 + 1, 0, none⟩) m m).ownBlock ≠ some (w.heap.size + 1) := own_blk_ne HOW.out HAB.out (by decide)
  have HOF := Lib.hid (ownsRow_setCell_other (ownsRow_setCell_other (ownsRow_setCell_other HOW.out (a := ⟨w.heap.size + 1, 0, none⟩) hne (.int .i64 (n : Int))) (a := ⟨w.heap.size + 1, 1, none⟩) hne (.slice (some ⟨w.heap.size + 1 + 1, 0, none⟩) n n)) (a := ⟨w.heap.size + 1, 2, none⟩) hne (.slice (some ⟨w.heap.size + 1 + 1, n, none⟩) n n)).drew
  clear hne
  go_wp2
  exact bodyPost_ret (v := .agg #[.int .i64 (n : Int), .slice (some ⟨w.heap.size + 1 + 1, 0, none⟩) n n, .slice (some ⟨w.heap.size + 1 + 1, n, none⟩) n n]) (by simp [results, Tryd.results31, go_sem, a0, a1, a2]) rfl ⟨w.heap.size + 1 + 1, rfl, by omega, HOF, HBF.out⟩
end Go.Proofs.YthliifgjolgmgaaDoor
