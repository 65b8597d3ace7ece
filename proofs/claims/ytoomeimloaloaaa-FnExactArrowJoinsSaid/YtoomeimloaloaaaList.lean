/-
  (impl.chart).list, impl.identity, impl.isSet.
-/
import Derived.Test.YtoomeimloaloaaaJoin
import Derived.Laws.CopyOwn
namespace Go.Proofs.Ytoomeimloaloaaa
set_option maxRecDepth 100000
open Go.RowKit

theorem own_heap {w : World} {base g n : Nat} {e : TypeId} {xs : List Value} (h : w.ownsRow base e 1 (.slice (some ⟨g, 0, none⟩) n n) n xs) : w.heap[g]? = some (.cells xs.toArray e (0, 0)) ∧ base ≤ g := by
  rcases h.2 with ⟨h', _⟩ | ⟨g', cap, cur, h', hb, hg, hnc, hcm, hcs, htake⟩
  · cases h'
  · simp only [Value.slice.injEq, Option.some.injEq, Addr.mk.injEq, and_true, true_and] at h'
    obtain ⟨rfl, rfl⟩ := h'
    refine ⟨?_, hb⟩
    rw [hg, ← htake, List.take_of_length_le (by simp; omega)]
theorem own_of_heap {w : World} {base g n : Nat} {e : TypeId} {xs : List Value} (hg : w.heap[g]? = some (.cells xs.toArray e (0, 0))) (hn : xs.length = n) (hb : base ≤ g) (hm : n ≤ maxLen) :
    w.ownsRow base e 1 (.slice (some ⟨g, 0, none⟩) n n) n xs :=
  ⟨by omega, .inr ⟨g, n, xs.toArray, rfl, hb, hg, Nat.le_refl _, hm, by simpa using hn, List.take_of_length_le (by simp; omega)⟩⟩

theorem list_src {W : World} {b g n : Nat} {T : Nat → Int} (hn : n ≤ 6) (h : Cb W b n T) : 0 < (ivs (LT n T)).length → some (⟨g, 0, none⟩ : Addr) = some ⟨g, 0, none⟩ ∧ ∃ ad : Addr, some (⟨b, 1, none⟩ : Addr) = some ad ∧ ∀ j v, (ivs (LT n T))[j]? = some v → W.cell? (ad.add j) = some v := by
  intro _
  refine ⟨rfl, _, rfl, fun j v hv => ?_⟩
  have hj : j < n := by
    rcases Nat.lt_or_ge j n with h | h
    · exact h
    · rw [List.getElem?_eq_none (by simpa [ivs, LT] using h)] at hv; cases hv
  have ea : (⟨b, 1, none⟩ : Addr).add j = ⟨b, 1 + j, none⟩ := by unfold Addr.add; split <;> simp_all
  rw [ea, h.at_ (by omega), ← hv]
  simp [ivs, LT, hj]

set_option maxHeartbeats 400000 in
theorem list_any (n : Nat) (hn : n ≤ 6) (T : Nat → Int) (w : World) :
    Calls Try.prog 29 #[.agg #[.int .i64 ((n : Int)), .int .i64 (T 0), .int .i64 (T 1), .int .i64 (T 2), .int .i64 (T 3), .int .i64 (T 4), .int .i64 (T 5)]] w fun e w' => ∃ B : Addr, e = .returned (.slice (some B) n n) ∧ w'.ownsRow w.heap.size 3 1 (.slice (some B) n n) n (ivs (LT n T)) ∧ Below w.heap.size w w' := by
  obtain ⟨i0, hi, hz0, hz1, hz2⟩ := info_parts info_int
  have hb8 : i0.bytes * n ≤ 281474976710656 := by rw [hz2]; omega
  have hmx : n ≤ maxLen := by unfold maxLen; omega
  have hsz : (Try.prog.info? 3).map (·.size) = some 1 := by rw [hi]; simp [hz1]
  have hC := Cb.new w n T
  have hcn := hC.head
  go_enter Try.func29, Try.ntmps29
  have hcl : (LT n T).map (Value.int .i64) = ivs (LT n T) := rfl
  have hlen : (ivs (LT n T)).length = n := by simp [ivs, LT]
  have hone : ∀ v ∈ ivs (LT n T), v.oneCell' = true := by intro v hv; simp [ivs] at hv; obtain ⟨z, _, rfl⟩ := hv; rfl
  have hmk0 : (madeCells (Value.int IntKind.i64 0).cells (n * 1)).toList.length = n := by simp [madeCells]
  have HM := Lib.hid hmk0
  have HL := Lib.hid hlen
  have HO := Lib.hid hone
  have HN : Hid ((ivs (LT n T)).length = Nat.min 6 n) := by show _ = _; rw [hlen]; exact (Nat.min_eq_right hn).symm
  have HF : Hid (0 + (ivs (LT n T)).length ≤ (madeCells (Value.int IntKind.i64 0).cells (n * 1)).toList.length) := by show _ ≤ _; rw [hlen, hmk0]; omega
  clear hcl hlen hmk0 hone
  go_wp2_with (first
    | (at_make
       refine wpList_make_full _ rfl _ _ _ rfl w.heap.size 3 i0 _ 1 Try.underlying22 hi hz0 hz1 _ _ _ _ n rfl rfl rfl rfl hb8 hmx (by simp) ?_
       intro w1 hown hg
       have hh := own_heap hown
       have hC1 : Cb w1 w.heap.size n T := World.rowIs.of_block hC (hg.block w.heap.size (by simp) (by simp))
       have hB1 : Below w.heap.size w w1 := ((Below.refl _ w).alloc (Nat.le_refl _) _).grown hg (by simp) (by simp)
       simp only [World.size_alloc] at hh
       have HP := Lib.hid (list_src (W := w1) (b := w.heap.size) (g := w.heap.size + 1) hn hC1)
       clear hown hg)
    | (with_reducible refine wpList_copy_splice rfl (.tmp 7) (.tmp 9) _ _ rfl 3 Try.underlying22 hsz _ _ n n 6 6 rfl rfl (w.heap.size + 1) 0 _ 3 hh.1 (ivs (LT n T)) HN.out HP.out HF.out HO.out w.heap.size w hB1 hh.2 ?_
       intro w2 HG2 hB2))
  go_ret
  refine ⟨⟨w.heap.size + 1, 0, none⟩, rfl, ?_, hB2⟩
  have hg2 := HG2.out
  have e : splice (madeCells (Value.int IntKind.i64 0).cells (n * 1)).toList 0 (ivs (LT n T)) = ivs (LT n T) := by
    unfold splice
    rw [List.take_zero, List.nil_append, List.drop_eq_nil_of_le (by rw [HM.out, HL.out]; omega), List.append_nil]
  rw [e] at hg2
  exact own_of_heap hg2 HL.out (by omega) hmx
end Go.Proofs.Ytoomeimloaloaaa
