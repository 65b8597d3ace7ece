/-
  Pla.
-/
import Derived.Test.YtkfiehndlgplgaaGreatDoorNK
import Derived.Test.YtkfiehndlgplgaaGreatDoorNL
namespace Go.Proofs.YtkfiehndlgplgaaGreatDoor
set_option maxRecDepth 100000
set_option linter.unusedVariables false
set_option linter.unusedSimpArgs false
set_option linter.unusedSectionVars false

/-! impl.placed: the map from charts to their places in the order of their lists. -/
section
open Go.RowKit Go.Maps

theorem ownsMap_same {H : Type} {P : Program} {K : TypeId} {R : Value → Option (DataW H × List MemPlace)} {w w' : World} {b n : Nat} {D : DataW H} (h : w.ownsMap P K R b n D) (e : w'.heap[b]? = w.heap[b]?) : w'.ownsMap P K R b n D := by
  obtain ⟨es, clock, hb, F, hs, hD⟩ := h
  exact ⟨es, clock, e.trans hb, F, hs, hD⟩

set_option maxHeartbeats 2000000 in
theorem placed_any {H : Type} (g cp q m : Nat) (ls : List (List Int)) (hn : ls.length = q + 1) (hn6 : q + 1 ≤ 1048576) (hls : ∀ L ∈ ls, isC L = true ∧ L.length = m) (w : World) (hg : g < w.heap.size) (hR : Chs w g m ls) :
    Calls Tryz.prog 126 #[.slice (some ⟨g, 0, none⟩) (q + 1) cp, .func (.func 127) #[] #[]] w fun e w' => ∃ S, e = .returned (.map (some w.heap.size)) ∧ Placed ls S ∧ S.length = q + 1 ∧
      w'.ownsMap Tryz.prog 58 (plainElem (H := H) Tryz.prog 3) w.heap.size (q + 1) (mapP klL S (q + 1)) ∧ Below w.heap.size w w' := by
  have HLS := Lib.hid hls
  have HN := Lib.hid hn
  clear hls hn
  have hmm := @ run_makeMap Tryz.prog
  go_enter Tryz.func126, Tryz.ntmps126
  go_wp2_with fail
  refine ((callsIn_wide (n := 2)).1 (values_in Fence.wide 2 trivial rfl _ rfl _)).mono ?_
  rintro e w' ⟨rfl, rfl⟩
  have hm0 := (World.ownsMap_made w Tryz.prog 58 (plainElem (H := H) Tryz.prog 3)).alloc (.cells #[.slice (some ⟨g, 0, none⟩) (q + 1) cp] 65)
  have hB0 : Below w.heap.size w ((w.alloc (.map #[] 0)).alloc (.cells #[.slice (some ⟨g, 0, none⟩) (q + 1) cp] 65)) := ((Below.refl _ w).alloc (Nat.le_refl _) _).alloc (by simp) _
  have hSb := Boxed.new (w.alloc (.map #[] 0)) 65 (.slice (some ⟨g, 0, none⟩) (q + 1) cp)
  have hR0 := hR.same (hB0.block g hg)
  rw [World.size_alloc] at hSb
  go_wp2_with fail
  refine (sortedFunc_any g (w.heap.size + 1) cp m q ls HN.out hn6 _ (by simp; omega) hR0 hSb).mono ?_
  rintro e w2 ⟨g', cp', S, rfl, hpl, hSl, hown, hb2⟩
  simp only [World.size_alloc] at hown hb2
  have hm2 := ownsMap_same hm0 (hb2.block w.heap.size (by omega))
  have hB2 := hB0.trans (hb2.mono (by omega))
  have hlt := hown.lt g' rfl
  have hC2 : Chs w2 g' m S := Chs.of_own (by rw [hSl]; exact hown)
  have HPL := Lib.hid hpl
  have HSL := Lib.hid hSl
  have hgb : w.heap.size < g' := by omega
  have HSI : Hid (∀ L ∈ S, isC L = true ∧ L.length = m) := fun L hL => HLS.out L (HPL.out.perm.mem_iff.1 hL)
  clear hm0 hB0 hSb hR0 hown hb2 hpl hSl hmm hR
  have hg2 := hlt.2
  clear hlt
  go_wp2
  go_loopw [6, 7, 14] (fun _ _ i wr => ∃ k : Nat, k ≤ q + 1 ∧ i = .int .i64 (k : Int) ∧ wr.ownsMap Tryz.prog 58 (plainElem (H := H) Tryz.prog 3) w.heap.size k (mapP klL S k) ∧ Chs wr g' m S ∧ g' < wr.heap.size ∧ Below w.heap.size w wr) (fun _ _ i _ => q + 1 - (intOf i).toNat)
  case atStart => exact ⟨0, Nat.zero_le _, rfl, hm2, hC2, hg2, hB2⟩
  case round =>
    clear hm2 hC2 hg2 hB2
    obtain ⟨k, hk, rfl, hown, hC, hg2, hB⟩ := hrel
    by_cases hlt : k < q + 1
    · have hkl : k < S.length := by have := HSL.out; omega
      obtain ⟨L, hL⟩ : ∃ L, S[k]? = some L := ⟨_, List.getElem?_eq_getElem hkl⟩
      obtain ⟨c0, c1, c2, c3, c4, c5, c6⟩ := hC.all hL
      have HE : Hid (ent S k = L) := by show _ = _; unfold ent; rw [hL]; rfl
      have hLS := HSI.out L (List.mem_of_getElem? hL)
      have hkey : keyOf Tryz.prog 58 (.agg #[.int .i64 ((m : Int)), .int .i64 (ofL L 0), .int .i64 (ofL L 1), .int .i64 (ofL L 2), .int .i64 (ofL L 3), .int .i64 (ofL L 4), .int .i64 (ofL L 5)]) = some (klL L) := by
        have := keyOf_L hLS.1
        rw [hLS.2] at this; exact this
      have hs := hB.size
      have hown1 := hown.alloc (.cells #[.int .i64 ((m : Int)), .int .i64 (ofL L 0), .int .i64 (ofL L 1), .int .i64 (ofL L 2), .int .i64 (ofL L 3), .int .i64 (ofL L 4), .int .i64 (ofL L 5)] 58)
      have hB1 := hB.alloc hs (.cells #[.int .i64 ((m : Int)), .int .i64 (ofL L 0), .int .i64 (ofL L 1), .int .i64 (ofL L 2), .int .i64 (ofL L 3), .int .i64 (ofL L 4), .int .i64 (ofL L 5)] 58)
      have hb1 := Below.heap_alloc wr (.cells #[.int .i64 ((m : Int)), .int .i64 (ofL L 0), .int .i64 (ofL L 1), .int .i64 (ofL L 2), .int .i64 (ofL L 3), .int .i64 (ofL L 4), .int .i64 (ofL L 5)] 58) g' hg2
      have hwf := WalkArith.wf_i64 (n := (k : Int)) (by omega)
      clear hL hkl hLS hown hB
      go_wp2_with (at_mapUpdate; refine wpList_mapUpdate_own _ rfl _ _ _ 48 rfl 58 3 ch_keyed Tryz.underlying48 _ w.heap.size k _ rfl hown1 (by unfold maxLen; omega) _ _ _ rfl rfl hkey _ [] (plainElem_int Tryz.underlying3 hwf) ?_; intro w1 hown2 hgr)
      have hlw : w.heap.size < wr.heap.size := by omega
      have hC2 : Chs w1 g' m S := hC.same ((hgr.block g' (by simp; omega) (by simp; omega)).trans hb1)
      have hgs := hgr.size
      clear c0 c1 c2 c3 c4 c5 c6 hC hb1 hown1
      go_wp2
      go_roundw
      case rel => exact ⟨k + 1, by omega, by go_num, by unfold mapP; rw [HE.out]; exact hown2, hC2, by simp at hgs; omega, hB1.grown hgr hB1.size (fun j e => by cases e; exact Nat.le_refl _)⟩
      case measure => simp [intOf]; omega
    · obtain rfl : k = q + 1 := by omega
      go_wp2
      go_ret
      exact ⟨S, rfl, HPL.out, HSL.out, hown, hB⟩
end

end Go.Proofs.YtkfiehndlgplgaaGreatDoor
