/-
  Re.
-/
import Derived.Deep.RegionLaw
import Derived.Deep.RegionWith
import Derived.Lib.ConvBytes
import Derived.Laws.IdiomStrings
import Derived.Test.YtlcjgppclclkoaaDoorTI
import Derived.Test.YtlcjgppclclkoaaDoorTN
namespace Go.Proofs.YtlcjgppclclkoaaDoor
set_option maxRecDepth 100000
set_option linter.unusedVariables false
set_option linter.unusedSimpArgs false
set_option linter.unusedSectionVars false

/-! The specification's reduced words: spec.l4Reduce, spec.TreeReduced. -/
section
open Go.RowKit

theorem bvL_app (u v : List (Fin 4)) : bvL (u ++ v) = bvL u ++ bvL v := by unfold bvL; rw [List.map_append]
theorem own_cap4 {w : World} {base size n N c : Nat} {e : TypeId} {a : Addr} {xs : List Value} (h : w.ownsRow base e size (.slice (some a) N c) n xs) : N = n ∧ n ≤ c ∧ c ≤ maxLen := by
  rcases h.2 with ⟨h1, _⟩ | ⟨g, cap, cur, h1, _, _, h2, h3, _⟩
  · cases h1
  · cases h1; exact ⟨rfl, h2, h3⟩
set_option maxHeartbeats 2000000 in
theorem l4Reduce_any (ws : List (Fin 4)) (hl : ws.length ≤ 1048576) (w : World) : Calls Tryd.prog 42 #[.string (txt ws)] w fun e w' => e = .returned (.string (strOf (redS ws))) ∧ Below w.heap.size w w' := by
  obtain ⟨i0, hi, hz0, hz1, hz2⟩ := info_parts info_u8
  have hsz : (txt ws).size = ws.length := by unfold txt; simp [ByteArray.size]
  have HIX : Hid (∀ (k : Nat) (c : Fin 4), ws[k]? = some c → ∀ W : World, (Instr.index 9 (.string (txt ws)) (.int .i64 (k : Int))).run Tryd.prog W = .ok (.int .u8 ((ltB c).toNat : Int)) W) := fun k c h W => str_idx (by rw [txt_list, List.getElem?_map, h]; rfl) W
  have HSZ := Lib.hid hsz
  generalize txt ws = s at *
  rw [← hsz] at hl
  have hE : (w.alloc (.cells #[] 5)).ownsRow w.heap.size 5 1 (.slice (some ⟨w.heap.size, 0, none⟩) 0 0) 0 (bvL []) := ⟨rfl, .inr ⟨w.heap.size, 0, #[], rfl, Nat.le_refl _, heap_alloc_new w _, Nat.le_refl _, Nat.zero_le _, rfl, rfl⟩⟩
  have hB0 : Below w.heap.size w (w.alloc (.cells #[] 5)) := (Below.refl _ w).alloc (Nat.le_refl _) _
  go_enter Tryd.func42, Tryd.ntmps42
  go_wp2
  go_loopw [3, 4] (fun out i wr => ∃ (k : Nat) (g cp : Nat), k ≤ ws.length ∧ i = .int .i64 (k : Int) ∧ out = .slice (some ⟨g, 0, none⟩) (goW [] (ws.take k)).length cp ∧ wr.ownsRow w.heap.size 5 1 out (goW [] (ws.take k)).length (bvL (goW [] (ws.take k)).reverse) ∧ Below w.heap.size w wr) (fun _ i _ => ws.length - (intOf i).toNat)
  case atStart => exact ⟨0, w.heap.size, 0, Nat.zero_le _, rfl, rfl, hE, hB0⟩
  case round =>
    obtain ⟨k, g, cp, hk, rfl, rfl, hown, hB⟩ := hrel
    clear hE hB0
    by_cases hlt : k < ws.length
    · obtain ⟨c, hc⟩ : ∃ c, ws[k]? = some c := ⟨_, List.getElem?_eq_getElem hlt⟩
      have hix := fun W : World => HIX.out k c hc W
      have hst : goW [] (ws.take (k + 1)) = stp (goW [] (ws.take k)) c := by rw [List.take_add_one, hc]; exact goW_snoc _ _ _
      have HST := Lib.hid hst
      have HOT := Lib.hid (fun W => l4Other_any c W)
      have hlen := goW_len [] (ws.take k)
      rw [List.length_take] at hlen
      clear hc hst
      generalize goW [] (ws.take k) = u at *
      have hq1 : u.length + 1 ≤ maxLen := by unfold maxLen; have := HSZ.out; simp at hlen; omega
      have hq2 : (u.length + 1) * 1 ≤ 140737488355328 := by have := HSZ.out; simp at hlen; omega
      have hki : (k : Int) < (s.size : Int) := by have := HSZ.out; omega
      have hbs : w.heap.size ≤ wr.drew.heap.size := hB.size
      have hgb : w.heap.size ≤ g := (hown.lt g rfl).1
      have HBB := Lib.hid hB.drew
      have HOWN := Lib.hid hown
      have hq3 : w.heap.size ≤ (wr.drew.alloc (.cells #[.int .u8 ((ltB c).toNat : Int)] 5)).heap.size := by rw [World.size_alloc]; omega
      have HOWN1 := Lib.hid (World.ownsRow.alloc (w := wr.drew) hown (.cells #[.int .u8 ((ltB c).toNat : Int)] 5))
      cases u with
      | nil =>
        have HFI : Hid (∀ (g7 cp7 : Nat) (w7 : World), w7.ownsRow w.heap.size 5 1 (.slice (some ⟨g7, 0, none⟩) (0 + 1) cp7) (0 + 1) (bvL ([] : List (Fin 4)).reverse ++ [.int .u8 ((ltB c).toNat : Int)]) → Value.slice (some ⟨g7, 0, none⟩) (0 + 1) cp7 = .slice (some ⟨g7, 0, none⟩) (goW [] (ws.take (k + 1))).length cp7 ∧ w7.ownsRow w.heap.size 5 1 (.slice (some ⟨g7, 0, none⟩) (0 + 1) cp7) (goW [] (ws.take (k + 1))).length (bvL (goW [] (ws.take (k + 1))).reverse)) := fun g7 cp7 w7 h => by
          rw [HST.out]; exact ⟨rfl, h⟩
        generalize ((ltB c).toNat : Int) = x at *
        clear HIX HST hown hB
        go_wp2_with fail
        refine wp_region_held_drew (S := (fun _ => True)) (by kernel_rfl) ?_ (fun hHeld => ?_)
        · exact trivial
        refine wpAnyH_take (i := 0) (v := .int .i64 0) (by rw [List.getElem?_toArray]; rfl) (by kernel_rfl) (by kernel_rfl) (by kernel_rfl) (by exact fun _ _ _ h => h) (Or.inl ⟨by rfl, fun w hSw => by (try dsimp only at hSw); go_simp⟩) (by assumption) ?_
        try simp only [Act.put, List.setIfInBounds_toArray, List.set_cons_zero, List.set_cons_succ]
        refine wpAnyH_take (i := 1) (v := .bool false) (by rw [List.getElem?_toArray]; rfl) (by kernel_rfl) (by kernel_rfl) (by kernel_rfl) (by exact fun _ _ _ h => h) (Or.inl ⟨by rfl, fun w hSw => by (try dsimp only at hSw); go_simp⟩) (by assumption) ?_
        try simp only [Act.put, List.setIfInBounds_toArray, List.set_cons_zero, List.set_cons_succ]
        refine wpAnyH_take (i := 2) (v := .bool false) (by rw [List.getElem?_toArray]; rfl) (by kernel_rfl) (by kernel_rfl) (by kernel_rfl) (by exact fun _ _ _ h => h) (Or.inl ⟨by rfl, fun w hSw => by (try dsimp only at hSw); go_simp⟩) (by assumption) ?_
        try simp only [Act.put, List.setIfInBounds_toArray, List.set_cons_zero, List.set_cons_succ]
        refine wpAnyH_take (i := 3) (v := undef) (by rw [List.getElem?_toArray]; rfl) (by kernel_rfl) (by kernel_rfl) (by kernel_rfl) (by exact fun _ _ _ h => h) (Or.inr ⟨by kernel_rfl, rfl⟩) (by assumption) ?_
        try simp only [Act.put, List.setIfInBounds_toArray, List.set_cons_zero, List.set_cons_succ]
        refine wpAnyH_take (i := 4) (v := undef) (by rw [List.getElem?_toArray]; rfl) (by kernel_rfl) (by kernel_rfl) (by kernel_rfl) (by exact fun _ _ _ h => h) (Or.inr ⟨by kernel_rfl, rfl⟩) (by assumption) ?_
        try simp only [Act.put, List.setIfInBounds_toArray, List.set_cons_zero, List.set_cons_succ]
        refine wpAnyH_take (i := 5) (v := undef) (by rw [List.getElem?_toArray]; rfl) (by kernel_rfl) (by kernel_rfl) (by kernel_rfl) (by exact fun _ _ _ h => h) (Or.inr ⟨by kernel_rfl, rfl⟩) (by assumption) ?_
        try simp only [Act.put, List.setIfInBounds_toArray, List.set_cons_zero, List.set_cons_succ]
        refine wpAnyH_take (i := 6) (v := undef) (by rw [List.getElem?_toArray]; rfl) (by kernel_rfl) (by kernel_rfl) (by kernel_rfl) (by exact fun _ _ _ h => h) (Or.inr ⟨by kernel_rfl, rfl⟩) (by assumption) ?_
        try simp only [Act.put, List.setIfInBounds_toArray, List.set_cons_zero, List.set_cons_succ]
        refine wpAnyH_take (i := 7) (v := undef) (by rw [List.getElem?_toArray]; rfl) (by kernel_rfl) (by kernel_rfl) (by kernel_rfl) (by exact fun _ _ _ h => h) (Or.inr ⟨by kernel_rfl, rfl⟩) (by assumption) ?_
        try simp only [Act.put, List.setIfInBounds_toArray, List.set_cons_zero, List.set_cons_succ]
        refine wpAnyH_take (i := 8) (v := undef) (by rw [List.getElem?_toArray]; rfl) (by kernel_rfl) (by kernel_rfl) (by kernel_rfl) (by exact fun _ _ _ h => h) (Or.inr ⟨by kernel_rfl, rfl⟩) (by assumption) ?_
        try simp only [Act.put, List.setIfInBounds_toArray, List.set_cons_zero, List.set_cons_succ]
        refine wpAnyH_take (i := 9) (v := undef) (by rw [List.getElem?_toArray]; rfl) (by kernel_rfl) (by kernel_rfl) (by kernel_rfl) (by exact fun _ _ _ h => h) (Or.inr ⟨by kernel_rfl, rfl⟩) (by assumption) ?_
        try simp only [Act.put, List.setIfInBounds_toArray, List.set_cons_zero, List.set_cons_succ]
        refine wpAnyH_take (i := 10) (v := undef) (by rw [List.getElem?_toArray]; rfl) (by kernel_rfl) (by kernel_rfl) (by kernel_rfl) (by exact fun _ _ _ h => h) (Or.inr ⟨by kernel_rfl, rfl⟩) (by assumption) ?_
        try simp only [Act.put, List.setIfInBounds_toArray, List.set_cons_zero, List.set_cons_succ]
        refine wpAnyH_take (i := 11) (v := undef) (by rw [List.getElem?_toArray]; rfl) (by kernel_rfl) (by kernel_rfl) (by kernel_rfl) (by exact fun _ _ _ h => h) (Or.inr ⟨by kernel_rfl, rfl⟩) (by assumption) ?_
        try simp only [Act.put, List.setIfInBounds_toArray, List.set_cons_zero, List.set_cons_succ]
        refine wpAnyH_take (i := 12) (v := undef) (by rw [List.getElem?_toArray]; rfl) (by kernel_rfl) (by kernel_rfl) (by kernel_rfl) (by exact fun _ _ _ h => h) (Or.inr ⟨by kernel_rfl, rfl⟩) (by assumption) ?_
        try simp only [Act.put, List.setIfInBounds_toArray, List.set_cons_zero, List.set_cons_succ]
        refine wpAnyH_take (i := 13) (v := .bool false) (by rw [List.getElem?_toArray]; rfl) (by kernel_rfl) (by kernel_rfl) (by kernel_rfl) (by exact fun _ _ _ h => h) (Or.inl ⟨by rfl, fun w hSw => by (try dsimp only at hSw); go_simp⟩) (by assumption) ?_
        try simp only [Act.put, List.setIfInBounds_toArray, List.set_cons_zero, List.set_cons_succ]
        refine wpAnyH_done (by kernel_rfl) ?_ _
        clear hHeld
        generalize wr.drew = wd at *
        go_wp2_with (at_builtin; refine wpList_append_lies _ rfl _ _ _ rfl w.heap.size 5 i0 (.int .u8 0) 1 1 Tryd.underlying22 hi hz0 hz1 hz2 rfl (by decide) (.slice (some ⟨g, 0, none⟩) 0 cp) 0 (bvL ([] : List (Fin 4)).reverse) rfl HOWN1.out ⟨wd.heap.size, 0, none⟩ 1 1 [.int .u8 x] rfl rfl (cell_one_new _ _ _) (by simp [Value.oneCell']) (by decide) hq1 hq2 hq3 (wd.heap.size + 1) (by simp) ?_; intro g7 cp7 w7 hown7 hgrow7 hat7 hlt7)
        have HF := Lib.hid (HFI.out g7 cp7 w7 hown7)
        have HB7 : Hid (Below w.heap.size w w7) := (HBB.out.alloc hbs _).grown hgrow7 (by simp; omega) (fun k e => by cases e; exact hgb)
        clear hown7 hgrow7 hat7
        go_wp2
        go_roundw
        case rel => exact ⟨k + 1, g7, cp7, by omega, by go_num, HF.out.1, HF.out.2, HB7.out⟩
        case measure => simp [intOf]; omega
      | cons d v =>
        have hown0 := hown
        rw [List.reverse_cons, bvL_app] at hown0
        have hlc := hown0.cellAt v.length (by simp)
        have hvl : (bvL v.reverse).length = v.length := by simp [bvL]
        rw [List.getElem?_append_right (Nat.le_of_eq hvl), hvl, Nat.sub_self] at hlc
        replace hlc : wr.cell? ⟨g, v.length, none⟩ = some (.int .u8 ((ltB d).toNat : Int)) := hlc
        have hlv : ((v.length : Int) + 1) ≤ 1048576 := by have := HSZ.out; simp at hlen; omega
        have hcp0 := (own_cap4 hown).2.1
        have hcp : ((v.length : Int) + 1) ≤ (cp : Int) := by
          have h1' : v.length + 1 ≤ cp := hcp0
          omega
        clear hcp0
        by_cases hcd : c = ivL d
        · have hxy : ((ltB (ivL c)).toNat : Int) = ((ltB d).toNat : Int) := by rw [hcd, ivL_ivL]
          have HPOP : Hid (wr.ownsRow w.heap.size 5 1 (.slice (some ⟨g, 0, none⟩) v.length cp) v.length (bvL v.reverse)) := ownsRow_pop (size := 1) (by rw [hvl, Nat.mul_one]) hown0
          have HFI : Hid (Value.slice (some ⟨g, 0, none⟩) v.length cp = .slice (some ⟨g, 0, none⟩) (goW [] (ws.take (k + 1))).length cp ∧ wr.ownsRow w.heap.size 5 1 (.slice (some ⟨g, 0, none⟩) v.length cp) (goW [] (ws.take (k + 1))).length (bvL (goW [] (ws.take (k + 1))).reverse)) := by
            show _ ∧ _
            rw [HST.out, stp_cons, if_pos hcd]; exact ⟨rfl, HPOP.out⟩
          rw [hxy] at HOT
          clear hxy hcd
          generalize ((ltB d).toNat : Int) = y at *
          generalize ((ltB c).toNat : Int) = x at *
          clear HIX HST hown hown0 hB HPOP hvl
          simp only [List.length_cons] at *
          generalize v.length = n at *
          have hqb : (n : Int) ≤ 1048576 := by omega
          have hwr : IntKind.i64.wrap (n : Int) = (n : Int) := by rw [IntKind.wrap_i64]; omega
          have hno : ¬ ((n : Int) + 1 ≤ (n : Int)) := by omega
          go_wp2_with fail
          refine wp_region_held_drew (S := (fun w' => w'.cell? ⟨g, n, none⟩ = some (.int .u8 y))) (by kernel_rfl) ?_ (fun hHeld => ?_)
          · exact hlc
          refine wpAnyH_take (i := 0) (v := .int .i64 ((n : Int) + 1)) (by rw [List.getElem?_toArray]; rfl) (by kernel_rfl) (by kernel_rfl) (by kernel_rfl) (by exact fun _ _ _ h => h) (Or.inl ⟨by rfl, fun w hSw => by (try dsimp only at hSw); go_simp⟩) (by assumption) ?_
          try simp only [Act.put, List.setIfInBounds_toArray, List.set_cons_zero, List.set_cons_succ]
          refine wpAnyH_take (i := 1) (v := .bool true) (by rw [List.getElem?_toArray]; rfl) (by kernel_rfl) (by kernel_rfl) (by kernel_rfl) (by exact fun _ _ _ h => h) (Or.inl ⟨by rfl, fun w hSw => by (try dsimp only at hSw); go_simp⟩) (by assumption) ?_
          try simp only [Act.put, List.setIfInBounds_toArray, List.set_cons_zero, List.set_cons_succ]
          refine wpAnyH_take (i := 2) (v := .bool true) (by rw [List.getElem?_toArray]; rfl) (by kernel_rfl) (by kernel_rfl) (by kernel_rfl) (by exact fun _ _ _ h => h) (Or.inl ⟨by rfl, fun w hSw => by (try dsimp only at hSw); go_simp⟩) (by assumption) ?_
          try simp only [Act.put, List.setIfInBounds_toArray, List.set_cons_zero, List.set_cons_succ]
          refine wpAnyH_take (i := 3) (v := .slice (some ⟨g, 0, none⟩) (n + 1) cp) (by rw [List.getElem?_toArray]; rfl) (by kernel_rfl) (by kernel_rfl) (by kernel_rfl) (by exact fun _ _ _ h => h) (Or.inl ⟨by rfl, fun w hSw => by (try dsimp only at hSw); go_simp⟩) (by assumption) ?_
          try simp only [Act.put, List.setIfInBounds_toArray, List.set_cons_zero, List.set_cons_succ]
          refine wpAnyH_take (i := 4) (v := .int .i64 ((n : Int) + 1)) (by rw [List.getElem?_toArray]; rfl) (by kernel_rfl) (by kernel_rfl) (by kernel_rfl) (by exact fun _ _ _ h => h) (Or.inl ⟨by rfl, fun w hSw => by (try dsimp only at hSw); go_simp⟩) (by assumption) ?_
          try simp only [Act.put, List.setIfInBounds_toArray, List.set_cons_zero, List.set_cons_succ]
          refine wpAnyH_take (i := 5) (v := .int .i64 (n : Int)) (by rw [List.getElem?_toArray]; rfl) (by kernel_rfl) (by kernel_rfl) (by kernel_rfl) (by exact fun _ _ _ h => h) (Or.inl ⟨by rfl, fun w hSw => by (try dsimp only at hSw); go_simp⟩) (by assumption) ?_
          try simp only [Act.put, List.setIfInBounds_toArray, List.set_cons_zero, List.set_cons_succ]
          refine wpAnyH_take (i := 6) (v := .pointer (some ⟨g, n, none⟩)) (by rw [List.getElem?_toArray]; rfl) (by kernel_rfl) (by kernel_rfl) (by kernel_rfl) (by exact fun _ _ _ h => h) (Or.inl ⟨by rfl, fun w hSw => by (try dsimp only at hSw); go_simp⟩) (by assumption) ?_
          try simp only [Act.put, List.setIfInBounds_toArray, List.set_cons_zero, List.set_cons_succ]
          refine wpAnyH_take (i := 7) (v := .int .u8 y) (by rw [List.getElem?_toArray]; rfl) (by kernel_rfl) (by kernel_rfl) (by kernel_rfl) (by exact fun _ _ _ h => h) (Or.inl ⟨by rfl, fun w hSw => by (try dsimp only at hSw); go_simp⟩) (by assumption) ?_
          try simp only [Act.put, List.setIfInBounds_toArray, List.set_cons_zero, List.set_cons_succ]
          refine wpAnyH_take (i := 8) (v := .string s) (by rw [List.getElem?_toArray]; rfl) (by kernel_rfl) (by kernel_rfl) (by kernel_rfl) (by exact fun _ _ _ h => h) (Or.inl ⟨by rfl, fun w hSw => by (try dsimp only at hSw); go_simp⟩) (by assumption) ?_
          try simp only [Act.put, List.setIfInBounds_toArray, List.set_cons_zero, List.set_cons_succ]
          refine wpAnyH_take (i := 9) (v := .int .i64 (k : Int)) (by rw [List.getElem?_toArray]; rfl) (by kernel_rfl) (by kernel_rfl) (by kernel_rfl) (by exact fun _ _ _ h => h) (Or.inl ⟨by rfl, fun w hSw => by (try dsimp only at hSw); go_simp⟩) (by assumption) ?_
          try simp only [Act.put, List.setIfInBounds_toArray, List.set_cons_zero, List.set_cons_succ]
          refine wpAnyH_take (i := 10) (v := .int .u8 x) (by rw [List.getElem?_toArray]; rfl) (by kernel_rfl) (by kernel_rfl) (by kernel_rfl) (by exact fun _ _ _ h => h) (Or.inl ⟨by rfl, fun w hSw => by (try dsimp only at hSw); go_simp⟩) (by assumption) ?_
          try simp only [Act.put, List.setIfInBounds_toArray, List.set_cons_zero, List.set_cons_succ]
          refine wpAnyH_ready (rs := [11]) (by kernel_rfl) (by simp) ?_
          refine AllReadyH.cons (o := _) (by rw [List.getElem?_toArray]; rfl) (fun K hK => ?_) AllReadyH.nil
          go_simp
          refine (HOT.out _).mono ?_
          rintro e V1 ⟨rfl, rfl⟩
          refine hK.out _ _ ?_ (fun hHeld11 => ?_)
          · exact hlc
          clear hK K
          try simp only [Act.put, List.setIfInBounds_toArray, List.set_cons_zero, List.set_cons_succ]
          refine wpAnyH_take (i := 12) (v := .bool true) (by rw [List.getElem?_toArray]; rfl) (by kernel_rfl) (by kernel_rfl) (by kernel_rfl) (by exact fun _ _ _ h => h) (Or.inl ⟨by rfl, fun w hSw => by (try dsimp only at hSw); go_simp⟩) (by assumption) ?_
          try simp only [Act.put, List.setIfInBounds_toArray, List.set_cons_zero, List.set_cons_succ]
          refine wpAnyH_take (i := 13) (v := .bool true) (by rw [List.getElem?_toArray]; rfl) (by kernel_rfl) (by kernel_rfl) (by kernel_rfl) (by exact fun _ _ _ h => h) (Or.inl ⟨by rfl, fun w hSw => by (try dsimp only at hSw); go_simp⟩) (by assumption) ?_
          try simp only [Act.put, List.setIfInBounds_toArray, List.set_cons_zero, List.set_cons_succ]
          refine wpAnyH_done (by kernel_rfl) ?_ _
          have hncp : (n : Int) ≤ (cp : Int) := by omega
          clear hwr hHeld hHeld11 hlc hlen hno hlv hcp
          go_wp2
          go_roundw
          case rel => exact ⟨k + 1, g, cp, by omega, by go_num, HFI.out.1, HFI.out.2, HBB.out⟩
          case measure => simp [intOf]; omega
        · have hxy : ((ltB (ivL c)).toNat : Int) ≠ ((ltB d).toNat : Int) := fun e => hcd (by
            have h1 : ltB (ivL c) = ltB d := UInt8.toNat_inj.1 (by omega)
            rw [← ltB_inj _ _ h1, ivL_ivL])
          have HFI : Hid (∀ (g7 cp7 : Nat) (w7 : World), w7.ownsRow w.heap.size 5 1 (.slice (some ⟨g7, 0, none⟩) (v.length + 1 + 1) cp7) (v.length + 1 + 1) (bvL (d :: v).reverse ++ [.int .u8 ((ltB c).toNat : Int)]) → Value.slice (some ⟨g7, 0, none⟩) (v.length + 1 + 1) cp7 = .slice (some ⟨g7, 0, none⟩) (goW [] (ws.take (k + 1))).length cp7 ∧ w7.ownsRow w.heap.size 5 1 (.slice (some ⟨g7, 0, none⟩) (v.length + 1 + 1) cp7) (goW [] (ws.take (k + 1))).length (bvL (goW [] (ws.take (k + 1))).reverse)) := fun g7 cp7 w7 h => by
            rw [HST.out, stp_cons, if_neg hcd, List.reverse_cons, bvL_app]; exact ⟨rfl, h⟩
          have hyx : ¬ ((ltB d).toNat : Int) = ((ltB (ivL c)).toNat : Int) := fun e => hxy e.symm
          generalize ((ltB (ivL c)).toNat : Int) = z at *
          generalize ((ltB d).toNat : Int) = y at *
          generalize ((ltB c).toNat : Int) = x at *
          clear HIX HST hown hown0 hB hvl hcd
          simp only [List.length_cons] at *
          generalize v.length = n at *
          have hqb : (n : Int) ≤ 1048576 := by omega
          have hwr : IntKind.i64.wrap (n : Int) = (n : Int) := by rw [IntKind.wrap_i64]; omega
          have hno : ¬ ((n : Int) + 1 ≤ (n : Int)) := by omega
          go_wp2_with fail
          refine wp_region_held_drew (S := (fun w' => w'.cell? ⟨g, n, none⟩ = some (.int .u8 y))) (by kernel_rfl) ?_ (fun hHeld => ?_)
          · exact hlc
          refine wpAnyH_take (i := 0) (v := .int .i64 ((n : Int) + 1)) (by rw [List.getElem?_toArray]; rfl) (by kernel_rfl) (by kernel_rfl) (by kernel_rfl) (by exact fun _ _ _ h => h) (Or.inl ⟨by rfl, fun w hSw => by (try dsimp only at hSw); go_simp⟩) (by assumption) ?_
          try simp only [Act.put, List.setIfInBounds_toArray, List.set_cons_zero, List.set_cons_succ]
          refine wpAnyH_take (i := 1) (v := .bool true) (by rw [List.getElem?_toArray]; rfl) (by kernel_rfl) (by kernel_rfl) (by kernel_rfl) (by exact fun _ _ _ h => h) (Or.inl ⟨by rfl, fun w hSw => by (try dsimp only at hSw); go_simp⟩) (by assumption) ?_
          try simp only [Act.put, List.setIfInBounds_toArray, List.set_cons_zero, List.set_cons_succ]
          refine wpAnyH_take (i := 2) (v := .bool true) (by rw [List.getElem?_toArray]; rfl) (by kernel_rfl) (by kernel_rfl) (by kernel_rfl) (by exact fun _ _ _ h => h) (Or.inl ⟨by rfl, fun w hSw => by (try dsimp only at hSw); go_simp⟩) (by assumption) ?_
          try simp only [Act.put, List.setIfInBounds_toArray, List.set_cons_zero, List.set_cons_succ]
          refine wpAnyH_take (i := 3) (v := .slice (some ⟨g, 0, none⟩) (n + 1) cp) (by rw [List.getElem?_toArray]; rfl) (by kernel_rfl) (by kernel_rfl) (by kernel_rfl) (by exact fun _ _ _ h => h) (Or.inl ⟨by rfl, fun w hSw => by (try dsimp only at hSw); go_simp⟩) (by assumption) ?_
          try simp only [Act.put, List.setIfInBounds_toArray, List.set_cons_zero, List.set_cons_succ]
          refine wpAnyH_take (i := 4) (v := .int .i64 ((n : Int) + 1)) (by rw [List.getElem?_toArray]; rfl) (by kernel_rfl) (by kernel_rfl) (by kernel_rfl) (by exact fun _ _ _ h => h) (Or.inl ⟨by rfl, fun w hSw => by (try dsimp only at hSw); go_simp⟩) (by assumption) ?_
          try simp only [Act.put, List.setIfInBounds_toArray, List.set_cons_zero, List.set_cons_succ]
          refine wpAnyH_take (i := 5) (v := .int .i64 (n : Int)) (by rw [List.getElem?_toArray]; rfl) (by kernel_rfl) (by kernel_rfl) (by kernel_rfl) (by exact fun _ _ _ h => h) (Or.inl ⟨by rfl, fun w hSw => by (try dsimp only at hSw); go_simp⟩) (by assumption) ?_
          try simp only [Act.put, List.setIfInBounds_toArray, List.set_cons_zero, List.set_cons_succ]
          refine wpAnyH_take (i := 6) (v := .pointer (some ⟨g, n, none⟩)) (by rw [List.getElem?_toArray]; rfl) (by kernel_rfl) (by kernel_rfl) (by kernel_rfl) (by exact fun _ _ _ h => h) (Or.inl ⟨by rfl, fun w hSw => by (try dsimp only at hSw); go_simp⟩) (by assumption) ?_
          try simp only [Act.put, List.setIfInBounds_toArray, List.set_cons_zero, List.set_cons_succ]
          refine wpAnyH_take (i := 7) (v := .int .u8 y) (by rw [List.getElem?_toArray]; rfl) (by kernel_rfl) (by kernel_rfl) (by kernel_rfl) (by exact fun _ _ _ h => h) (Or.inl ⟨by rfl, fun w hSw => by (try dsimp only at hSw); go_simp⟩) (by assumption) ?_
          try simp only [Act.put, List.setIfInBounds_toArray, List.set_cons_zero, List.set_cons_succ]
          refine wpAnyH_take (i := 8) (v := .string s) (by rw [List.getElem?_toArray]; rfl) (by kernel_rfl) (by kernel_rfl) (by kernel_rfl) (by exact fun _ _ _ h => h) (Or.inl ⟨by rfl, fun w hSw => by (try dsimp only at hSw); go_simp⟩) (by assumption) ?_
          try simp only [Act.put, List.setIfInBounds_toArray, List.set_cons_zero, List.set_cons_succ]
          refine wpAnyH_take (i := 9) (v := .int .i64 (k : Int)) (by rw [List.getElem?_toArray]; rfl) (by kernel_rfl) (by kernel_rfl) (by kernel_rfl) (by exact fun _ _ _ h => h) (Or.inl ⟨by rfl, fun w hSw => by (try dsimp only at hSw); go_simp⟩) (by assumption) ?_
          try simp only [Act.put, List.setIfInBounds_toArray, List.set_cons_zero, List.set_cons_succ]
          refine wpAnyH_take (i := 10) (v := .int .u8 x) (by rw [List.getElem?_toArray]; rfl) (by kernel_rfl) (by kernel_rfl) (by kernel_rfl) (by exact fun _ _ _ h => h) (Or.inl ⟨by rfl, fun w hSw => by (try dsimp only at hSw); go_simp⟩) (by assumption) ?_
          try simp only [Act.put, List.setIfInBounds_toArray, List.set_cons_zero, List.set_cons_succ]
          refine wpAnyH_ready (rs := [11]) (by kernel_rfl) (by simp) ?_
          refine AllReadyH.cons (o := _) (by rw [List.getElem?_toArray]; rfl) (fun K hK => ?_) AllReadyH.nil
          go_simp
          refine (HOT.out _).mono ?_
          rintro e V1 ⟨rfl, rfl⟩
          refine hK.out _ _ ?_ (fun hHeld11 => ?_)
          · exact hlc
          clear hK K
          try simp only [Act.put, List.setIfInBounds_toArray, List.set_cons_zero, List.set_cons_succ]
          refine wpAnyH_take (i := 12) (v := .bool false) (by rw [List.getElem?_toArray]; rfl) (by kernel_rfl) (by kernel_rfl) (by kernel_rfl) (by exact fun _ _ _ h => h) (Or.inl ⟨by rfl, fun w hSw => by (try dsimp only at hSw); go_simp⟩) (by assumption) ?_
          try simp only [Act.put, List.setIfInBounds_toArray, List.set_cons_zero, List.set_cons_succ]
          refine wpAnyH_take (i := 13) (v := .bool false) (by rw [List.getElem?_toArray]; rfl) (by kernel_rfl) (by kernel_rfl) (by kernel_rfl) (by exact fun _ _ _ h => h) (Or.inl ⟨by rfl, fun w hSw => by (try dsimp only at hSw); go_simp⟩) (by assumption) ?_
          try simp only [Act.put, List.setIfInBounds_toArray, List.set_cons_zero, List.set_cons_succ]
          refine wpAnyH_done (by kernel_rfl) ?_ _
          clear hwr hHeld hHeld11 hlc hlen hno hlv hqb hxy hyx hcp
          generalize wr.drew = wd at *
          go_wp2_with (at_builtin; refine wpList_append_lies _ rfl _ _ _ rfl w.heap.size 5 i0 (.int .u8 0) 1 1 Tryd.underlying22 hi hz0 hz1 hz2 rfl (by decide) (.slice (some ⟨g, 0, none⟩) (n + 1) cp) (n + 1) (bvL (d :: v).reverse) rfl HOWN1.out ⟨wd.heap.size, 0, none⟩ 1 1 [.int .u8 x] rfl rfl (cell_one_new _ _ _) (by simp [Value.oneCell']) (by decide) hq1 hq2 hq3 (wd.heap.size + 1) (by simp) ?_; intro g7 cp7 w7 hown7 hgrow7 hat7 hlt7)
          have HF := Lib.hid (HFI.out g7 cp7 w7 hown7)
          have HB7 : Hid (Below w.heap.size w w7) := (HBB.out.alloc hbs _).grown hgrow7 (by simp; omega) (fun k e => by cases e; exact hgb)
          clear hown7 hgrow7 hat7
          go_wp2
          go_roundw
          case rel => exact ⟨k + 1, g7, cp7, by omega, by go_num, HF.out.1, HF.out.2, HB7.out⟩
          case measure => simp [intOf]; omega

    · obtain rfl : k = ws.length := by omega
      rw [List.take_length] at hown ⊢
      have hll : ((goW [] ws).reverse.map ltB).length = (goW [] ws).length := by simp
      have hcv := run_convert_bytes_back (P := Tryd.prog) wr 22 9 5 ⟨g, 0, none⟩ cp ((goW [] ws).reverse.map ltB) Tryd.underlying22 Tryd.underlying5 Tryd.underlying9 (fun j hj => hown.cells rfl j _ (by
        unfold bvL
        rw [hll] at hj
        rw [List.getElem?_map, List.getElem?_eq_getElem (by simpa using hj)]
        simp))
      rw [hll] at hcv
      have hst : (⟨((goW [] ws).reverse.map ltB).toArray⟩ : ByteArray) = strOf (redS ws) := rfl
      rw [hst] at hcv
      have HB := Lib.hid hB
      clear hown hB hll hst HIX
      generalize (goW [] ws).length = q at *
      go_wp2
      go_ret
      exact ⟨rfl, HB.out⟩
set_option maxHeartbeats 1000000 in
theorem specReduced_no (s : ByteArray) (hs : s.size ≤ 1048576) (hw : wordB s = false) (w : World) : Calls Tryd.prog 15 #[.string s] w fun e w' => e = .returned (.tuple #[.string ⟨#[]⟩, .bool false]) ∧ Below w.heap.size w w' := by
  have hW := l4Word_any s hs w
  rw [hw] at hW
  have HW := Lib.hid hW
  clear hW hw
  go_enter Tryd.func15, Tryd.ntmps15
  go_wp2_with fail
  refine HW.out.mono ?_
  rintro e w1 ⟨rfl, rfl⟩
  go_wp2
  go_ret2
  exact ⟨rfl, Below.refl _ _⟩
set_option maxHeartbeats 1000000 in
theorem specReduced_yes (ws : List (Fin 4)) (hl : ws.length ≤ 24) (hw : wordB (txt ws) = true) (w : World) : Calls Tryd.prog 15 #[.string (txt ws)] w fun e w' => e = .returned (.tuple #[.string (strOf (redS ws)), .bool true]) ∧ Below w.heap.size w w' := by
  have hW := l4Word_any (txt ws) (by have : (txt ws).size = ws.length := by unfold txt; simp [ByteArray.size]
                                     omega) w
  rw [hw] at hW
  have HW := Lib.hid hW
  have HR := Lib.hid (l4Reduce_any ws (by omega) w)
  clear hW hw
  go_enter Tryd.func15, Tryd.ntmps15
  go_wp2_with fail
  refine HW.out.mono ?_
  rintro e w1 ⟨rfl, rfl⟩
  go_wp2_with fail
  refine HR.out.mono ?_
  rintro e w2 ⟨rfl, hB⟩
  have HB := Lib.hid hB
  clear hB
  go_wp2
  go_ret2
  exact ⟨rfl, HB.out⟩
end

end Go.Proofs.YtlcjgppclclkoaaDoor
