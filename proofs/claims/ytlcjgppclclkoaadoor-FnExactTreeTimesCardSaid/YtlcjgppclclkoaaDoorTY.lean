/-
  Tin.
-/
import Derived.Deep.RegionHeld3
import Derived.Test.YtlcjgppclclkoaaDoorTR
import Derived.Test.YtlcjgppclclkoaaDoorTX
namespace Go.Proofs.YtlcjgppclclkoaaDoor
set_option maxRecDepth 100000
set_option linter.unusedVariables false
set_option linter.unusedSimpArgs false
set_option linter.unusedSectionVars false

/-! spec.TreeIn. -/
section
open Go.RowKit Go.Lib Go.Sort

theorem no_iff {P : Prop} (h : ¬ P) : (false = true ↔ P) := ⟨fun e => Bool.noConfusion e, fun e => absurd e h⟩
theorem bsz {B : Nat} {w wr : World} {o : Obj} (h : RowKit.Below B (w.alloc o) wr) : w.heap.size + 1 ≤ wr.heap.size := by have := h.size; rwa [World.size_alloc] at this
theorem below_drew' {B : Nat} {w w' : World} (h : RowKit.Below B w w') : RowKit.Below B w w'.drew := h.drew
set_option maxHeartbeats 4000000 in
theorem specIn_any (A : Option Addr) (n c : Nat) (ss : List ByteArray) (e : ByteArray) (w : World) (h : RS w A n ss) (hn : n ≤ 1048576) (hl : ∀ s ∈ ss, s.size ≤ 1048576) :
    Calls Tryd.prog 24 #[.agg #[.slice A n c, .string e]] w fun e' w' => ∃ b : Bool, e' = .returned (.bool b) ∧ (b = true ↔ TinQ ss e) ∧ RowKit.Below w.heap.size w w' := by
  have hB0 : RowKit.Below w.heap.size w (w.alloc (.cells #[.slice A n c, .string e] 29)) := (RowKit.Below.refl _ w).alloc (Nat.le_refl _) _
  have hA0 : Blk (w.alloc (.cells #[.slice A n c, .string e] 29)) w.heap.size 29 #[.slice A n c, .string e] := Blk.new w _ _
  have hRS := h.below hB0
  have hsz : (w.alloc (.cells #[.slice A n c, .string e] 29)).heap.size = w.heap.size + 1 := by simp
  have hnl := h.len
  have HIN := Lib.hid (fun W : World => l6In0_any (n : Int) 1 60 W)
  have HHAS0 : Hid (∀ (W : World) (t : ByteArray), RowKit.Below (w.heap.size + 1) (w.alloc (.cells #[.slice A n c, .string e] 29)) W → Calls Tryd.prog 56 #[.slice A n c, .string t] W fun e' w' => e' = .returned (.bool (hasB ss t)) ∧ w' = W) := fun W t hW =>
    l4Has_any A n c ss t W (hRS.below (by rw [hsz]; exact hW)) hn
  have HRS : Hid (∀ W : World, RowKit.Below (w.heap.size + 1) (w.alloc (.cells #[.slice A n c, .string e] 29)) W → RS W A n ss ∧ W.cell? ⟨w.heap.size, 0, none⟩ = some (.slice A n c) ∧ W.cell? ⟨w.heap.size, 1, none⟩ = some (.string e)) := fun W hW =>
    ⟨hRS.below (by rw [hsz]; exact hW), (hA0.below hW (by omega)).cell 0, (hA0.below hW (by omega)).cell 1⟩
  have HB0 := Lib.hid hB0
  have HNL := Lib.hid hnl
  have HL := Lib.hid hl
  clear hB0 hA0 hRS hsz hnl hl h
  cases hq : inB0 (n : Int) 1 60 with
  | false =>
    have HNO : Hid (¬ TinQ ss e) := no_len (fun h => by
      rw [HNL.out] at h
      unfold inB0 at hq
      rw [decide_eq_true (by omega), decide_eq_true (by omega)] at hq
      cases hq)
    rw [hq] at HIN
    clear hq
    go_enter Tryd.func24, Tryd.ntmps24
    go_wp2_with fail
    refine (HIN.out _).mono ?_
    rintro e' w1 ⟨rfl, rfl⟩
    go_wp2
    go_ret
    exact ⟨false, rfl, no_iff HNO.out, HB0.out⟩
  | true =>
  have H60 : Hid (1 ≤ n ∧ n ≤ 60) := by
    show _ ∧ _
    unfold inB0 at hq
    rw [Bool.and_eq_true, decide_eq_true_eq, decide_eq_true_eq] at hq
    omega
  rw [hq] at HIN
  clear hq
  cases he : hasB ss e with
  | false =>
    have HNO : Hid (¬ TinQ ss e) := no_end (hasB_no.1 he)
    have HE := Lib.hid (HHAS0.out (w.alloc (.cells #[.slice A n c, .string e] 29)) e (RowKit.Below.refl _ _))
    rw [he] at HE
    clear he
    go_enter Tryd.func24, Tryd.ntmps24
    go_wp2_with fail
    refine (HIN.out _).mono ?_
    rintro e' w1 ⟨rfl, rfl⟩
    go_wp2_with fail
    refine HE.out.mono ?_
    rintro e' w1 ⟨rfl, rfl⟩
    go_wp2
    go_ret
    exact ⟨false, rfl, no_iff HNO.out, HB0.out⟩
  | true =>
  have HE := Lib.hid (HHAS0.out (w.alloc (.cells #[.slice A n c, .string e] 29)) e (RowKit.Below.refl _ _))
  rw [he] at HE
  have HEM : Hid (e ∈ ss) := hasB_iff.1 he
  clear he
  go_enter Tryd.func24, Tryd.ntmps24
  go_wp2_with fail
  refine (HIN.out _).mono ?_
  rintro e' w1 ⟨rfl, rfl⟩
  go_wp2_with fail
  refine HE.out.mono ?_
  rintro e' w1 ⟨rfl, rfl⟩
  clear HE HIN
  go_wp2
  go_loopw [3] (fun i wr => ∃ (k : Nat) (S : List (List (Fin 4))), k ≤ n ∧ i = .int .i64 (k : Int) ∧ RowKit.Below (w.heap.size + 1) (w.alloc (.cells #[.slice A n c, .string e] 29)) wr ∧ Hid (Tpr ss k S)) (fun i _ => n - (intOf i).toNat)
  case atStart => exact ⟨0, [], Nat.zero_le _, rfl, RowKit.Below.refl _ _, Tpr.zero ss⟩
  case round =>
    obtain ⟨k, S, hk, rfl, hB, HTP⟩ := hrel
    obtain ⟨hrs, hc0, hc1⟩ := HRS.out wr hB
    by_cases hlt : k < n
    · obtain ⟨ad, s, rfl, hab, hs, hc⟩ := hrs.at_ hlt
      have hki : (k : Int) < (n : Int) := by omega
      have HMEM : Hid (s ∈ ss) := List.mem_of_getElem? hs
      have HSE : Hid (ss[k]? = some s) := hs
      have hsz := HL.out s HMEM.out
      have HW := Lib.hid (l4Word_any s hsz wr)
      clear hs hrs
      cases hb : wordB s with
      | false =>
        rw [hb] at HW
        have HNO : Hid (¬ TinQ ss e) := no_word HMEM.out hb
        clear hb
        go_wp2_with fail
        refine HW.out.mono ?_
        rintro e' w1 ⟨rfl, rfl⟩
        go_wp2
        go_ret
        exact ⟨false, rfl, no_iff HNO.out, HB0.out.trans (hB.mono (by omega))⟩
      | true =>
        rw [hb] at HW
        obtain ⟨ws, rfl, hwl⟩ := word_txt hb
        clear hb
        have HRE := Lib.hid (l4Reduce_any ws (by omega) wr)
        by_cases hr : redS ws = ws.reverse
        · obtain ⟨u, rfl⟩ : ∃ u, ws = u.reverse := ⟨ws.reverse, by simp⟩
          rw [List.reverse_reverse] at hr
          rw [List.length_reverse] at hwl
          have HRD : Hid (Rdc u) := by show Rdc u; rw [← hr]; exact goW_rdc rdc_nil
          rw [hr] at HRE
          have HL24 : Hid (u.length ≤ 24) := hwl
          rw [← strOf_txt] at HRE HW HSE HMEM hc hsz
          have HSZ : Hid ((strOf u).size = u.length) := strOf_size u
          have HLS := Lib.hid (fun (v : List (Fin 4)) (W : World) => l4Less_any v u W)
          generalize hsg : strOf u = s at HRE HW HSE HMEM hc hsz HSZ HLS ⊢
          have HSTR : Hid (strOf u = s) := hsg
          clear hsg
          have heq : (s.toList == s.toList) = true := by rw [beq_str]; simp
          clear hr hwl
          rcases Nat.eq_zero_or_pos k with hk0 | hk0
          · have HLAST : Hid (∀ v, S.getLast? = some v → ltW v u) := fun v hv => by
              have := HTP.out.tk
              rw [hk0, List.take_zero] at this
              rw [List.map_eq_nil_iff.1 this.symm] at hv; cases hv
            have hk0i : ¬ ((0 : Int) < (k : Int)) := by omega
            rw [← HSTR.out] at HSE
            clear hk0
            go_wp2_with fail
            refine HW.out.mono ?_
            rintro e' w1 ⟨rfl, rfl⟩
            go_wp2_with fail
            refine HRE.out.mono ?_
            rintro e' w2 ⟨rfl, hb2⟩
            have hB2 := hB.trans (hb2.mono (bsz hB))
            have c0 := (HRS.out w2 hB2).2.1
            clear hb2 hB hc0 hc1 hc HW HRE HLS
            go_wp2_with fail
            cases u with
            | nil =>
              have hs0 : s.size = 0 := HSZ.out
              have HTP2 : Hid (Tpr ss (k + 1) (S ++ [[]])) := HTP.out.step (HSE.out) rdc_nil (by simp) HLAST.out (fun _ _ h => by cases h)
              refine wp_region_held_drew (S := (fun _ => True)) (by kernel_rfl) ?_ (fun hHeld => ?_)
              · exact trivial
              refine wpAnyH_take (i := 0) (v := .string s) (by rw [List.getElem?_toArray]; rfl) (by kernel_rfl) (by kernel_rfl) (by kernel_rfl) (by exact fun _ _ _ h => h) (Or.inl ⟨by rfl, fun w hSw => by (try dsimp only at hSw); go_simp⟩) (by assumption) ?_
              try simp only [Act.put, List.setIfInBounds_toArray, List.set_cons_zero, List.set_cons_succ]
              refine wpAnyH_take (i := 1) (v := .int .i64 0) (by rw [List.getElem?_toArray]; rfl) (by kernel_rfl) (by kernel_rfl) (by kernel_rfl) (by exact fun _ _ _ h => h) (Or.inl ⟨by rfl, fun w hSw => by (try dsimp only at hSw); go_simp⟩) (by assumption) ?_
              try simp only [Act.put, List.setIfInBounds_toArray, List.set_cons_zero, List.set_cons_succ]
              refine wpAnyH_take (i := 2) (v := .bool false) (by rw [List.getElem?_toArray]; rfl) (by kernel_rfl) (by kernel_rfl) (by kernel_rfl) (by exact fun _ _ _ h => h) (Or.inl ⟨by rfl, fun w hSw => by (try dsimp only at hSw); go_simp⟩) (by assumption) ?_
              try simp only [Act.put, List.setIfInBounds_toArray, List.set_cons_zero, List.set_cons_succ]
              refine wpAnyH_take (i := 3) (v := .bool false) (by rw [List.getElem?_toArray]; rfl) (by kernel_rfl) (by kernel_rfl) (by kernel_rfl) (by exact fun _ _ _ h => h) (Or.inl ⟨by rfl, fun w hSw => by (try dsimp only at hSw); go_simp⟩) (by assumption) ?_
              try simp only [Act.put, List.setIfInBounds_toArray, List.set_cons_zero, List.set_cons_succ]
              refine wpAnyH_take (i := 4) (v := undef) (by rw [List.getElem?_toArray]; rfl) (by kernel_rfl) (by kernel_rfl) (by kernel_rfl) (by exact fun _ _ _ h => h) (Or.inr ⟨by kernel_rfl, rfl⟩) (by assumption) ?_
              try simp only [Act.put, List.setIfInBounds_toArray, List.set_cons_zero, List.set_cons_succ]
              refine wpAnyH_take (i := 5) (v := undef) (by rw [List.getElem?_toArray]; rfl) (by kernel_rfl) (by kernel_rfl) (by kernel_rfl) (by exact fun _ _ _ h => h) (Or.inr ⟨by kernel_rfl, rfl⟩) (by assumption) ?_
              try simp only [Act.put, List.setIfInBounds_toArray, List.set_cons_zero, List.set_cons_succ]
              refine wpAnyH_take (i := 6) (v := undef) (by rw [List.getElem?_toArray]; rfl) (by kernel_rfl) (by kernel_rfl) (by kernel_rfl) (by exact fun _ _ _ h => h) (Or.inr ⟨by kernel_rfl, rfl⟩) (by assumption) ?_
              try simp only [Act.put, List.setIfInBounds_toArray, List.set_cons_zero, List.set_cons_succ]
              refine wpAnyH_take (i := 7) (v := undef) (by rw [List.getElem?_toArray]; rfl) (by kernel_rfl) (by kernel_rfl) (by kernel_rfl) (by exact fun _ _ _ h => h) (Or.inr ⟨by kernel_rfl, rfl⟩) (by assumption) ?_
              try simp only [Act.put, List.setIfInBounds_toArray, List.set_cons_zero, List.set_cons_succ]
              refine wpAnyH_take (i := 8) (v := undef) (by rw [List.getElem?_toArray]; rfl) (by kernel_rfl) (by kernel_rfl) (by kernel_rfl) (by exact fun _ _ _ h => h) (Or.inr ⟨by kernel_rfl, rfl⟩) (by assumption) ?_
              try simp only [Act.put, List.setIfInBounds_toArray, List.set_cons_zero, List.set_cons_succ]
              refine wpAnyH_take (i := 9) (v := undef) (by rw [List.getElem?_toArray]; rfl) (by kernel_rfl) (by kernel_rfl) (by kernel_rfl) (by exact fun _ _ _ h => h) (Or.inr ⟨by kernel_rfl, rfl⟩) (by assumption) ?_
              try simp only [Act.put, List.setIfInBounds_toArray, List.set_cons_zero, List.set_cons_succ]
              refine wpAnyH_take (i := 10) (v := undef) (by rw [List.getElem?_toArray]; rfl) (by kernel_rfl) (by kernel_rfl) (by kernel_rfl) (by exact fun _ _ _ h => h) (Or.inr ⟨by kernel_rfl, rfl⟩) (by assumption) ?_
              try simp only [Act.put, List.setIfInBounds_toArray, List.set_cons_zero, List.set_cons_succ]
              refine wpAnyH_take (i := 11) (v := undef) (by rw [List.getElem?_toArray]; rfl) (by kernel_rfl) (by kernel_rfl) (by kernel_rfl) (by exact fun _ _ _ h => h) (Or.inr ⟨by kernel_rfl, rfl⟩) (by assumption) ?_
              try simp only [Act.put, List.setIfInBounds_toArray, List.set_cons_zero, List.set_cons_succ]
              refine wpAnyH_take (i := 12) (v := undef) (by rw [List.getElem?_toArray]; rfl) (by kernel_rfl) (by kernel_rfl) (by kernel_rfl) (by exact fun _ _ _ h => h) (Or.inr ⟨by kernel_rfl, rfl⟩) (by assumption) ?_
              try simp only [Act.put, List.setIfInBounds_toArray, List.set_cons_zero, List.set_cons_succ]
              refine wpAnyH_take (i := 13) (v := .bool false) (by rw [List.getElem?_toArray]; rfl) (by kernel_rfl) (by kernel_rfl) (by kernel_rfl) (by exact fun _ _ _ h => h) (Or.inl ⟨by rfl, fun w hSw => by (try dsimp only at hSw); go_simp⟩) (by assumption) ?_
              try simp only [Act.put, List.setIfInBounds_toArray, List.set_cons_zero, List.set_cons_succ]
              refine wpAnyH_done (by kernel_rfl) ?_ _
              clear hHeld
              have hB3 := hB2.drew
              generalize w2.drew = wd at *
              go_wp2
              go_roundw
              case rel => exact ⟨k + 1, S ++ [[]], by omega, by go_num, hB3, HTP2.out⟩
              case measure => simp [intOf]; omega
            | cons d v =>
              obtain ⟨q, hq⟩ : ∃ q, v.length = q := ⟨_, rfl⟩
              have hsq : (s.size : Int) = (q : Int) + 1 := by have := HSZ.out; rw [List.length_cons, hq] at this; omega
              have hsl : ∀ W : World, (Instr.slice 9 (.string s) none (some (.int .i64 (q : Int))) none).run Tryd.prog W = .ok (.string (strOf v)) W := fun W => by
                rw [run_slice_string_to_if W 9 s .i64 (q : Int) Tryd.underlying9, if_pos (by omega)]
                have hc := strOf_cut d v
                rw [HSTR.out, hq] at hc
                rw [Int.toNat_natCast, hc]
              cases hhb : hasB ss (strOf v) with
              | false =>
                have HNO : Hid (¬ TinQ ss e) := no_cl (c := d) (u := v) (by rw [HSTR.out]; exact HMEM.out) (hasB_no.1 hhb)
                have HHAS : Hid (∀ W : World, RowKit.Below (w.heap.size + 1) (w.alloc (.cells #[.slice (some ad) n c, .string e] 29)) W → Calls Tryd.prog 56 #[.slice (some ad) n c, .string (strOf v)] W fun e' w' => e' = .returned (.bool false) ∧ w' = W) := fun W hW => by
                  have := HHAS0.out W (strOf v) hW; rwa [hhb] at this
                generalize strOf v = t at *
                clear hhb HHAS0
                have hwr : IntKind.i64.wrap (q : Int) = (q : Int) := by rw [IntKind.wrap_i64]; omega
                refine wp_region_held_drew (S := (fun w' => w'.cell? ⟨w.heap.size, 0, none⟩ = some (.slice (some ad) n c))) (by kernel_rfl) ?_ (fun hHeld => ?_)
                · exact c0
                refine wpAnyH_take (i := 0) (v := .string s) (by rw [List.getElem?_toArray]; rfl) (by kernel_rfl) (by kernel_rfl) (by kernel_rfl) (by exact fun _ _ _ h => h) (Or.inl ⟨by rfl, fun w hSw => by (try dsimp only at hSw); go_simp⟩) (by assumption) ?_
                try simp only [Act.put, List.setIfInBounds_toArray, List.set_cons_zero, List.set_cons_succ]
                refine wpAnyH_take (i := 1) (v := .int .i64 ((q : Int) + 1)) (by rw [List.getElem?_toArray]; rfl) (by kernel_rfl) (by kernel_rfl) (by kernel_rfl) (by exact fun _ _ _ h => h) (Or.inl ⟨by rfl, fun w hSw => by (try dsimp only at hSw); go_simp⟩) (by assumption) ?_
                try simp only [Act.put, List.setIfInBounds_toArray, List.set_cons_zero, List.set_cons_succ]
                refine wpAnyH_take (i := 2) (v := .bool true) (by rw [List.getElem?_toArray]; rfl) (by kernel_rfl) (by kernel_rfl) (by kernel_rfl) (by exact fun _ _ _ h => h) (Or.inl ⟨by rfl, fun w hSw => by (try dsimp only at hSw); go_simp⟩) (by assumption) ?_
                try simp only [Act.put, List.setIfInBounds_toArray, List.set_cons_zero, List.set_cons_succ]
                refine wpAnyH_take (i := 3) (v := .bool true) (by rw [List.getElem?_toArray]; rfl) (by kernel_rfl) (by kernel_rfl) (by kernel_rfl) (by exact fun _ _ _ h => h) (Or.inl ⟨by rfl, fun w hSw => by (try dsimp only at hSw); go_simp⟩) (by assumption) ?_
                try simp only [Act.put, List.setIfInBounds_toArray, List.set_cons_zero, List.set_cons_succ]
                refine wpAnyH_take (i := 4) (v := .pointer (some ⟨w.heap.size, 0, none⟩)) (by rw [List.getElem?_toArray]; rfl) (by kernel_rfl) (by kernel_rfl) (by kernel_rfl) (by exact fun _ _ _ h => h) (Or.inl ⟨by rfl, fun w hSw => by (try dsimp only at hSw); go_simp⟩) (by assumption) ?_
                try simp only [Act.put, List.setIfInBounds_toArray, List.set_cons_zero, List.set_cons_succ]
                refine wpAnyH_take (i := 5) (v := .slice (some ad) n c) (by rw [List.getElem?_toArray]; rfl) (by kernel_rfl) (by kernel_rfl) (by kernel_rfl) (by exact fun _ _ _ h => h) (Or.inl ⟨by rfl, fun w hSw => by (try dsimp only at hSw); go_simp⟩) (by assumption) ?_
                try simp only [Act.put, List.setIfInBounds_toArray, List.set_cons_zero, List.set_cons_succ]
                refine wpAnyH_take (i := 6) (v := .string s) (by rw [List.getElem?_toArray]; rfl) (by kernel_rfl) (by kernel_rfl) (by kernel_rfl) (by exact fun _ _ _ h => h) (Or.inl ⟨by rfl, fun w hSw => by (try dsimp only at hSw); go_simp⟩) (by assumption) ?_
                try simp only [Act.put, List.setIfInBounds_toArray, List.set_cons_zero, List.set_cons_succ]
                refine wpAnyH_take (i := 7) (v := .string s) (by rw [List.getElem?_toArray]; rfl) (by kernel_rfl) (by kernel_rfl) (by kernel_rfl) (by exact fun _ _ _ h => h) (Or.inl ⟨by rfl, fun w hSw => by (try dsimp only at hSw); go_simp⟩) (by assumption) ?_
                try simp only [Act.put, List.setIfInBounds_toArray, List.set_cons_zero, List.set_cons_succ]
                refine wpAnyH_take (i := 8) (v := .int .i64 ((q : Int) + 1)) (by rw [List.getElem?_toArray]; rfl) (by kernel_rfl) (by kernel_rfl) (by kernel_rfl) (by exact fun _ _ _ h => h) (Or.inl ⟨by rfl, fun w hSw => by (try dsimp only at hSw); go_simp⟩) (by assumption) ?_
                try simp only [Act.put, List.setIfInBounds_toArray, List.set_cons_zero, List.set_cons_succ]
                refine wpAnyH_take (i := 9) (v := .int .i64 (q : Int)) (by rw [List.getElem?_toArray]; rfl) (by kernel_rfl) (by kernel_rfl) (by kernel_rfl) (by exact fun _ _ _ h => h) (Or.inl ⟨by rfl, fun w hSw => by (try dsimp only at hSw); go_simp⟩) (by assumption) ?_
                try simp only [Act.put, List.setIfInBounds_toArray, List.set_cons_zero, List.set_cons_succ]
                refine wpAnyH_take (i := 10) (v := .string t) (by rw [List.getElem?_toArray]; rfl) (by kernel_rfl) (by kernel_rfl) (by kernel_rfl) (by exact fun _ _ _ h => h) (Or.inl ⟨by rfl, fun w hSw => by (try dsimp only at hSw); go_simp⟩) (by assumption) ?_
                try simp only [Act.put, List.setIfInBounds_toArray, List.set_cons_zero, List.set_cons_succ]
                refine wpAnyH_ready (rs := [11]) (by kernel_rfl) (by simp) ?_
                refine AllReadyH.cons (o := _) (by rw [List.getElem?_toArray]; rfl) (fun K hK => ?_) AllReadyH.nil
                go_simp
                refine (HHAS.out _ ?_).mono ?_
                · exact below_drew' hB2
                rintro e' V1 ⟨rfl, rfl⟩
                refine hK.out _ _ ?_ (fun hHeld11 => ?_)
                · exact c0
                clear hK K
                try simp only [Act.put, List.setIfInBounds_toArray, List.set_cons_zero, List.set_cons_succ]
                refine wpAnyH_take (i := 12) (v := .bool true) (by rw [List.getElem?_toArray]; rfl) (by kernel_rfl) (by kernel_rfl) (by kernel_rfl) (by exact fun _ _ _ h => h) (Or.inl ⟨by rfl, fun w hSw => by (try dsimp only at hSw); go_simp⟩) (by assumption) ?_
                try simp only [Act.put, List.setIfInBounds_toArray, List.set_cons_zero, List.set_cons_succ]
                refine wpAnyH_take (i := 13) (v := .bool true) (by rw [List.getElem?_toArray]; rfl) (by kernel_rfl) (by kernel_rfl) (by kernel_rfl) (by exact fun _ _ _ h => h) (Or.inl ⟨by rfl, fun w hSw => by (try dsimp only at hSw); go_simp⟩) (by assumption) ?_
                try simp only [Act.put, List.setIfInBounds_toArray, List.set_cons_zero, List.set_cons_succ]
                refine wpAnyH_done (by kernel_rfl) ?_ _
                clear hHeld hwr
                have hB3 := hB2.drew
                generalize w2.drew = wd at *
                go_wp2
                go_ret
                exact ⟨false, rfl, no_iff HNO.out, HB0.out.trans (hB3.mono (by omega))⟩
              | true =>
                have HTP2 : Hid (Tpr ss (k + 1) (S ++ [d :: v])) := HTP.out.step (HSE.out) HRD.out HL24.out HLAST.out (fun _ _ h => by cases h; exact hasB_iff.1 hhb)
                have HHAS : Hid (∀ W : World, RowKit.Below (w.heap.size + 1) (w.alloc (.cells #[.slice (some ad) n c, .string e] 29)) W → Calls Tryd.prog 56 #[.slice (some ad) n c, .string (strOf v)] W fun e' w' => e' = .returned (.bool true) ∧ w' = W) := fun W hW => by
                  have := HHAS0.out W (strOf v) hW; rwa [hhb] at this
                generalize strOf v = t at *
                clear hhb HHAS0
                have hwr : IntKind.i64.wrap (q : Int) = (q : Int) := by rw [IntKind.wrap_i64]; omega
                refine wp_region_held_drew (S := (fun w' => w'.cell? ⟨w.heap.size, 0, none⟩ = some (.slice (some ad) n c))) (by kernel_rfl) ?_ (fun hHeld => ?_)
                · exact c0
                refine wpAnyH_take (i := 0) (v := .string s) (by rw [List.getElem?_toArray]; rfl) (by kernel_rfl) (by kernel_rfl) (by kernel_rfl) (by exact fun _ _ _ h => h) (Or.inl ⟨by rfl, fun w hSw => by (try dsimp only at hSw); go_simp⟩) (by assumption) ?_
                try simp only [Act.put, List.setIfInBounds_toArray, List.set_cons_zero, List.set_cons_succ]
                refine wpAnyH_take (i := 1) (v := .int .i64 ((q : Int) + 1)) (by rw [List.getElem?_toArray]; rfl) (by kernel_rfl) (by kernel_rfl) (by kernel_rfl) (by exact fun _ _ _ h => h) (Or.inl ⟨by rfl, fun w hSw => by (try dsimp only at hSw); go_simp⟩) (by assumption) ?_
                try simp only [Act.put, List.setIfInBounds_toArray, List.set_cons_zero, List.set_cons_succ]
                refine wpAnyH_take (i := 2) (v := .bool true) (by rw [List.getElem?_toArray]; rfl) (by kernel_rfl) (by kernel_rfl) (by kernel_rfl) (by exact fun _ _ _ h => h) (Or.inl ⟨by rfl, fun w hSw => by (try dsimp only at hSw); go_simp⟩) (by assumption) ?_
                try simp only [Act.put, List.setIfInBounds_toArray, List.set_cons_zero, List.set_cons_succ]
                refine wpAnyH_take (i := 3) (v := .bool true) (by rw [List.getElem?_toArray]; rfl) (by kernel_rfl) (by kernel_rfl) (by kernel_rfl) (by exact fun _ _ _ h => h) (Or.inl ⟨by rfl, fun w hSw => by (try dsimp only at hSw); go_simp⟩) (by assumption) ?_
                try simp only [Act.put, List.setIfInBounds_toArray, List.set_cons_zero, List.set_cons_succ]
                refine wpAnyH_take (i := 4) (v := .pointer (some ⟨w.heap.size, 0, none⟩)) (by rw [List.getElem?_toArray]; rfl) (by kernel_rfl) (by kernel_rfl) (by kernel_rfl) (by exact fun _ _ _ h => h) (Or.inl ⟨by rfl, fun w hSw => by (try dsimp only at hSw); go_simp⟩) (by assumption) ?_
                try simp only [Act.put, List.setIfInBounds_toArray, List.set_cons_zero, List.set_cons_succ]
                refine wpAnyH_take (i := 5) (v := .slice (some ad) n c) (by rw [List.getElem?_toArray]; rfl) (by kernel_rfl) (by kernel_rfl) (by kernel_rfl) (by exact fun _ _ _ h => h) (Or.inl ⟨by rfl, fun w hSw => by (try dsimp only at hSw); go_simp⟩) (by assumption) ?_
                try simp only [Act.put, List.setIfInBounds_toArray, List.set_cons_zero, List.set_cons_succ]
                refine wpAnyH_take (i := 6) (v := .string s) (by rw [List.getElem?_toArray]; rfl) (by kernel_rfl) (by kernel_rfl) (by kernel_rfl) (by exact fun _ _ _ h => h) (Or.inl ⟨by rfl, fun w hSw => by (try dsimp only at hSw); go_simp⟩) (by assumption) ?_
                try simp only [Act.put, List.setIfInBounds_toArray, List.set_cons_zero, List.set_cons_succ]
                refine wpAnyH_take (i := 7) (v := .string s) (by rw [List.getElem?_toArray]; rfl) (by kernel_rfl) (by kernel_rfl) (by kernel_rfl) (by exact fun _ _ _ h => h) (Or.inl ⟨by rfl, fun w hSw => by (try dsimp only at hSw); go_simp⟩) (by assumption) ?_
                try simp only [Act.put, List.setIfInBounds_toArray, List.set_cons_zero, List.set_cons_succ]
                refine wpAnyH_take (i := 8) (v := .int .i64 ((q : Int) + 1)) (by rw [List.getElem?_toArray]; rfl) (by kernel_rfl) (by kernel_rfl) (by kernel_rfl) (by exact fun _ _ _ h => h) (Or.inl ⟨by rfl, fun w hSw => by (try dsimp only at hSw); go_simp⟩) (by assumption) ?_
                try simp only [Act.put, List.setIfInBounds_toArray, List.set_cons_zero, List.set_cons_succ]
                refine wpAnyH_take (i := 9) (v := .int .i64 (q : Int)) (by rw [List.getElem?_toArray]; rfl) (by kernel_rfl) (by kernel_rfl) (by kernel_rfl) (by exact fun _ _ _ h => h) (Or.inl ⟨by rfl, fun w hSw => by (try dsimp only at hSw); go_simp⟩) (by assumption) ?_
                try simp only [Act.put, List.setIfInBounds_toArray, List.set_cons_zero, List.set_cons_succ]
                refine wpAnyH_take (i := 10) (v := .string t) (by rw [List.getElem?_toArray]; rfl) (by kernel_rfl) (by kernel_rfl) (by kernel_rfl) (by exact fun _ _ _ h => h) (Or.inl ⟨by rfl, fun w hSw => by (try dsimp only at hSw); go_simp⟩) (by assumption) ?_
                try simp only [Act.put, List.setIfInBounds_toArray, List.set_cons_zero, List.set_cons_succ]
                refine wpAnyH_ready (rs := [11]) (by kernel_rfl) (by simp) ?_
                refine AllReadyH.cons (o := _) (by rw [List.getElem?_toArray]; rfl) (fun K hK => ?_) AllReadyH.nil
                go_simp
                refine (HHAS.out _ ?_).mono ?_
                · exact below_drew' hB2
                rintro e' V1 ⟨rfl, rfl⟩
                refine hK.out _ _ ?_ (fun hHeld11 => ?_)
                · exact c0
                clear hK K
                try simp only [Act.put, List.setIfInBounds_toArray, List.set_cons_zero, List.set_cons_succ]
                refine wpAnyH_take (i := 12) (v := .bool false) (by rw [List.getElem?_toArray]; rfl) (by kernel_rfl) (by kernel_rfl) (by kernel_rfl) (by exact fun _ _ _ h => h) (Or.inl ⟨by rfl, fun w hSw => by (try dsimp only at hSw); go_simp⟩) (by assumption) ?_
                try simp only [Act.put, List.setIfInBounds_toArray, List.set_cons_zero, List.set_cons_succ]
                refine wpAnyH_take (i := 13) (v := .bool false) (by rw [List.getElem?_toArray]; rfl) (by kernel_rfl) (by kernel_rfl) (by kernel_rfl) (by exact fun _ _ _ h => h) (Or.inl ⟨by rfl, fun w hSw => by (try dsimp only at hSw); go_simp⟩) (by assumption) ?_
                try simp only [Act.put, List.setIfInBounds_toArray, List.set_cons_zero, List.set_cons_succ]
                refine wpAnyH_done (by kernel_rfl) ?_ _
                clear hHeld hwr
                have hB3 := hB2.drew
                generalize w2.drew = wd at *
                go_wp2
                go_roundw
                case rel => exact ⟨k + 1, S ++ [d :: v], by omega, by go_num, hB3, HTP2.out⟩
                case measure => simp [intOf]; omega
          · obtain ⟨p, hp⟩ : ∃ p, k = p + 1 := ⟨k - 1, by omega⟩
            obtain ⟨v0, hv0, hv1⟩ := Tpr.last (p := p) (by rw [← hp]; exact HTP.out) (by have := HNL.out; omega)
            obtain ⟨ad', s', e1, hab', hs', hc'⟩ := (HRS.out wr hB).1.at_ (show p < n by omega)
            cases e1
            rw [hv1] at hs'
            injection hs' with hs'
            have hk0i : ((0 : Int) < (k : Int)) := by omega
            have hkp : (k : Int) - 1 = (p : Int) := by omega
            have hpn : (p : Int) < (n : Int) := by omega
            have HLS2 := Lib.hid (fun W : World => HLS.out v0 W)
            cases hlo : ltOf leL v0 u with
            | false =>
              have HNO : Hid (¬ TinQ ss e) := no_ord hv1 (by rw [← hp, HSTR.out]; exact HSE.out) hlo
              rw [hlo, hs'] at HLS2
              clear hlo hv0 hv1 hk0 HLS hp
              go_wp2_with fail
              refine HW.out.mono ?_
              rintro e' w1 ⟨rfl, rfl⟩
              go_wp2_with fail
              refine HRE.out.mono ?_
              rintro e' w2 ⟨rfl, hb2⟩
              have hB2 := hB.trans (hb2.mono (bsz hB))
              have c0 := (HRS.out w2 hB2).2.1
              have hc2 := (hb2.cell (p := ad.add p) (by rw [block_of_add]; exact hab')).trans hc'
              clear hb2 hB hc0 hc1 hc hc' HW HRE
              go_wp2_with fail
              refine (HLS2.out _).mono ?_
              rintro e' w3 ⟨rfl, rfl⟩
              go_wp2
              go_ret
              exact ⟨false, rfl, no_iff HNO.out, HB0.out.trans (hB2.mono (by omega))⟩
            | true =>
              have HLAST : Hid (∀ v, S.getLast? = some v → ltW v u) := fun v hv => by
                rw [hv0] at hv; cases hv; exact (ltOf_leL _ _).1 hlo
              rw [hlo, hs'] at HLS2
              rw [← HSTR.out] at HSE
              clear hlo hv0 hv1 hk0 HLS hp
              go_wp2_with fail
              refine HW.out.mono ?_
              rintro e' w1 ⟨rfl, rfl⟩
              go_wp2_with fail
              refine HRE.out.mono ?_
              rintro e' w2 ⟨rfl, hb2⟩
              have hB2 := hB.trans (hb2.mono (bsz hB))
              have c0 := (HRS.out w2 hB2).2.1
              have hc2 := (hb2.cell (p := ad.add p) (by rw [block_of_add]; exact hab')).trans hc'
              clear hb2 hB hc0 hc1 hc hc' HW HRE
              go_wp2_with fail
              refine (HLS2.out _).mono ?_
              rintro e' w3 ⟨rfl, rfl⟩
              clear HLS2 hc2
              go_wp2_with fail
              cases u with
              | nil =>
                have hs0 : s.size = 0 := HSZ.out
                have HTP2 : Hid (Tpr ss (k + 1) (S ++ [[]])) := HTP.out.step (HSE.out) rdc_nil (by simp) HLAST.out (fun _ _ h => by cases h)
                refine wp_region_held_drew (S := (fun _ => True)) (by kernel_rfl) ?_ (fun hHeld => ?_)
                · exact trivial
                refine wpAnyH_take (i := 0) (v := .string s) (by rw [List.getElem?_toArray]; rfl) (by kernel_rfl) (by kernel_rfl) (by kernel_rfl) (by exact fun _ _ _ h => h) (Or.inl ⟨by rfl, fun w hSw => by (try dsimp only at hSw); go_simp⟩) (by assumption) ?_
                try simp only [Act.put, List.setIfInBounds_toArray, List.set_cons_zero, List.set_cons_succ]
                refine wpAnyH_take (i := 1) (v := .int .i64 0) (by rw [List.getElem?_toArray]; rfl) (by kernel_rfl) (by kernel_rfl) (by kernel_rfl) (by exact fun _ _ _ h => h) (Or.inl ⟨by rfl, fun w hSw => by (try dsimp only at hSw); go_simp⟩) (by assumption) ?_
                try simp only [Act.put, List.setIfInBounds_toArray, List.set_cons_zero, List.set_cons_succ]
                refine wpAnyH_take (i := 2) (v := .bool false) (by rw [List.getElem?_toArray]; rfl) (by kernel_rfl) (by kernel_rfl) (by kernel_rfl) (by exact fun _ _ _ h => h) (Or.inl ⟨by rfl, fun w hSw => by (try dsimp only at hSw); go_simp⟩) (by assumption) ?_
                try simp only [Act.put, List.setIfInBounds_toArray, List.set_cons_zero, List.set_cons_succ]
                refine wpAnyH_take (i := 3) (v := .bool false) (by rw [List.getElem?_toArray]; rfl) (by kernel_rfl) (by kernel_rfl) (by kernel_rfl) (by exact fun _ _ _ h => h) (Or.inl ⟨by rfl, fun w hSw => by (try dsimp only at hSw); go_simp⟩) (by assumption) ?_
                try simp only [Act.put, List.setIfInBounds_toArray, List.set_cons_zero, List.set_cons_succ]
                refine wpAnyH_take (i := 4) (v := undef) (by rw [List.getElem?_toArray]; rfl) (by kernel_rfl) (by kernel_rfl) (by kernel_rfl) (by exact fun _ _ _ h => h) (Or.inr ⟨by kernel_rfl, rfl⟩) (by assumption) ?_
                try simp only [Act.put, List.setIfInBounds_toArray, List.set_cons_zero, List.set_cons_succ]
                refine wpAnyH_take (i := 5) (v := undef) (by rw [List.getElem?_toArray]; rfl) (by kernel_rfl) (by kernel_rfl) (by kernel_rfl) (by exact fun _ _ _ h => h) (Or.inr ⟨by kernel_rfl, rfl⟩) (by assumption) ?_
                try simp only [Act.put, List.setIfInBounds_toArray, List.set_cons_zero, List.set_cons_succ]
                refine wpAnyH_take (i := 6) (v := undef) (by rw [List.getElem?_toArray]; rfl) (by kernel_rfl) (by kernel_rfl) (by kernel_rfl) (by exact fun _ _ _ h => h) (Or.inr ⟨by kernel_rfl, rfl⟩) (by assumption) ?_
                try simp only [Act.put, List.setIfInBounds_toArray, List.set_cons_zero, List.set_cons_succ]
                refine wpAnyH_take (i := 7) (v := undef) (by rw [List.getElem?_toArray]; rfl) (by kernel_rfl) (by kernel_rfl) (by kernel_rfl) (by exact fun _ _ _ h => h) (Or.inr ⟨by kernel_rfl, rfl⟩) (by assumption) ?_
                try simp only [Act.put, List.setIfInBounds_toArray, List.set_cons_zero, List.set_cons_succ]
                refine wpAnyH_take (i := 8) (v := undef) (by rw [List.getElem?_toArray]; rfl) (by kernel_rfl) (by kernel_rfl) (by kernel_rfl) (by exact fun _ _ _ h => h) (Or.inr ⟨by kernel_rfl, rfl⟩) (by assumption) ?_
                try simp only [Act.put, List.setIfInBounds_toArray, List.set_cons_zero, List.set_cons_succ]
                refine wpAnyH_take (i := 9) (v := undef) (by rw [List.getElem?_toArray]; rfl) (by kernel_rfl) (by kernel_rfl) (by kernel_rfl) (by exact fun _ _ _ h => h) (Or.inr ⟨by kernel_rfl, rfl⟩) (by assumption) ?_
                try simp only [Act.put, List.setIfInBounds_toArray, List.set_cons_zero, List.set_cons_succ]
                refine wpAnyH_take (i := 10) (v := undef) (by rw [List.getElem?_toArray]; rfl) (by kernel_rfl) (by kernel_rfl) (by kernel_rfl) (by exact fun _ _ _ h => h) (Or.inr ⟨by kernel_rfl, rfl⟩) (by assumption) ?_
                try simp only [Act.put, List.setIfInBounds_toArray, List.set_cons_zero, List.set_cons_succ]
                refine wpAnyH_take (i := 11) (v := undef) (by rw [List.getElem?_toArray]; rfl) (by kernel_rfl) (by kernel_rfl) (by kernel_rfl) (by exact fun _ _ _ h => h) (Or.inr ⟨by kernel_rfl, rfl⟩) (by assumption) ?_
                try simp only [Act.put, List.setIfInBounds_toArray, List.set_cons_zero, List.set_cons_succ]
                refine wpAnyH_take (i := 12) (v := undef) (by rw [List.getElem?_toArray]; rfl) (by kernel_rfl) (by kernel_rfl) (by kernel_rfl) (by exact fun _ _ _ h => h) (Or.inr ⟨by kernel_rfl, rfl⟩) (by assumption) ?_
                try simp only [Act.put, List.setIfInBounds_toArray, List.set_cons_zero, List.set_cons_succ]
                refine wpAnyH_take (i := 13) (v := .bool false) (by rw [List.getElem?_toArray]; rfl) (by kernel_rfl) (by kernel_rfl) (by kernel_rfl) (by exact fun _ _ _ h => h) (Or.inl ⟨by rfl, fun w hSw => by (try dsimp only at hSw); go_simp⟩) (by assumption) ?_
                try simp only [Act.put, List.setIfInBounds_toArray, List.set_cons_zero, List.set_cons_succ]
                refine wpAnyH_done (by kernel_rfl) ?_ _
                clear hHeld
                have hB3 := hB2.drew
                generalize w3.drew = wd at *
                go_wp2
                go_roundw
                case rel => exact ⟨k + 1, S ++ [[]], by omega, by go_num, hB3, HTP2.out⟩
                case measure => simp [intOf]; omega
              | cons d v =>
                obtain ⟨q, hq⟩ : ∃ q, v.length = q := ⟨_, rfl⟩
                have hsq : (s.size : Int) = (q : Int) + 1 := by have := HSZ.out; rw [List.length_cons, hq] at this; omega
                have hsl : ∀ W : World, (Instr.slice 9 (.string s) none (some (.int .i64 (q : Int))) none).run Tryd.prog W = .ok (.string (strOf v)) W := fun W => by
                  rw [run_slice_string_to_if W 9 s .i64 (q : Int) Tryd.underlying9, if_pos (by omega)]
                  have hc := strOf_cut d v
                  rw [HSTR.out, hq] at hc
                  rw [Int.toNat_natCast, hc]
                cases hhb : hasB ss (strOf v) with
                | false =>
                  have HNO : Hid (¬ TinQ ss e) := no_cl (c := d) (u := v) (by rw [HSTR.out]; exact HMEM.out) (hasB_no.1 hhb)
                  have HHAS : Hid (∀ W : World, RowKit.Below (w.heap.size + 1) (w.alloc (.cells #[.slice (some ad) n c, .string e] 29)) W → Calls Tryd.prog 56 #[.slice (some ad) n c, .string (strOf v)] W fun e' w' => e' = .returned (.bool false) ∧ w' = W) := fun W hW => by
                    have := HHAS0.out W (strOf v) hW; rwa [hhb] at this
                  generalize strOf v = t at *
                  clear hhb HHAS0
                  have hwr : IntKind.i64.wrap (q : Int) = (q : Int) := by rw [IntKind.wrap_i64]; omega
                  refine wp_region_held_drew (S := (fun w' => w'.cell? ⟨w.heap.size, 0, none⟩ = some (.slice (some ad) n c))) (by kernel_rfl) ?_ (fun hHeld => ?_)
                  · exact c0
                  refine wpAnyH_take (i := 0) (v := .string s) (by rw [List.getElem?_toArray]; rfl) (by kernel_rfl) (by kernel_rfl) (by kernel_rfl) (by exact fun _ _ _ h => h) (Or.inl ⟨by rfl, fun w hSw => by (try dsimp only at hSw); go_simp⟩) (by assumption) ?_
                  try simp only [Act.put, List.setIfInBounds_toArray, List.set_cons_zero, List.set_cons_succ]
                  refine wpAnyH_take (i := 1) (v := .int .i64 ((q : Int) + 1)) (by rw [List.getElem?_toArray]; rfl) (by kernel_rfl) (by kernel_rfl) (by kernel_rfl) (by exact fun _ _ _ h => h) (Or.inl ⟨by rfl, fun w hSw => by (try dsimp only at hSw); go_simp⟩) (by assumption) ?_
                  try simp only [Act.put, List.setIfInBounds_toArray, List.set_cons_zero, List.set_cons_succ]
                  refine wpAnyH_take (i := 2) (v := .bool true) (by rw [List.getElem?_toArray]; rfl) (by kernel_rfl) (by kernel_rfl) (by kernel_rfl) (by exact fun _ _ _ h => h) (Or.inl ⟨by rfl, fun w hSw => by (try dsimp only at hSw); go_simp⟩) (by assumption) ?_
                  try simp only [Act.put, List.setIfInBounds_toArray, List.set_cons_zero, List.set_cons_succ]
                  refine wpAnyH_take (i := 3) (v := .bool true) (by rw [List.getElem?_toArray]; rfl) (by kernel_rfl) (by kernel_rfl) (by kernel_rfl) (by exact fun _ _ _ h => h) (Or.inl ⟨by rfl, fun w hSw => by (try dsimp only at hSw); go_simp⟩) (by assumption) ?_
                  try simp only [Act.put, List.setIfInBounds_toArray, List.set_cons_zero, List.set_cons_succ]
                  refine wpAnyH_take (i := 4) (v := .pointer (some ⟨w.heap.size, 0, none⟩)) (by rw [List.getElem?_toArray]; rfl) (by kernel_rfl) (by kernel_rfl) (by kernel_rfl) (by exact fun _ _ _ h => h) (Or.inl ⟨by rfl, fun w hSw => by (try dsimp only at hSw); go_simp⟩) (by assumption) ?_
                  try simp only [Act.put, List.setIfInBounds_toArray, List.set_cons_zero, List.set_cons_succ]
                  refine wpAnyH_take (i := 5) (v := .slice (some ad) n c) (by rw [List.getElem?_toArray]; rfl) (by kernel_rfl) (by kernel_rfl) (by kernel_rfl) (by exact fun _ _ _ h => h) (Or.inl ⟨by rfl, fun w hSw => by (try dsimp only at hSw); go_simp⟩) (by assumption) ?_
                  try simp only [Act.put, List.setIfInBounds_toArray, List.set_cons_zero, List.set_cons_succ]
                  refine wpAnyH_take (i := 6) (v := .string s) (by rw [List.getElem?_toArray]; rfl) (by kernel_rfl) (by kernel_rfl) (by kernel_rfl) (by exact fun _ _ _ h => h) (Or.inl ⟨by rfl, fun w hSw => by (try dsimp only at hSw); go_simp⟩) (by assumption) ?_
                  try simp only [Act.put, List.setIfInBounds_toArray, List.set_cons_zero, List.set_cons_succ]
                  refine wpAnyH_take (i := 7) (v := .string s) (by rw [List.getElem?_toArray]; rfl) (by kernel_rfl) (by kernel_rfl) (by kernel_rfl) (by exact fun _ _ _ h => h) (Or.inl ⟨by rfl, fun w hSw => by (try dsimp only at hSw); go_simp⟩) (by assumption) ?_
                  try simp only [Act.put, List.setIfInBounds_toArray, List.set_cons_zero, List.set_cons_succ]
                  refine wpAnyH_take (i := 8) (v := .int .i64 ((q : Int) + 1)) (by rw [List.getElem?_toArray]; rfl) (by kernel_rfl) (by kernel_rfl) (by kernel_rfl) (by exact fun _ _ _ h => h) (Or.inl ⟨by rfl, fun w hSw => by (try dsimp only at hSw); go_simp⟩) (by assumption) ?_
                  try simp only [Act.put, List.setIfInBounds_toArray, List.set_cons_zero, List.set_cons_succ]
                  refine wpAnyH_take (i := 9) (v := .int .i64 (q : Int)) (by rw [List.getElem?_toArray]; rfl) (by kernel_rfl) (by kernel_rfl) (by kernel_rfl) (by exact fun _ _ _ h => h) (Or.inl ⟨by rfl, fun w hSw => by (try dsimp only at hSw); go_simp⟩) (by assumption) ?_
                  try simp only [Act.put, List.setIfInBounds_toArray, List.set_cons_zero, List.set_cons_succ]
                  refine wpAnyH_take (i := 10) (v := .string t) (by rw [List.getElem?_toArray]; rfl) (by kernel_rfl) (by kernel_rfl) (by kernel_rfl) (by exact fun _ _ _ h => h) (Or.inl ⟨by rfl, fun w hSw => by (try dsimp only at hSw); go_simp⟩) (by assumption) ?_
                  try simp only [Act.put, List.setIfInBounds_toArray, List.set_cons_zero, List.set_cons_succ]
                  refine wpAnyH_ready (rs := [11]) (by kernel_rfl) (by simp) ?_
                  refine AllReadyH.cons (o := _) (by rw [List.getElem?_toArray]; rfl) (fun K hK => ?_) AllReadyH.nil
                  go_simp
                  refine (HHAS.out _ ?_).mono ?_
                  · exact below_drew' hB2
                  rintro e' V1 ⟨rfl, rfl⟩
                  refine hK.out _ _ ?_ (fun hHeld11 => ?_)
                  · exact c0
                  clear hK K
                  try simp only [Act.put, List.setIfInBounds_toArray, List.set_cons_zero, List.set_cons_succ]
                  refine wpAnyH_take (i := 12) (v := .bool true) (by rw [List.getElem?_toArray]; rfl) (by kernel_rfl) (by kernel_rfl) (by kernel_rfl) (by exact fun _ _ _ h => h) (Or.inl ⟨by rfl, fun w hSw => by (try dsimp only at hSw); go_simp⟩) (by assumption) ?_
                  try simp only [Act.put, List.setIfInBounds_toArray, List.set_cons_zero, List.set_cons_succ]
                  refine wpAnyH_take (i := 13) (v := .bool true) (by rw [List.getElem?_toArray]; rfl) (by kernel_rfl) (by kernel_rfl) (by kernel_rfl) (by exact fun _ _ _ h => h) (Or.inl ⟨by rfl, fun w hSw => by (try dsimp only at hSw); go_simp⟩) (by assumption) ?_
                  try simp only [Act.put, List.setIfInBounds_toArray, List.set_cons_zero, List.set_cons_succ]
                  refine wpAnyH_done (by kernel_rfl) ?_ _
                  clear hHeld hwr
                  have hB3 := hB2.drew
                  generalize w3.drew = wd at *
                  go_wp2
                  go_ret
                  exact ⟨false, rfl, no_iff HNO.out, HB0.out.trans (hB3.mono (by omega))⟩
                | true =>
                  have HTP2 : Hid (Tpr ss (k + 1) (S ++ [d :: v])) := HTP.out.step (HSE.out) HRD.out HL24.out HLAST.out (fun _ _ h => by cases h; exact hasB_iff.1 hhb)
                  have HHAS : Hid (∀ W : World, RowKit.Below (w.heap.size + 1) (w.alloc (.cells #[.slice (some ad) n c, .string e] 29)) W → Calls Tryd.prog 56 #[.slice (some ad) n c, .string (strOf v)] W fun e' w' => e' = .returned (.bool true) ∧ w' = W) := fun W hW => by
                    have := HHAS0.out W (strOf v) hW; rwa [hhb] at this
                  generalize strOf v = t at *
                  clear hhb HHAS0
                  have hwr : IntKind.i64.wrap (q : Int) = (q : Int) := by rw [IntKind.wrap_i64]; omega
                  refine wp_region_held_drew (S := (fun w' => w'.cell? ⟨w.heap.size, 0, none⟩ = some (.slice (some ad) n c))) (by kernel_rfl) ?_ (fun hHeld => ?_)
                  · exact c0
                  refine wpAnyH_take (i := 0) (v := .string s) (by rw [List.getElem?_toArray]; rfl) (by kernel_rfl) (by kernel_rfl) (by kernel_rfl) (by exact fun _ _ _ h => h) (Or.inl ⟨by rfl, fun w hSw => by (try dsimp only at hSw); go_simp⟩) (by assumption) ?_
                  try simp only [Act.put, List.setIfInBounds_toArray, List.set_cons_zero, List.set_cons_succ]
                  refine wpAnyH_take (i := 1) (v := .int .i64 ((q : Int) + 1)) (by rw [List.getElem?_toArray]; rfl) (by kernel_rfl) (by kernel_rfl) (by kernel_rfl) (by exact fun _ _ _ h => h) (Or.inl ⟨by rfl, fun w hSw => by (try dsimp only at hSw); go_simp⟩) (by assumption) ?_
                  try simp only [Act.put, List.setIfInBounds_toArray, List.set_cons_zero, List.set_cons_succ]
                  refine wpAnyH_take (i := 2) (v := .bool true) (by rw [List.getElem?_toArray]; rfl) (by kernel_rfl) (by kernel_rfl) (by kernel_rfl) (by exact fun _ _ _ h => h) (Or.inl ⟨by rfl, fun w hSw => by (try dsimp only at hSw); go_simp⟩) (by assumption) ?_
                  try simp only [Act.put, List.setIfInBounds_toArray, List.set_cons_zero, List.set_cons_succ]
                  refine wpAnyH_take (i := 3) (v := .bool true) (by rw [List.getElem?_toArray]; rfl) (by kernel_rfl) (by kernel_rfl) (by kernel_rfl) (by exact fun _ _ _ h => h) (Or.inl ⟨by rfl, fun w hSw => by (try dsimp only at hSw); go_simp⟩) (by assumption) ?_
                  try simp only [Act.put, List.setIfInBounds_toArray, List.set_cons_zero, List.set_cons_succ]
                  refine wpAnyH_take (i := 4) (v := .pointer (some ⟨w.heap.size, 0, none⟩)) (by rw [List.getElem?_toArray]; rfl) (by kernel_rfl) (by kernel_rfl) (by kernel_rfl) (by exact fun _ _ _ h => h) (Or.inl ⟨by rfl, fun w hSw => by (try dsimp only at hSw); go_simp⟩) (by assumption) ?_
                  try simp only [Act.put, List.setIfInBounds_toArray, List.set_cons_zero, List.set_cons_succ]
                  refine wpAnyH_take (i := 5) (v := .slice (some ad) n c) (by rw [List.getElem?_toArray]; rfl) (by kernel_rfl) (by kernel_rfl) (by kernel_rfl) (by exact fun _ _ _ h => h) (Or.inl ⟨by rfl, fun w hSw => by (try dsimp only at hSw); go_simp⟩) (by assumption) ?_
                  try simp only [Act.put, List.setIfInBounds_toArray, List.set_cons_zero, List.set_cons_succ]
                  refine wpAnyH_take (i := 6) (v := .string s) (by rw [List.getElem?_toArray]; rfl) (by kernel_rfl) (by kernel_rfl) (by kernel_rfl) (by exact fun _ _ _ h => h) (Or.inl ⟨by rfl, fun w hSw => by (try dsimp only at hSw); go_simp⟩) (by assumption) ?_
                  try simp only [Act.put, List.setIfInBounds_toArray, List.set_cons_zero, List.set_cons_succ]
                  refine wpAnyH_take (i := 7) (v := .string s) (by rw [List.getElem?_toArray]; rfl) (by kernel_rfl) (by kernel_rfl) (by kernel_rfl) (by exact fun _ _ _ h => h) (Or.inl ⟨by rfl, fun w hSw => by (try dsimp only at hSw); go_simp⟩) (by assumption) ?_
                  try simp only [Act.put, List.setIfInBounds_toArray, List.set_cons_zero, List.set_cons_succ]
                  refine wpAnyH_take (i := 8) (v := .int .i64 ((q : Int) + 1)) (by rw [List.getElem?_toArray]; rfl) (by kernel_rfl) (by kernel_rfl) (by kernel_rfl) (by exact fun _ _ _ h => h) (Or.inl ⟨by rfl, fun w hSw => by (try dsimp only at hSw); go_simp⟩) (by assumption) ?_
                  try simp only [Act.put, List.setIfInBounds_toArray, List.set_cons_zero, List.set_cons_succ]
                  refine wpAnyH_take (i := 9) (v := .int .i64 (q : Int)) (by rw [List.getElem?_toArray]; rfl) (by kernel_rfl) (by kernel_rfl) (by kernel_rfl) (by exact fun _ _ _ h => h) (Or.inl ⟨by rfl, fun w hSw => by (try dsimp only at hSw); go_simp⟩) (by assumption) ?_
                  try simp only [Act.put, List.setIfInBounds_toArray, List.set_cons_zero, List.set_cons_succ]
                  refine wpAnyH_take (i := 10) (v := .string t) (by rw [List.getElem?_toArray]; rfl) (by kernel_rfl) (by kernel_rfl) (by kernel_rfl) (by exact fun _ _ _ h => h) (Or.inl ⟨by rfl, fun w hSw => by (try dsimp only at hSw); go_simp⟩) (by assumption) ?_
                  try simp only [Act.put, List.setIfInBounds_toArray, List.set_cons_zero, List.set_cons_succ]
                  refine wpAnyH_ready (rs := [11]) (by kernel_rfl) (by simp) ?_
                  refine AllReadyH.cons (o := _) (by rw [List.getElem?_toArray]; rfl) (fun K hK => ?_) AllReadyH.nil
                  go_simp
                  refine (HHAS.out _ ?_).mono ?_
                  · exact below_drew' hB2
                  rintro e' V1 ⟨rfl, rfl⟩
                  refine hK.out _ _ ?_ (fun hHeld11 => ?_)
                  · exact c0
                  clear hK K
                  try simp only [Act.put, List.setIfInBounds_toArray, List.set_cons_zero, List.set_cons_succ]
                  refine wpAnyH_take (i := 12) (v := .bool false) (by rw [List.getElem?_toArray]; rfl) (by kernel_rfl) (by kernel_rfl) (by kernel_rfl) (by exact fun _ _ _ h => h) (Or.inl ⟨by rfl, fun w hSw => by (try dsimp only at hSw); go_simp⟩) (by assumption) ?_
                  try simp only [Act.put, List.setIfInBounds_toArray, List.set_cons_zero, List.set_cons_succ]
                  refine wpAnyH_take (i := 13) (v := .bool false) (by rw [List.getElem?_toArray]; rfl) (by kernel_rfl) (by kernel_rfl) (by kernel_rfl) (by exact fun _ _ _ h => h) (Or.inl ⟨by rfl, fun w hSw => by (try dsimp only at hSw); go_simp⟩) (by assumption) ?_
                  try simp only [Act.put, List.setIfInBounds_toArray, List.set_cons_zero, List.set_cons_succ]
                  refine wpAnyH_done (by kernel_rfl) ?_ _
                  clear hHeld hwr
                  have hB3 := hB2.drew
                  generalize w3.drew = wd at *
                  go_wp2
                  go_roundw
                  case rel => exact ⟨k + 1, S ++ [d :: v], by omega, by go_num, hB3, HTP2.out⟩
                  case measure => simp [intOf]; omega
        · have HNO : Hid (¬ TinQ ss e) := no_red HMEM.out hr
          have hne : ((strOf (redS ws)).toList == (txt ws).toList) = false := by
            rw [beq_str, decide_eq_false]
            intro h
            rw [strOf_txt] at h
            exact hr (by have := congrArg List.reverse (txt_inj h); rwa [List.reverse_reverse] at this)
          clear hr
          generalize strOf (redS ws) = r at *
          generalize txt ws = s at *
          go_wp2_with fail
          refine HW.out.mono ?_
          rintro e' w1 ⟨rfl, rfl⟩
          go_wp2_with fail
          refine HRE.out.mono ?_
          rintro e' w2 ⟨rfl, hb2⟩
          have hB2 := hB.trans (hb2.mono (bsz hB))
          clear hb2
          go_wp2
          go_ret
          exact ⟨false, rfl, no_iff HNO.out, HB0.out.trans (hB2.mono (by omega))⟩
    · obtain rfl : k = n := by omega
      have HYES : Hid (TinQ ss e) := Tpr.done (by rw [HNL.out]; exact HTP.out) HEM.out (by have := H60.out; have := HNL.out; omega) (by have := H60.out; have := HNL.out; omega)
      clear hrs
      go_wp2
      go_ret
      exact ⟨true, rfl, ⟨fun _ => HYES.out, fun _ => rfl⟩, HB0.out.trans (hB.mono (by omega))⟩
end

end Go.Proofs.YtlcjgppclclkoaaDoor
