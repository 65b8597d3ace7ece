/-
  Tbl.
-/
import Derived.Deep.RegionHeld3
import Derived.Test.YtlfbocmcbkcfhaaDoorUC
namespace Go.Proofs.YtlfbocmcbkcfhaaDoor
set_option maxRecDepth 100000
set_option linter.unusedVariables false
set_option linter.unusedSimpArgs false
set_option linter.unusedSectionVars false

/-! spec.TreeBelow, impl.TreeBelow. -/
section
open Go.RowKit Go.Lib Go.Sort

def BelQ (zs ys : List ByteArray) (s t : ByteArray) : Prop := TinQ zs s ∧ TinQ ys t ∧ s = t ∧ ∀ y ∈ ys, y ∈ zs
set_option maxHeartbeats 4000000 in
theorem specBelow_any (A B : Option Addr) (n m c d : Nat) (zs ys : List ByteArray) (s t : ByteArray) (w : World) (h : RS w A n zs) (h' : RS w B m ys) (hn : n ≤ 1048576) (hm : m ≤ 1048576) (hl : ∀ x ∈ zs, x.size ≤ 1048576) (hl' : ∀ x ∈ ys, x.size ≤ 1048576) :
    Calls Tryd.prog 36 #[.agg #[.slice A n c, .string s], .agg #[.slice B m d, .string t]] w (AskPost (BelQ zs ys s t) w) := by
  have hB0 : RowKit.Below w.heap.size w ((w.alloc (.cells #[.slice A n c, .string s] 25)).alloc (.cells #[.slice B m d, .string t] 25)) := ((RowKit.Below.refl _ w).alloc (Nat.le_refl _) _).alloc (by simp) _
  have hA0 : Blk ((w.alloc (.cells #[.slice A n c, .string s] 25)).alloc (.cells #[.slice B m d, .string t] 25)) w.heap.size 25 #[.slice A n c, .string s] := (Blk.new w _ _).alloc _
  have hA1 : Blk ((w.alloc (.cells #[.slice A n c, .string s] 25)).alloc (.cells #[.slice B m d, .string t] 25)) (w.heap.size + 1) 25 #[.slice B m d, .string t] := by
    have := Blk.new (w.alloc (.cells #[.slice A n c, .string s] 25)) 25 #[.slice B m d, .string t]
    rwa [World.size_alloc] at this
  have hz : ((w.alloc (.cells #[.slice A n c, .string s] 25)).alloc (.cells #[.slice B m d, .string t] 25)).heap.size = w.heap.size + 1 + 1 := by simp
  have hF := specIn_any A n c zs s _ (h.below hB0) hn hl
  unfold AskPost at *
  rw [hz] at hF
  have HF := Lib.hid hF
  have HRS : Hid (∀ W : World, RowKit.Below (w.heap.size + 1 + 1) ((w.alloc (.cells #[.slice A n c, .string s] 25)).alloc (.cells #[.slice B m d, .string t] 25)) W → RS W A n zs ∧ RS W B m ys ∧ Blk W w.heap.size 25 #[.slice A n c, .string s] ∧ Blk W (w.heap.size + 1) 25 #[.slice B m d, .string t]) := fun W hW =>
    ⟨(h.below hB0).below (by rw [hz]; exact hW), (h'.below hB0).below (by rw [hz]; exact hW), hA0.below hW (by omega), hA1.below hW (by omega)⟩
  have HF2 : Hid (∀ W : World, RS W B m ys → Calls Tryd.prog 15 #[.agg #[.slice B m d, .string t]] W fun e' w' => ∃ b : Bool, e' = .returned (.bool b) ∧ (b = true ↔ TinQ ys t) ∧ RowKit.Below W.heap.size W w') := fun W hW => specIn_any B m d ys t W hW hm hl'
  have HB0 := Lib.hid hB0
  have HML := Lib.hid h'.len
  have heq := beq_str s t
  clear hB0 hA0 hA1 hz hF h h' hl hl'
  go_enter Tryd.func36, Tryd.ntmps36
  go_wp2_with fail
  refine HF.out.mono ?_
  rintro e' w1 ⟨b, rfl, hb, hB⟩
  cases b with
  | false =>
    have HNO : Hid (¬ BelQ zs ys s t) := fun h => Bool.noConfusion (hb.2 h.1)
    have HBE := Lib.hid (HB0.out.trans (hB.mono (by omega)))
    clear hb hB
    go_wp2
    go_ret
    exact ⟨false, rfl, no_iff HNO.out, HBE.out⟩
  | true =>
  have HT1 : Hid (TinQ zs s) := hb.1 rfl
  obtain ⟨hr1, hr2, hk1, hk2⟩ := HRS.out w1 hB
  have u0 : w1.cell? ⟨w.heap.size + 1, 0, none⟩ = some (.slice B m d) := hk2.cell 0
  have u1 : w1.cell? ⟨w.heap.size + 1, 1, none⟩ = some (.string t) := hk2.cell 1
  have ul := hk2.lt
  have HC2 := Lib.hid (HF2.out w1 hr2)
  clear hb hr1 hr2 hk1 hk2 HF HF2
  go_wp2_with fail
  refine HC2.out.mono ?_
  rintro e' w2 ⟨b2, rfl, hb2, hB2⟩
  have hB := hB.trans (hB2.mono ul)
  clear hB2 u0 u1 ul HC2
  cases b2 with
  | false =>
    have HNO : Hid (¬ BelQ zs ys s t) := fun h => Bool.noConfusion (hb2.2 h.2.1)
    have HBE := Lib.hid (HB0.out.trans (hB.mono (by omega)))
    clear hb2 hB
    go_wp2
    go_ret
    exact ⟨false, rfl, no_iff HNO.out, HBE.out⟩
  | true =>
  have HT2 : Hid (TinQ ys t) := hb2.1 rfl
  obtain ⟨hr1, hr2, hk1, hk2⟩ := HRS.out w2 hB
  have t0 : w2.cell? ⟨w.heap.size, 0, none⟩ = some (.slice A n c) := hk1.cell 0
  have t1 : w2.cell? ⟨w.heap.size, 1, none⟩ = some (.string s) := hk1.cell 1
  have u0 : w2.cell? ⟨w.heap.size + 1, 0, none⟩ = some (.slice B m d) := hk2.cell 0
  have u1 : w2.cell? ⟨w.heap.size + 1, 1, none⟩ = some (.string t) := hk2.cell 1
  clear hb2 hr1 hr2 hk1 hk2
  by_cases hst : s = t
  · rw [decide_eq_true hst] at heq
    have HST := Lib.hid hst
    clear hst
    go_wp2
    go_loopw [5] (fun i wr => ∃ k : Nat, k ≤ m ∧ i = .int .i64 (k : Int) ∧ RowKit.Below (w.heap.size + 1 + 1) ((w.alloc (.cells #[.slice A n c, .string s] 25)).alloc (.cells #[.slice B m d, .string t] 25)) wr ∧ Hid (∀ y ∈ ys.take k, y ∈ zs)) (fun i _ => m - (intOf i).toNat)
    case atStart => exact ⟨0, Nat.zero_le _, rfl, hB, Lib.hid (by simp)⟩
    case round =>
      clear hB t0 t1 u0 u1
      obtain ⟨k, hk, rfl, hB, HX⟩ := hrel
      obtain ⟨hr1, hr2, hk1, hk2⟩ := HRS.out wr hB
      have hu0 : wr.cell? ⟨w.heap.size + 1, 0, none⟩ = some (.slice B m d) := hk2.cell 0
      by_cases hlt : k < m
      · obtain ⟨ad, y, rfl, hab, hy, hc⟩ := hr2.at_ hlt
        have hki : (k : Int) < (m : Int) := by omega
        have HY := Lib.hid hy
        have c0 : wr.drew.cell? ⟨w.heap.size, 0, none⟩ = some (.slice A n c) := hk1.cell 0
        have c2 : wr.drew.cell? ⟨w.heap.size + 1, 0, none⟩ = some (.slice (some ad) m d) := hk2.cell 0
        have c4 : wr.drew.cell? (ad.add k) = some (.string y) := hc
        have HH0 : Hid (∀ W : World, RowKit.Below (w.heap.size + 1 + 1) ((w.alloc (.cells #[.slice A n c, .string s] 25)).alloc (.cells #[.slice (some ad) m d, .string t] 25)) W → Calls Tryd.prog 47 #[.slice A n c, .string y] W fun e' w' => e' = .returned (.bool (hasB zs y)) ∧ w' = W) := fun W hW => l4Has_any A n c zs y W (HRS.out W hW).1 hn
        clear hr1 hr2 hk1 hk2 hy hc
        cases hhb : hasB zs y with
        | false =>
          have HNO : Hid (¬ BelQ zs ys s t) := fun h => hasB_no.1 hhb (h.2.2.2 y (List.mem_of_getElem? HY.out))
          have HH := HH0
          rw [hhb] at HH
          clear hhb HH0
          go_wp2_with fail
          refine wp_region_held_drew (S := (fun w' => w'.cell? ⟨w.heap.size, 0, none⟩ = some (.slice A n c) ∧ w'.cell? ⟨w.heap.size + 1, 0, none⟩ = some (.slice (some ad) m d) ∧ w'.cell? (ad.add k) = some (.string y))) (by kernel_rfl) ?_ (fun hHeld => ?_)
          · exact ⟨c0, c2, c4⟩
          refine wpAnyH_take (i := 0) (v := .pointer (some ⟨w.heap.size, 0, none⟩)) (by rw [List.getElem?_toArray]; rfl) (by kernel_rfl) (by kernel_rfl) (by kernel_rfl) (by exact fun _ _ _ h => h) (Or.inl ⟨by rfl, fun w hSw => by (try dsimp only at hSw); go_simp⟩) (by assumption) ?_
          try simp only [Act.put, List.setIfInBounds_toArray, List.set_cons_zero, List.set_cons_succ]
          refine wpAnyH_take (i := 1) (v := .slice A n c) (by rw [List.getElem?_toArray]; rfl) (by kernel_rfl) (by kernel_rfl) (by kernel_rfl) (by exact fun _ _ _ h => h) (Or.inl ⟨by rfl, fun w hSw => by (try dsimp only at hSw); go_simp⟩) (by assumption) ?_
          try simp only [Act.put, List.setIfInBounds_toArray, List.set_cons_zero, List.set_cons_succ]
          refine wpAnyH_take (i := 2) (v := .pointer (some ⟨w.heap.size + 1, 0, none⟩)) (by rw [List.getElem?_toArray]; rfl) (by kernel_rfl) (by kernel_rfl) (by kernel_rfl) (by exact fun _ _ _ h => h) (Or.inl ⟨by rfl, fun w hSw => by (try dsimp only at hSw); go_simp⟩) (by assumption) ?_
          try simp only [Act.put, List.setIfInBounds_toArray, List.set_cons_zero, List.set_cons_succ]
          refine wpAnyH_take (i := 3) (v := .slice (some ad) m d) (by rw [List.getElem?_toArray]; rfl) (by kernel_rfl) (by kernel_rfl) (by kernel_rfl) (by exact fun _ _ _ h => h) (Or.inl ⟨by rfl, fun w hSw => by (try dsimp only at hSw); go_simp⟩) (by assumption) ?_
          try simp only [Act.put, List.setIfInBounds_toArray, List.set_cons_zero, List.set_cons_succ]
          refine wpAnyH_take (i := 4) (v := .int .i64 (k : Int)) (by rw [List.getElem?_toArray]; rfl) (by kernel_rfl) (by kernel_rfl) (by kernel_rfl) (by exact fun _ _ _ h => h) (Or.inl ⟨by rfl, fun w hSw => by (try dsimp only at hSw); go_simp⟩) (by assumption) ?_
          try simp only [Act.put, List.setIfInBounds_toArray, List.set_cons_zero, List.set_cons_succ]
          refine wpAnyH_take (i := 5) (v := .pointer (some (ad.add k))) (by rw [List.getElem?_toArray]; rfl) (by kernel_rfl) (by kernel_rfl) (by kernel_rfl) (by exact fun _ _ _ h => h) (Or.inl ⟨by rfl, fun w hSw => by (try dsimp only at hSw); go_simp⟩) (by assumption) ?_
          try simp only [Act.put, List.setIfInBounds_toArray, List.set_cons_zero, List.set_cons_succ]
          refine wpAnyH_take (i := 6) (v := .string y) (by rw [List.getElem?_toArray]; rfl) (by kernel_rfl) (by kernel_rfl) (by kernel_rfl) (by exact fun _ _ _ h => h) (Or.inl ⟨by rfl, fun w hSw => by (try dsimp only at hSw); go_simp⟩) (by assumption) ?_
          try simp only [Act.put, List.setIfInBounds_toArray, List.set_cons_zero, List.set_cons_succ]
          refine wpAnyH_ready (rs := [7]) (by kernel_rfl) (by simp) ?_
          refine AllReadyH.cons (o := _) (by rw [List.getElem?_toArray]; rfl) (fun K hK => ?_) AllReadyH.nil
          go_simp
          refine (HH.out _ ?_).mono ?_
          · exact hB.drew
          rintro e' w2 ⟨rfl, rfl⟩
          refine hK.out _ _ ?_ (fun hHeld7 => ?_)
          · exact ⟨c0, c2, c4⟩
          clear hK K
          try simp only [Act.put, List.setIfInBounds_toArray, List.set_cons_zero, List.set_cons_succ]
          refine wpAnyH_take (i := 8) (v := .bool true) (by rw [List.getElem?_toArray]; rfl) (by kernel_rfl) (by kernel_rfl) (by kernel_rfl) (by exact fun _ _ _ h => h) (Or.inl ⟨by rfl, fun w hSw => by (try dsimp only at hSw); go_simp⟩) (by assumption) ?_
          try simp only [Act.put, List.setIfInBounds_toArray, List.set_cons_zero, List.set_cons_succ]
          refine wpAnyH_done (by kernel_rfl) ?_ _
          clear hHeld
          have hB3 := hB.drew
          have HBE := Lib.hid (HB0.out.trans (hB3.mono (by omega)))
          clear hB3 c0 c2 c4
          go_wp2
          go_ret
          exact ⟨false, rfl, no_iff HNO.out, HBE.out⟩
        | true =>
          have HX2 : Hid (∀ x ∈ ys.take (k + 1), x ∈ zs) := fun x hx => by
            rw [take_str ys HY.out] at hx
            rcases List.mem_append.1 hx with h' | h'
            · exact HX.out x h'
            · rw [List.mem_singleton.1 h']; exact hasB_iff.1 hhb
          have HH := HH0
          rw [hhb] at HH
          clear hhb HH0
          go_wp2_with fail
          refine wp_region_held_drew (S := (fun w' => w'.cell? ⟨w.heap.size, 0, none⟩ = some (.slice A n c) ∧ w'.cell? ⟨w.heap.size + 1, 0, none⟩ = some (.slice (some ad) m d) ∧ w'.cell? (ad.add k) = some (.string y))) (by kernel_rfl) ?_ (fun hHeld => ?_)
          · exact ⟨c0, c2, c4⟩
          refine wpAnyH_take (i := 0) (v := .pointer (some ⟨w.heap.size, 0, none⟩)) (by rw [List.getElem?_toArray]; rfl) (by kernel_rfl) (by kernel_rfl) (by kernel_rfl) (by exact fun _ _ _ h => h) (Or.inl ⟨by rfl, fun w hSw => by (try dsimp only at hSw); go_simp⟩) (by assumption) ?_
          try simp only [Act.put, List.setIfInBounds_toArray, List.set_cons_zero, List.set_cons_succ]
          refine wpAnyH_take (i := 1) (v := .slice A n c) (by rw [List.getElem?_toArray]; rfl) (by kernel_rfl) (by kernel_rfl) (by kernel_rfl) (by exact fun _ _ _ h => h) (Or.inl ⟨by rfl, fun w hSw => by (try dsimp only at hSw); go_simp⟩) (by assumption) ?_
          try simp only [Act.put, List.setIfInBounds_toArray, List.set_cons_zero, List.set_cons_succ]
          refine wpAnyH_take (i := 2) (v := .pointer (some ⟨w.heap.size + 1, 0, none⟩)) (by rw [List.getElem?_toArray]; rfl) (by kernel_rfl) (by kernel_rfl) (by kernel_rfl) (by exact fun _ _ _ h => h) (Or.inl ⟨by rfl, fun w hSw => by (try dsimp only at hSw); go_simp⟩) (by assumption) ?_
          try simp only [Act.put, List.setIfInBounds_toArray, List.set_cons_zero, List.set_cons_succ]
          refine wpAnyH_take (i := 3) (v := .slice (some ad) m d) (by rw [List.getElem?_toArray]; rfl) (by kernel_rfl) (by kernel_rfl) (by kernel_rfl) (by exact fun _ _ _ h => h) (Or.inl ⟨by rfl, fun w hSw => by (try dsimp only at hSw); go_simp⟩) (by assumption) ?_
          try simp only [Act.put, List.setIfInBounds_toArray, List.set_cons_zero, List.set_cons_succ]
          refine wpAnyH_take (i := 4) (v := .int .i64 (k : Int)) (by rw [List.getElem?_toArray]; rfl) (by kernel_rfl) (by kernel_rfl) (by kernel_rfl) (by exact fun _ _ _ h => h) (Or.inl ⟨by rfl, fun w hSw => by (try dsimp only at hSw); go_simp⟩) (by assumption) ?_
          try simp only [Act.put, List.setIfInBounds_toArray, List.set_cons_zero, List.set_cons_succ]
          refine wpAnyH_take (i := 5) (v := .pointer (some (ad.add k))) (by rw [List.getElem?_toArray]; rfl) (by kernel_rfl) (by kernel_rfl) (by kernel_rfl) (by exact fun _ _ _ h => h) (Or.inl ⟨by rfl, fun w hSw => by (try dsimp only at hSw); go_simp⟩) (by assumption) ?_
          try simp only [Act.put, List.setIfInBounds_toArray, List.set_cons_zero, List.set_cons_succ]
          refine wpAnyH_take (i := 6) (v := .string y) (by rw [List.getElem?_toArray]; rfl) (by kernel_rfl) (by kernel_rfl) (by kernel_rfl) (by exact fun _ _ _ h => h) (Or.inl ⟨by rfl, fun w hSw => by (try dsimp only at hSw); go_simp⟩) (by assumption) ?_
          try simp only [Act.put, List.setIfInBounds_toArray, List.set_cons_zero, List.set_cons_succ]
          refine wpAnyH_ready (rs := [7]) (by kernel_rfl) (by simp) ?_
          refine AllReadyH.cons (o := _) (by rw [List.getElem?_toArray]; rfl) (fun K hK => ?_) AllReadyH.nil
          go_simp
          refine (HH.out _ ?_).mono ?_
          · exact hB.drew
          rintro e' w2 ⟨rfl, rfl⟩
          refine hK.out _ _ ?_ (fun hHeld7 => ?_)
          · exact ⟨c0, c2, c4⟩
          clear hK K
          try simp only [Act.put, List.setIfInBounds_toArray, List.set_cons_zero, List.set_cons_succ]
          refine wpAnyH_take (i := 8) (v := .bool false) (by rw [List.getElem?_toArray]; rfl) (by kernel_rfl) (by kernel_rfl) (by kernel_rfl) (by exact fun _ _ _ h => h) (Or.inl ⟨by rfl, fun w hSw => by (try dsimp only at hSw); go_simp⟩) (by assumption) ?_
          try simp only [Act.put, List.setIfInBounds_toArray, List.set_cons_zero, List.set_cons_succ]
          refine wpAnyH_done (by kernel_rfl) ?_ _
          clear hHeld
          have hB3 := hB.drew
          generalize w2.drew = wd at *
          go_wp2
          go_roundw
          case rel => exact ⟨k + 1, by omega, by go_num, hB3, HX2⟩
          case measure => simp [intOf]; omega
      · obtain rfl : k = m := by omega
        have HYES : Hid (BelQ zs ys s t) := ⟨HT1.out, HT2.out, HST.out, fun y hy => HX.out y (by rw [List.take_of_length_le (by have := HML.out; omega)]; exact hy)⟩
        have HBE := Lib.hid (HB0.out.trans (hB.mono (by omega)))
        clear hr1 hr2 hk1 hk2 hB
        go_wp2
        go_ret
        exact ⟨true, rfl, yes_iff HYES.out, HBE.out⟩
  · rw [decide_eq_false hst] at heq
    have HNO : Hid (¬ BelQ zs ys s t) := fun h => hst h.2.2.1
    have HBE := Lib.hid (HB0.out.trans (hB.mono (by omega)))
    clear hst hB
    go_wp2
    go_ret
    exact ⟨false, rfl, no_iff HNO.out, HBE.out⟩
set_option maxHeartbeats 1000000 in
theorem slIndex0_any (A : Option Addr) (n c : Nat) (ss : List ByteArray) (s : ByteArray) (w : World) (h : RS w A n ss) (hn : n ≤ 1048576) :
    Calls Tryd.prog 78 #[.slice A n c, .string s] w fun e w' => (∃ i : Int, e = .returned (.int .i64 i) ∧ (decide (0 ≤ i) = hasB ss s)) ∧ w' = w := by
  have HL := Lib.hid h.len
  go_enter Tryd.func78, Tryd.ntmps78
  go_wp2
  go_loopw [8] (fun i wr => ∃ k : Nat, k ≤ n ∧ i = .int .i64 (k : Int) ∧ wr = w ∧ Hid (s ∉ ss.take k)) (fun i _ => n - (intOf i).toNat)
  case atStart => exact ⟨0, Nat.zero_le _, rfl, rfl, Lib.hid (by simp)⟩
  case round =>
    obtain ⟨k, hk, rfl, rfl, HX⟩ := hrel
    by_cases hlt : k < n
    · obtain ⟨ad, t, rfl, hab, hs, hc⟩ := h.at_ hlt
      have HS := Lib.hid hs
      have hbq := beq_str s t
      clear hs h
      by_cases he : s = t
      · rw [decide_eq_true he] at hbq
        have HD : Hid (hasB ss s = true) := hasB_iff.2 (by rw [he]; exact List.mem_of_getElem? HS.out)
        clear he
        go_wp2
        go_ret
        exact ⟨⟨(k : Int), rfl, by rw [HD.out]; exact decide_eq_true (by omega)⟩, rfl⟩
      · rw [decide_eq_false he] at hbq
        have HX2 : Hid (s ∉ ss.take (k + 1)) := fun hm => by
          rw [take_str ss HS.out] at hm
          rcases List.mem_append.1 hm with h' | h'
          · exact HX.out h'
          · exact he (List.mem_singleton.1 h')
        clear he
        go_wp2
        go_roundw
        case rel => exact ⟨k + 1, by omega, by go_num, trivial, HX2⟩
        case measure => simp [intOf]; omega
    · obtain rfl : k = n := by omega
      have HD : Hid (hasB ss s = false) := hasB_no.2 (fun hm => HX.out (by rw [List.take_of_length_le (by have := HL.out; omega)]; exact hm))
      clear h
      go_wp2
      go_ret
      exact ⟨⟨-1, rfl, by rw [HD.out]; rfl⟩, rfl⟩
theorem slContains_any (A : Option Addr) (n c : Nat) (ss : List ByteArray) (s : ByteArray) (w : World) (h : RS w A n ss) (hn : n ≤ 1048576) :
    Calls Tryd.prog 65 #[.slice A n c, .string s] w fun e w' => e = .returned (.bool (hasB ss s)) ∧ w' = w := by
  have HI := Lib.hid (slIndex0_any A n c ss s w h hn)
  clear h
  go_enter Tryd.func65, Tryd.ntmps65
  go_wp2_with fail
  refine HI.out.mono ?_
  rintro e w1 ⟨⟨i, rfl, hi⟩, rfl⟩
  have HD := Lib.hid hi
  clear hi
  go_wp2
  go_ret
  exact ⟨by rw [← HD.out]; rfl, rfl⟩
set_option maxHeartbeats 4000000 in
theorem implBelow_any (A B : Option Addr) (n m c d : Nat) (zs ys : List ByteArray) (s t : ByteArray) (w : World) (h : RS w A n zs) (h' : RS w B m ys) (hn : n ≤ 1048576) (hm : m ≤ 1048576) (hl : ∀ x ∈ zs, x.size ≤ 1048576) (hl' : ∀ x ∈ ys, x.size ≤ 1048576) (hs : s.size ≤ 1048576) (ht : t.size ≤ 1048576) :
    Calls Tryd.prog 35 #[.agg #[.slice A n c, .string s], .agg #[.slice B m d, .string t]] w (AskPost (BelQ zs ys s t) w) := by
  have hB0 : RowKit.Below w.heap.size w ((w.alloc (.cells #[.slice A n c, .string s] 25)).alloc (.cells #[.slice B m d, .string t] 25)) := ((RowKit.Below.refl _ w).alloc (Nat.le_refl _) _).alloc (by simp) _
  have hA0 : Blk ((w.alloc (.cells #[.slice A n c, .string s] 25)).alloc (.cells #[.slice B m d, .string t] 25)) w.heap.size 25 #[.slice A n c, .string s] := (Blk.new w _ _).alloc _
  have hA1 : Blk ((w.alloc (.cells #[.slice A n c, .string s] 25)).alloc (.cells #[.slice B m d, .string t] 25)) (w.heap.size + 1) 25 #[.slice B m d, .string t] := by
    have := Blk.new (w.alloc (.cells #[.slice A n c, .string s] 25)) 25 #[.slice B m d, .string t]
    rwa [World.size_alloc] at this
  have hz : ((w.alloc (.cells #[.slice A n c, .string s] 25)).alloc (.cells #[.slice B m d, .string t] 25)).heap.size = w.heap.size + 1 + 1 := by simp
  have hF := implIn_any A n c zs s _ (h.below hB0) hn hl hs
  unfold AskPost at *
  rw [hz] at hF
  have HF := Lib.hid hF
  have HRS : Hid (∀ W : World, RowKit.Below (w.heap.size + 1 + 1) ((w.alloc (.cells #[.slice A n c, .string s] 25)).alloc (.cells #[.slice B m d, .string t] 25)) W → RS W A n zs ∧ RS W B m ys ∧ Blk W w.heap.size 25 #[.slice A n c, .string s] ∧ Blk W (w.heap.size + 1) 25 #[.slice B m d, .string t]) := fun W hW =>
    ⟨(h.below hB0).below (by rw [hz]; exact hW), (h'.below hB0).below (by rw [hz]; exact hW), hA0.below hW (by omega), hA1.below hW (by omega)⟩
  have HF2 : Hid (∀ W : World, RS W B m ys → Calls Tryd.prog 14 #[.agg #[.slice B m d, .string t]] W fun e' w' => ∃ b : Bool, e' = .returned (.bool b) ∧ (b = true ↔ TinQ ys t) ∧ RowKit.Below W.heap.size W w') := fun W hW => implIn_any B m d ys t W hW hm hl' ht
  have HB0 := Lib.hid hB0
  have HML := Lib.hid h'.len
  have heq := beq_str s t
  clear hB0 hA0 hA1 hz hF h h' hl hl' hs ht
  go_enter Tryd.func35, Tryd.ntmps35
  go_wp2_with fail
  refine HF.out.mono ?_
  rintro e' w1 ⟨b, rfl, hb, hB⟩
  cases b with
  | false =>
    have HNO : Hid (¬ BelQ zs ys s t) := fun h => Bool.noConfusion (hb.2 h.1)
    have HBE := Lib.hid (HB0.out.trans (hB.mono (by omega)))
    clear hb hB
    go_wp2
    go_ret
    exact ⟨false, rfl, no_iff HNO.out, HBE.out⟩
  | true =>
  have HT1 : Hid (TinQ zs s) := hb.1 rfl
  obtain ⟨hr1, hr2, hk1, hk2⟩ := HRS.out w1 hB
  have u0 : w1.cell? ⟨w.heap.size + 1, 0, none⟩ = some (.slice B m d) := hk2.cell 0
  have u1 : w1.cell? ⟨w.heap.size + 1, 1, none⟩ = some (.string t) := hk2.cell 1
  have ul := hk2.lt
  have HC2 := Lib.hid (HF2.out w1 hr2)
  clear hb hr1 hr2 hk1 hk2 HF HF2
  go_wp2_with fail
  refine HC2.out.mono ?_
  rintro e' w2 ⟨b2, rfl, hb2, hB2⟩
  have hB := hB.trans (hB2.mono ul)
  clear hB2 u0 u1 ul HC2
  cases b2 with
  | false =>
    have HNO : Hid (¬ BelQ zs ys s t) := fun h => Bool.noConfusion (hb2.2 h.2.1)
    have HBE := Lib.hid (HB0.out.trans (hB.mono (by omega)))
    clear hb2 hB
    go_wp2
    go_ret
    exact ⟨false, rfl, no_iff HNO.out, HBE.out⟩
  | true =>
  have HT2 : Hid (TinQ ys t) := hb2.1 rfl
  obtain ⟨hr1, hr2, hk1, hk2⟩ := HRS.out w2 hB
  have t0 : w2.cell? ⟨w.heap.size, 0, none⟩ = some (.slice A n c) := hk1.cell 0
  have t1 : w2.cell? ⟨w.heap.size, 1, none⟩ = some (.string s) := hk1.cell 1
  have u0 : w2.cell? ⟨w.heap.size + 1, 0, none⟩ = some (.slice B m d) := hk2.cell 0
  have u1 : w2.cell? ⟨w.heap.size + 1, 1, none⟩ = some (.string t) := hk2.cell 1
  clear hb2 hr1 hr2 hk1 hk2
  by_cases hst : s = t
  · rw [decide_eq_true hst] at heq
    have HST := Lib.hid hst
    clear hst
    go_wp2
    go_loopw [25] (fun i wr => ∃ k : Nat, k ≤ m ∧ i = .int .i64 (k : Int) ∧ RowKit.Below (w.heap.size + 1 + 1) ((w.alloc (.cells #[.slice A n c, .string s] 25)).alloc (.cells #[.slice B m d, .string t] 25)) wr ∧ Hid (∀ y ∈ ys.take k, y ∈ zs)) (fun i _ => m - (intOf i).toNat)
    case atStart => exact ⟨0, Nat.zero_le _, rfl, hB, Lib.hid (by simp)⟩
    case round =>
      clear hB t0 t1 u0 u1
      obtain ⟨k, hk, rfl, hB, HX⟩ := hrel
      obtain ⟨hr1, hr2, hk1, hk2⟩ := HRS.out wr hB
      have t0 : wr.cell? ⟨w.heap.size, 0, none⟩ = some (.slice A n c) := hk1.cell 0
      by_cases hlt : k < m
      · obtain ⟨ad, y, rfl, hab, hy, hc⟩ := hr2.at_ hlt
        have hki : (k : Int) < (m : Int) := by omega
        have HY := Lib.hid hy
        have HH := Lib.hid (slContains_any A n c zs y wr hr1 hn)
        clear hr1 hr2 hk1 hk2 hy
        cases hhb : hasB zs y with
        | false =>
          have HNO : Hid (¬ BelQ zs ys s t) := fun h => hasB_no.1 hhb (h.2.2.2 y (List.mem_of_getElem? HY.out))
          rw [hhb] at HH
          have HBE := Lib.hid (HB0.out.trans (hB.mono (by omega)))
          clear hhb
          go_wp2_with fail
          refine HH.out.mono ?_
          rintro e' w3 ⟨rfl, rfl⟩
          go_wp2
          go_ret
          exact ⟨false, rfl, no_iff HNO.out, HBE.out⟩
        | true =>
          have HX2 : Hid (∀ x ∈ ys.take (k + 1), x ∈ zs) := fun x hx => by
            rw [take_str ys HY.out] at hx
            rcases List.mem_append.1 hx with h' | h'
            · exact HX.out x h'
            · rw [List.mem_singleton.1 h']; exact hasB_iff.1 hhb
          rw [hhb] at HH
          clear hhb
          go_wp2_with fail
          refine HH.out.mono ?_
          rintro e' w3 ⟨rfl, rfl⟩
          clear HH
          go_wp2
          go_roundw
          case rel => exact ⟨k + 1, by omega, by go_num, hB, HX2⟩
          case measure => simp [intOf]; omega
      · obtain rfl : k = m := by omega
        have HYES : Hid (BelQ zs ys s t) := ⟨HT1.out, HT2.out, HST.out, fun y hy => HX.out y (by rw [List.take_of_length_le (by have := HML.out; omega)]; exact hy)⟩
        have HBE := Lib.hid (HB0.out.trans (hB.mono (by omega)))
        clear hr1 hr2 hk1 hk2 hB
        go_wp2
        go_ret
        exact ⟨true, rfl, yes_iff HYES.out, HBE.out⟩
  · rw [decide_eq_false hst] at heq
    have HNO : Hid (¬ BelQ zs ys s t) := fun h => hst h.2.2.1
    have HBE := Lib.hid (HB0.out.trans (hB.mono (by omega)))
    clear hst hB
    go_wp2
    go_ret
    exact ⟨false, rfl, no_iff HNO.out, HBE.out⟩
end

end Go.Proofs.YtlfbocmcbkcfhaaDoor
