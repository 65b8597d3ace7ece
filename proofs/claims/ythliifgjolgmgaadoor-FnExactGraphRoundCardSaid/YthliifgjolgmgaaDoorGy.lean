/-
  slices.Index and slices.Contains of a list of numbers; impl.drawing.leads.
-/
import Derived.Test.YthliifgjolgmgaaDoorGx
namespace Go.Proofs.YthliifgjolgmgaaDoor
set_option maxRecDepth 100000
set_option linter.unusedVariables false
open Go.RowKit Go.Lib

theorem idx_take {M : List Nat} {k v x : Nat} (hx : M[k]? = some x) (h : v ∉ M.take k) (he : v ≠ x) : v ∉ M.take (k + 1) := fun hm => by
  have hk := (List.getElem?_eq_some_iff.1 hx)
  rw [List.take_succ_eq_append_getElem hk.1, hk.2] at hm
  rcases List.mem_append.1 hm with h' | h'
  · exact h h'
  · exact he (List.mem_singleton.1 h')
theorem idx_first {M : List Nat} {k v : Nat} (hx : M[k]? = some v) (h : v ∉ M.take k) : M.idxOf v = k := by
  have hk := (List.getElem?_eq_some_iff.1 hx)
  conv => lhs; rw [← List.take_append_drop k M, List.drop_eq_getElem_cons hk.1, hk.2]
  rw [List.idxOf_append, if_neg h, List.idxOf_cons_self, List.length_take, Nat.min_eq_left (Nat.le_of_lt hk.1), Nat.zero_add]
def natsI (M : List Nat) : List Int := M.map (fun (v : Nat) => (v : Int))
theorem natsI_get {M : List Nat} {k v : Nat} (h : M[k]? = some v) : (natsI M)[k]? = some (v : Int) := by unfold natsI; rw [List.getElem?_map, h]; rfl
theorem natsI_len (M : List Nat) : (natsI M).length = M.length := by unfold natsI; rw [List.length_map]
/-- the place of a node or of nowhere in a list of nodes, as the program tells it -/
def ixE (M : List Nat) (x : Option Nat) : Int := match x with
  | none => -1
  | some v => if v ∈ M then ((ixQ M v : Nat) : Int) else -1
def inE (M : List Nat) (x : Option Nat) : Bool := match x with
  | none => false
  | some v => decide (v ∈ M)
set_option maxHeartbeats 1000000 in
theorem slIndexN_any (g n c : Nat) (M : List Nat) (x : Option Nat) (w : World) (hM : M.length = n) (h : ∀ k v : Nat, M[k]? = some v → w.cell? ⟨g, k, none⟩ = some (.int .i64 (v : Int))) (hn : n ≤ 1048576) :
    Calls Tryd.prog 58 #[.slice (some ⟨g, 0, none⟩) n c, .int .i64 (enc x)] w fun e w' => e = .returned (.int .i64 (ixE M x)) ∧ w' = w := by
  have HM := Lib.hid hM
  obtain ⟨z, HZ⟩ : ∃ z, Hid (enc x = z) := ⟨_, rfl⟩
  rw [HZ.out]
  have HZV : Hid (∀ v : Nat, z = (v : Int) ↔ x = some v) := fun v => by
    have hz := HZ.out
    cases x with
    | none => have hz : (-1 : Int) = z := hz; exact ⟨fun e => by omega, fun e => by cases e⟩
    | some u =>
      have hz : (u : Int) = z := hz
      exact ⟨fun e => by rw [show u = v by omega], fun e => by injection e with e; rw [← hz, e]⟩
  have HNV : Hid (x ≠ none → ∃ v : Nat, x = some v) := fun hx => by
    cases x with
    | none => exact absurd rfl hx
    | some v => exact ⟨v, rfl⟩
  clear hM
  go_enter Tryd.func58, Tryd.ntmps58
  go_wp2
  go_loopw [8] (fun i wr => ∃ k : Nat, k ≤ n ∧ i = .int .i64 (k : Int) ∧ wr = w ∧ Hid (∀ v, x = some v → v ∉ M.take k)) (fun i _ => n - (intOf i).toNat)
  case atStart => exact ⟨0, Nat.zero_le _, rfl, rfl, Lib.hid (fun v _ => by simp)⟩
  case round =>
    obtain ⟨k, hk, rfl, rfl, HX⟩ := hrel
    by_cases hlt : k < n
    · obtain ⟨t, ht⟩ : ∃ t, M[k]? = some t := ⟨_, List.getElem?_eq_getElem (by rw [HM.out]; exact hlt)⟩
      have hc := h k t ht
      have HT := Lib.hid ht
      have hki : (k : Int) < (n : Int) := by omega
      clear ht
      by_cases he : z = (t : Int)
      · have hb : (z == (t : Int)) = true := by rw [beq_iff_eq]; exact he
        have hb2 : ((t : Int) == z) = true := by rw [beq_iff_eq]; exact he.symm
        have HX1 : Hid (ixE M x = (k : Int)) := by
          have hx := (HZV.out t).1 he
          show _ = _
          rw [hx]
          show (if t ∈ M then ((ixQ M t : Nat) : Int) else -1) = _
          rw [if_pos (List.mem_of_getElem? HT.out)]
          unfold ixQ
          rw [idx_first HT.out (HX.out t hx)]
        clear he
        go_wp2
        go_ret
        exact ⟨by rw [HX1.out]; rfl, rfl⟩
      · have hb : (z == (t : Int)) = false := by rw [beq_eq_false_iff_ne]; exact he
        have hb2 : ((t : Int) == z) = false := by rw [beq_eq_false_iff_ne]; exact fun e => he e.symm
        have HX2 : Hid (∀ v, x = some v → v ∉ M.take (k + 1)) := fun v hv => idx_take HT.out (HX.out v hv) (fun e => he (by rw [← e]; exact (HZV.out v).2 hv))
        clear he
        go_wp2
        go_roundw
        case rel => exact ⟨k + 1, by omega, by go_num, trivial, HX2⟩
        case measure => simp [intOf]; omega
    · obtain rfl : k = n := by omega
      have hki : ¬ (k : Int) < (k : Int) := by omega
      have HX1 : Hid (ixE M x = -1) := by
        show _ = _
        cases x with
        | none => rfl
        | some v =>
          show (if v ∈ M then ((ixQ M v : Nat) : Int) else -1) = _
          rw [if_neg]
          have := HX.out v rfl
          rwa [List.take_of_length_le (by have := HM.out; omega)] at this
      clear h
      go_wp2
      go_ret
      exact ⟨by rw [HX1.out]; rfl, rfl⟩
theorem slContainsN_any (g n c : Nat) (M : List Nat) (x : Option Nat) (w : World) (hM : M.length = n) (h : ∀ k v : Nat, M[k]? = some v → w.cell? ⟨g, k, none⟩ = some (.int .i64 (v : Int))) (hn : n ≤ 1048576) :
    Calls Tryd.prog 75 #[.slice (some ⟨g, 0, none⟩) n c, .int .i64 (enc x)] w fun e w' => e = .returned (.bool (inE M x)) ∧ w' = w := by
  have HI := Lib.hid (slIndexN_any g n c M x w hM h hn)
  have HD : Hid (decide ((0 : Int) ≤ ixE M x) = inE M x) := by
    show _ = _
    cases x with
    | none => rfl
    | some v =>
      show decide ((0 : Int) ≤ (if v ∈ M then ((ixQ M v : Nat) : Int) else -1)) = decide (v ∈ M)
      by_cases hv : v ∈ M
      · rw [if_pos hv, decide_eq_true hv]; simp
      · rw [if_neg hv, decide_eq_false hv]; rfl
  clear h hM
  go_enter Tryd.func75, Tryd.ntmps75
  go_wp2_with fail
  refine HI.out.mono ?_
  rintro e w1 ⟨rfl, rfl⟩
  generalize ixE M x = z at *
  go_wp2
  go_ret
  exact ⟨by rw [← HD.out]; rfl, rfl⟩
theorem leD_none {S : List Sk} {k c v : Nat} (h : ∀ q e, q < k → S[q]? = some e → ¬ (e.1 = v ∧ e.2.1 = c)) (hk : S.length ≤ k) : leD S c v = none := by
  unfold leD
  rw [Option.map_eq_none_iff, List.find?_eq_none]
  intro e he hp
  obtain ⟨q, hq⟩ := List.getElem?_of_mem he
  have hql := (List.getElem?_eq_some_iff.1 hq).1
  rw [Bool.and_eq_true, beq_iff_eq, beq_iff_eq] at hp
  exact h q e (by omega) hq hp
theorem leD_first {S : List Sk} {k c v t : Nat} (h : ∀ q e, q < k → S[q]? = some e → ¬ (e.1 = v ∧ e.2.1 = c)) (hk : S[k]? = some (v, c, t)) : leD S c v = some t := by
  unfold leD
  have hl := (List.getElem?_eq_some_iff.1 hk)
  have : S.find? (fun e => e.1 == v && e.2.1 == c) = some (v, c, t) := by
    rw [← List.take_append_drop k S, List.drop_eq_getElem_cons hl.1, hl.2, List.find?_append]
    have h0 : (S.take k).find? (fun e => e.1 == v && e.2.1 == c) = none := by
      rw [List.find?_eq_none]
      intro e he hp
      obtain ⟨q, hq⟩ := List.getElem?_of_mem he
      have hq2 := (List.getElem?_eq_some_iff.1 hq).1
      rw [List.length_take] at hq2
      rw [List.getElem?_take_of_lt (by omega)] at hq
      rw [Bool.and_eq_true, beq_iff_eq, beq_iff_eq] at hp
      exact h q e (by omega) hq hp
    rw [h0]
    simp
  rw [this]; rfl
set_option maxHeartbeats 2000000 in
theorem leads_some (base g n c : Nat) (S : List Sk) (f l : Nat) (w : World) (hS : S.length = n) (hn : n ≤ 1000) (h : w.ownsRow base 85 3 (.slice (some ⟨g, 0, none⟩) n c) n (skC S)) :
    Calls Tryd.prog 30 #[.slice (some ⟨g, 0, none⟩) n c, .int .i64 (f : Int), .int .i64 (l : Int)] w fun e w' => e = .returned (.int .i64 (enc (leD S l f))) ∧ Below w.heap.size w w' := by
  have HN := Lib.hid hS
  have H := Lib.hid h
  clear hS h
  go_enter Tryd.func30, Tryd.ntmps30
  go_wp2
  go_loopg [11] n (fun g1 s11 wy => ∃ k : Nat, k + g1 = n ∧ s11 = .int .i64 (k : Int) ∧ Hid (∀ q e, q < k → S[q]? = some e → ¬ (e.1 = f ∧ e.2.1 = l)) ∧ Hid (wy.ownsRow base 85 3 (.slice (some ⟨g, 0, none⟩) n c) n (skC S)) ∧ Hid (Below w.heap.size w wy))
  case atStart => exact ⟨0, by omega, rfl, (fun q e hq => absurd hq (Nat.not_lt_zero q)), H.out, Below.refl _ _⟩
  case round =>
    obtain ⟨k, hkg, rfl, HK, HO, HB⟩ := hrel
    by_cases hlt : k < n
    · have hki : (k : Int) < (n : Int) := by omega
      obtain ⟨⟨ef, el, et⟩, he⟩ : ∃ e, S[k]? = some e := ⟨_, List.getElem?_eq_getElem (by rw [HN.out]; exact hlt)⟩
      have hc := skC_get he
      dsimp only at hc
      have c0 : wr.cell? ⟨g, k * 3, none⟩ = some (.int .i64 (ef : Int)) := by rw [HO.out.cellAt (k * 3) (by omega)]; exact hc.1
      have c1 : wr.cell? ⟨g, k * 3 + 1, none⟩ = some (.int .i64 (el : Int)) := by rw [HO.out.cellAt (k * 3 + 1) (by omega)]; exact hc.2.1
      have c2 : wr.cell? ⟨g, k * 3 + 2, none⟩ = some (.int .i64 (et : Int)) := by rw [HO.out.cellAt (k * 3 + 2) (by omega)]; exact hc.2.2
      have HO2 := Lib.hid (HO.out.alloc (.cells #[.int .i64 (ef : Int), .int .i64 (el : Int), .int .i64 (et : Int)] 85))
      have HB2 := Lib.hid (HB.out.alloc HB.out.size (.cells #[.int .i64 (ef : Int), .int .i64 (el : Int), .int .i64 (et : Int)] 85))
      have HE := Lib.hid he
      have HK2 : Hid (¬ (ef = f ∧ el = l) → ∀ q e, q < k + 1 → S[q]? = some e → ¬ (e.1 = f ∧ e.2.1 = l)) := fun hx q e hq hqe => by
        rcases Nat.lt_or_ge q k with h' | h'
        · exact HK.out q e h' hqe
        · obtain rfl : q = k := by omega
          rw [HE.out] at hqe
          injection hqe with hqe
          subst hqe
          exact hx
      clear hc he HO HB
      by_cases h1 : ef = f
      · have h1i : ((ef : Int) == (f : Int)) = true := by rw [beq_iff_eq, h1]
        by_cases h2 : el = l
        · have h2i : ((el : Int) == (l : Int)) = true := by rw [beq_iff_eq, h2]
          have HR : Hid (enc (leD S l f) = (et : Int)) := by
            show _ = _
            subst h1 h2
            rw [leD_first HK.out HE.out]; rfl
          clear h1 h2 HK HK2
          go_wp2
          go_ret
          exact ⟨by rw [HR.out]; rfl, HB2.out⟩
        · have h2i : ((el : Int) == (l : Int)) = false := by rw [beq_eq_false_iff_ne]; omega
          have HK3 := Lib.hid (HK2.out (fun h => h2 h.2))
          clear h1 h2 HK HK2
          go_wp2
          go_roundg (n - (k + 1))
          case measure => omega
          case rel => exact ⟨k + 1, by omega, by go_num, HK3, HO2, HB2⟩
      · have h1i : ((ef : Int) == (f : Int)) = false := by rw [beq_eq_false_iff_ne]; omega
        have HK3 := Lib.hid (HK2.out (fun h => h1 h.1))
        clear h1 HK HK2
        go_wp2
        go_roundg (n - (k + 1))
        case measure => omega
        case rel => exact ⟨k + 1, by omega, by go_num, HK3, HO2, HB2⟩
    · obtain rfl : k = n := by omega
      have hki : ¬ (k : Int) < (k : Int) := by omega
      have HR : Hid (enc (leD S l f) = -1) := by
        show _ = _
        rw [leD_none HK.out (by have := HN.out; omega)]; rfl
      go_wp2
      go_ret
      exact ⟨by rw [HR.out]; rfl, HB.out⟩
theorem leads_nil (f l : Nat) (w : World) :
    Calls Tryd.prog 30 #[.slice none 0 0, .int .i64 (f : Int), .int .i64 (l : Int)] w fun e w' => e = .returned (.int .i64 (enc (leD [] l f))) ∧ Below w.heap.size w w' := by
  go_enter Tryd.func30, Tryd.ntmps30
  go_wp2
  go_loopg [11] 0 (fun g1 s11 wy => s11 = .int .i64 0 ∧ wy = w)
  case atStart => exact ⟨rfl, rfl⟩
  case round =>
    obtain ⟨rfl, rfl⟩ := hrel
    go_wp2
    go_ret
    exact ⟨rfl, Below.refl _ _⟩
/-- where a letter leads in a drawing in memory -/
theorem leads_any (base : Nat) (v : Value) (S : List Sk) (f l : Nat) (w : World) (hn : S.length ≤ 1000) (h : w.ownsRow base 85 3 v S.length (skC S)) :
    Calls Tryd.prog 30 #[v, .int .i64 (f : Int), .int .i64 (l : Int)] w fun e w' => e = .returned (.int .i64 (enc (leD S l f))) ∧ Below w.heap.size w w' := by
  rcases h.2 with ⟨rfl, h0⟩ | ⟨g, cap, cur, rfl, _⟩
  · obtain rfl : S = [] := List.eq_nil_of_length_eq_zero h0
    exact leads_nil f l w
  · exact leads_some base g S.length cap S f l w rfl hn h
theorem fold_nil (w : World) : Calls Tryd.prog 28 #[.slice none 0 0] w fun e w' => e = .returned (.tuple #[]) ∧ w' = w := by
  go_enter Tryd.func28, Tryd.ntmps28
  go_wp2
  go_step3
  go_wp2
  go_step3
  go_wp2
  go_loopg [] 0 (fun g0 wx => wx = w)
  case atStart => rfl
  case round =>
    subst hrel
    go_wp2
    go_loopg [8] 0 (fun g1 s8 wy => s8 = .int .i64 0 ∧ wy = wr)
    case atStart => exact ⟨rfl, rfl⟩
    case round =>
      obtain ⟨rfl, rfl⟩ := hrel
      go_wp2
      simp only [Exit.noGoto]
      refine bodyPost_ret (results_none rfl _ _ _) rfl ?_
      exact ⟨rfl, rfl⟩
/-- a drawing in memory, folded -/
theorem foldv_any (base : Nat) (v : Value) (N : Nat) (S : List Sk) (w : World) (hn2 : S.length ≤ 1000) (hN : N ≤ 100000) (hd : ∀ e ∈ S, e.1 < N ∧ e.2.1 < 4 ∧ e.2.2 < N) (h : w.ownsRow base 85 3 v S.length (skC S)) :
    Calls Tryd.prog 28 #[v] w fun e w' => e = .returned (.tuple #[]) ∧ ∃ S', FoldS S S' ∧ NoCl S' ∧ w'.ownsRow base 85 3 v S'.length (skC S') ∧ w.grownBy w' v.ownBlock := by
  rcases h.2 with ⟨rfl, h0⟩ | ⟨g, cap, cur, rfl, _⟩
  · obtain rfl : S = [] := List.eq_nil_of_length_eq_zero h0
    refine (fold_nil w).mono ?_
    rintro e w' ⟨rfl, rfl⟩
    exact ⟨rfl, [], .refl _, (fun f l t t' h => by cases h), h, ⟨rfl, rfl, rfl, Nat.le_refl _, fun _ _ _ => rfl⟩⟩
  · refine (fold_any base g S.length cap N S w rfl hn2 hN hd h).mono ?_
    rintro e w' ⟨rfl, S', h1, h2, h3, h4⟩
    rw [← h1.len] at h3
    have e1 : (Value.slice (some ⟨g, 0, none⟩) S.length cap) = .slice (some ⟨g, 0, none⟩) S'.length cap := by rw [h1.len]
    rw [e1]
    exact ⟨rfl, S', h1, h2, h3, h4⟩
end Go.Proofs.YthliifgjolgmgaaDoor
