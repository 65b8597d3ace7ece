/-
  A drawing in memory; impl.drawing.unite.
-/
import Derived.Test.YthliifgjolgmgaaDoorGn
namespace Go.Proofs.YthliifgjolgmgaaDoor
set_option maxRecDepth 100000
set_option linter.unusedVariables false
open Go.RowKit Go.Lib

def skE (e : Sk) : List Value := [.int .i64 (e.1 : Int), .int .i64 (e.2.1 : Int), .int .i64 (e.2.2 : Int)]
def skC (S : List Sk) : List Value := S.flatMap skE
theorem skC_nil : skC [] = [] := rfl
theorem skC_cons (e : Sk) (S : List Sk) : skC (e :: S) = skE e ++ skC S := rfl
theorem skC_app (S T : List Sk) : skC (S ++ T) = skC S ++ skC T := by unfold skC; rw [List.flatMap_append]
theorem skC_len (S : List Sk) : (skC S).length = S.length * 3 := by
  induction S with
  | nil => rfl
  | cons e S ih => rw [skC_cons, List.length_append, ih, List.length_cons]; show 3 + _ = _; omega
theorem skC_get {S : List Sk} {k : Nat} {e : Sk} (h : S[k]? = some e) : (skC S)[k * 3]? = some (.int .i64 (e.1 : Int)) ∧ (skC S)[k * 3 + 1]? = some (.int .i64 (e.2.1 : Int)) ∧ (skC S)[k * 3 + 2]? = some (.int .i64 (e.2.2 : Int)) := by
  induction S generalizing k with
  | nil => cases h
  | cons x S ih =>
    rw [skC_cons]
    cases k with
    | zero =>
      have : x = e := by simpa using h
      subst this
      exact ⟨rfl, rfl, rfl⟩
    | succ k =>
      have := ih (k := k) (by simpa using h)
      have hl : (skE x).length = 3 := rfl
      refine ⟨?_, ?_, ?_⟩
      · rw [List.getElem?_append_right (by rw [hl]; omega), hl, show (k + 1) * 3 - 3 = k * 3 by omega]; exact this.1
      · rw [List.getElem?_append_right (by rw [hl]; omega), hl, show (k + 1) * 3 + 1 - 3 = k * 3 + 1 by omega]; exact this.2.1
      · rw [List.getElem?_append_right (by rw [hl]; omega), hl, show (k + 1) * 3 + 2 - 3 = k * 3 + 2 by omega]; exact this.2.2
theorem skC_set {S : List Sk} {k : Nat} {e : Sk} (h : S[k]? = some e) (x : Nat) :
    (skC S).set (k * 3) (.int .i64 (x : Int)) = skC (S.set k (x, e.2.1, e.2.2)) ∧ (skC S).set (k * 3 + 2) (.int .i64 (x : Int)) = skC (S.set k (e.1, e.2.1, x)) := by
  induction S generalizing k with
  | nil => cases h
  | cons y S ih =>
    rw [skC_cons]
    cases k with
    | zero =>
      have : y = e := by simpa using h
      subst this
      exact ⟨rfl, rfl⟩
    | succ k =>
      have := ih (k := k) (by simpa using h)
      have hl : (skE y).length = 3 := rfl
      rw [List.set_cons_succ, List.set_cons_succ, skC_cons, skC_cons]
      refine ⟨?_, ?_⟩
      · rw [List.set_append_right _ _ (by rw [hl]; omega), hl, show (k + 1) * 3 - 3 = k * 3 by omega, this.1]
      · rw [List.set_append_right _ _ (by rw [hl]; omega), hl, show (k + 1) * 3 + 2 - 3 = k * 3 + 2 by omega, this.2]
/-- one arrow with its nodes made one -/
def uniE (i j : Nat) (e : Sk) : Sk := (ren i j e.1, e.2.1, ren i j e.2.2)
theorem uniS_map (i j : Nat) (S : List Sk) : uniS i j S = S.map (uniE i j) := rfl
def uniK (i j k : Nat) (S : List Sk) : List Sk := (S.take k).map (uniE i j) ++ S.drop k
theorem uniK_zero (i j : Nat) (S : List Sk) : uniK i j 0 S = S := rfl
theorem uniK_all (i j : Nat) (S : List Sk) : uniK i j S.length S = uniS i j S := by unfold uniK; rw [List.take_length, List.drop_length, List.append_nil]; rfl
theorem uniK_len (i j k : Nat) (S : List Sk) : (uniK i j k S).length = S.length := by
  unfold uniK; rw [List.length_append, List.length_map, List.length_take, List.length_drop]; omega
theorem uniK_get {i j k : Nat} {S : List Sk} (hk : k < S.length) : (uniK i j k S)[k]? = S[k]? := by
  unfold uniK
  rw [List.getElem?_append_right (by rw [List.length_map, List.length_take]; omega), List.length_map, List.length_take, Nat.min_eq_left (by omega), Nat.sub_self, List.getElem?_drop, Nat.add_zero]
theorem uniK_set {i j k : Nat} {S : List Sk} {e : Sk} (h : S[k]? = some e) : (uniK i j k S).set k (uniE i j e) = uniK i j (k + 1) S := by
  have hk := (List.getElem?_eq_some_iff.1 h).1
  have he := (List.getElem?_eq_some_iff.1 h).2
  unfold uniK
  have hl : ((S.take k).map (uniE i j)).length = k := by rw [List.length_map, List.length_take]; omega
  rw [List.set_append_right _ _ (by omega), hl, Nat.sub_self, List.drop_eq_getElem_cons hk, List.set_cons_zero, List.take_succ_eq_append_getElem hk, List.map_append, he]
  simp
theorem gb_own {w wr : World} {g : Nat} (h : w.grownBy wr (some g)) (p : Addr) (v : Value) (hp : p.block = g) : w.grownBy (wr.setCell p v) (some g) :=
  ⟨h.os, h.tape, h.output, by simp [World.setCell]; exact h.size, fun k hk hne => (Below.heap_setCell wr _ _ k (fun e => hne (by rw [e, hp]))).trans (h.block k hk hne)⟩
set_option maxHeartbeats 2000000 in
theorem unite_any (base g n c i j : Nat) (S : List Sk) (w : World) (hn : S.length = n) (hn2 : n ≤ 1000) (hi : i ≤ 100000) (hj : j ≤ 100000) (h : w.ownsRow base 85 3 (.slice (some ⟨g, 0, none⟩) n c) n (skC S)) :
    Calls Tryd.prog 56 #[.slice (some ⟨g, 0, none⟩) n c, .int .i64 (i : Int), .int .i64 (j : Int)] w fun e w' => e = .returned (.tuple #[]) ∧ w'.ownsRow base 85 3 (.slice (some ⟨g, 0, none⟩) n c) n (skC (uniS i j S)) ∧ w.grownBy w' (some g) ∧ w'.heap.size = w.heap.size := by
  have H := Lib.hid h
  have HN := Lib.hid hn
  clear h hn
  rcases Nat.lt_trichotomy i j with hij | hij | hij
  · have hij1 : (i : Int) < (j : Int) := by omega
    have HRN : Hid (∀ x, ren i j x = if x = j then i else x) := fun x => by unfold ren; rw [show max i j = j by omega, show min i j = i by omega]
    go_enter Tryd.func56, Tryd.ntmps56
    go_wp2
    go_loopw [17] (fun q wr => ∃ k : Nat, k ≤ n ∧ q = .int .i64 (k : Int) ∧ Hid (wr.ownsRow base 85 3 (.slice (some ⟨g, 0, none⟩) n c) n (skC (uniK i j k S))) ∧ Hid (w.grownBy wr (some g)) ∧ Hid (wr.heap.size = w.heap.size)) (fun q _ => n - (RowKit.intOf q).toNat)
    case atStart => exact ⟨0, Nat.zero_le _, rfl, H.out, ⟨rfl, rfl, rfl, Nat.le_refl _, fun _ _ _ => rfl⟩, rfl⟩
    case round =>
      obtain ⟨k, hk, rfl, HO, HG, HS⟩ := hrel
      by_cases hlt : k < n
      · have hki : (k : Int) < (n : Int) := by omega
        obtain ⟨⟨ef, el, et⟩, he⟩ : ∃ e, S[k]? = some e := ⟨_, List.getElem?_eq_getElem (by rw [HN.out]; exact hlt)⟩
        have he2 : (uniK i j k S)[k]? = some (ef, el, et) := by rw [uniK_get (by rw [HN.out]; exact hlt)]; exact he
        have HU : Hid (uniK i j (k + 1) S = (uniK i j k S).set k (ren i j ef, el, ren i j et)) := (uniK_set he).symm
        have hsl : k < (uniK i j k S).length := by rw [uniK_len, HN.out]; exact hlt
        have hset : ∀ (T : List Sk), k < T.length → ∀ x : Sk, ((T.set k x)[k]? = some x) := fun T hT x => by rw [List.getElem?_set_self hT]
        have hc := skC_get he2
        dsimp only at hc
        have c0 : wr.cell? ⟨g, k * 3, none⟩ = some (.int .i64 (ef : Int)) := by rw [HO.out.cellAt (k * 3) (by omega)]; exact hc.1
        have c2 : wr.cell? ⟨g, k * 3 + 2, none⟩ = some (.int .i64 (et : Int)) := by rw [HO.out.cellAt (k * 3 + 2) (by omega)]; exact hc.2.2
        have f0 := HO.out.frozenAt (k * 3)
        have f2 := HO.out.frozenAt (k * 3 + 2)
        have S1 := (HO.out.stored (k * 3) (.int .i64 (i : Int))).1
        rw [(skC_set he2 i).1] at S1
        have S2 := (HO.out.stored (k * 3 + 2) (.int .i64 (i : Int))).1
        rw [(skC_set he2 i).2] at S2
        have S3 := (S1.stored (k * 3 + 2) (.int .i64 (i : Int))).1
        rw [(skC_set (hset _ hsl _) i).2] at S3
        dsimp only at S1 S2 S3
        rw [List.set_set] at S3
        have HS0 := Lib.hid HO.out
        have HS1 := Lib.hid S1
        have HS2 := Lib.hid S2
        have HS3 := Lib.hid S3
        have HEQ : Hid (∀ x y, (uniK i j k S).set k (x, el, y) = (uniK i j k S).set k (x, el, y)) := fun _ _ => rfl
        have HSE : Hid ((uniK i j k S).set k (ef, el, et) = uniK i j k S) := by
          show _ = _
          apply List.ext_getElem?
          intro q
          by_cases hq : q = k
          · subst hq; rw [List.getElem?_set_self hsl, he2]
          · rw [List.getElem?_set_ne (fun e => hq e.symm)]
        have HR1 := Lib.hid (HRN.out ef)
        have HR2 := Lib.hid (HRN.out et)
        clear hc he he2 S1 S2 S3 hset hsl HO
        have hlen := HS0.out.lt g rfl
        have GS1 : Hid (w.grownBy (wr.setCell ⟨g, k * 3, none⟩ (.int .i64 (i : Int))) (some g)) := gb_own HG.out _ _ rfl
        have GS2 : Hid (w.grownBy (wr.setCell ⟨g, k * 3 + 2, none⟩ (.int .i64 (i : Int))) (some g)) := gb_own HG.out _ _ rfl
        have GS3 : Hid (w.grownBy ((wr.setCell ⟨g, k * 3, none⟩ (.int .i64 (i : Int))).setCell ⟨g, k * 3 + 2, none⟩ (.int .i64 (i : Int))) (some g)) := gb_own GS1.out _ _ rfl
        by_cases h1 : ef = j
        · by_cases h2 : et = j
          · have HF : Hid (skC ((uniK i j k S).set k (i, el, i)) = skC (uniK i j (k + 1) S)) := by show _ = _; rw [HU.out, HR1.out, HR2.out, if_pos h1, if_pos h2]
            rw [HF.out] at HS3
            have h1i : ((ef : Int) == (j : Int)) = true := by rw [beq_iff_eq, h1]
            have h2i : ((et : Int) == (j : Int)) = true := by rw [beq_iff_eq, h2]
            clear h1 h2
            go_wp2
            go_roundw
            case rel => exact ⟨k + 1, by omega, by go_num, HS3, GS3, by show _ = _; simp [World.setCell]; exact HS.out⟩
            case measure => simp [RowKit.intOf]; omega
          · have HF : Hid (skC ((uniK i j k S).set k (i, el, et)) = skC (uniK i j (k + 1) S)) := by show _ = _; rw [HU.out, HR1.out, HR2.out, if_pos h1, if_neg h2]
            rw [HF.out] at HS1
            have h1i : ((ef : Int) == (j : Int)) = true := by rw [beq_iff_eq, h1]
            have h2i : ((et : Int) == (j : Int)) = false := by rw [beq_eq_false_iff_ne]; omega
            clear h1 h2
            go_wp2
            go_roundw
            case rel => exact ⟨k + 1, by omega, by go_num, HS1, GS1, by show _ = _; simp [World.setCell]; exact HS.out⟩
            case measure => simp [RowKit.intOf]; omega
        · by_cases h2 : et = j
          · have HF : Hid (skC ((uniK i j k S).set k (ef, el, i)) = skC (uniK i j (k + 1) S)) := by show _ = _; rw [HU.out, HR1.out, HR2.out, if_neg h1, if_pos h2]
            rw [HF.out] at HS2
            have h1i : ((ef : Int) == (j : Int)) = false := by rw [beq_eq_false_iff_ne]; omega
            have h2i : ((et : Int) == (j : Int)) = true := by rw [beq_iff_eq, h2]
            clear h1 h2
            go_wp2
            go_roundw
            case rel => exact ⟨k + 1, by omega, by go_num, HS2, GS2, by show _ = _; simp [World.setCell]; exact HS.out⟩
            case measure => simp [RowKit.intOf]; omega
          · have HF : Hid (skC (uniK i j k S) = skC (uniK i j (k + 1) S)) := by show _ = _; rw [HU.out, HR1.out, HR2.out, if_neg h1, if_neg h2, HSE.out]
            rw [HF.out] at HS0
            have h1i : ((ef : Int) == (j : Int)) = false := by rw [beq_eq_false_iff_ne]; omega
            have h2i : ((et : Int) == (j : Int)) = false := by rw [beq_eq_false_iff_ne]; omega
            clear h1 h2
            go_wp2
            go_roundw
            case rel => exact ⟨k + 1, by omega, by go_num, HS0, HG, HS⟩
            case measure => simp [RowKit.intOf]; omega
      · obtain rfl : k = n := by omega
        have HF : Hid (skC (uniK i j k S) = skC (uniS i j S)) := by show _ = _; rw [← HN.out, uniK_all]
        rw [HF.out] at HO
        go_wp2
        go_end0
        exact ⟨rfl, HO.out, HG.out, HS.out⟩
  · subst hij
    have HRN : Hid (∀ x, ren i i x = if x = i then i else x) := fun x => by unfold ren; rw [show max i i = i by omega, show min i i = i by omega]
    go_enter Tryd.func56, Tryd.ntmps56
    go_wp2
    go_loopw [17] (fun q wr => ∃ k : Nat, k ≤ n ∧ q = .int .i64 (k : Int) ∧ Hid (wr.ownsRow base 85 3 (.slice (some ⟨g, 0, none⟩) n c) n (skC (uniK i i k S))) ∧ Hid (w.grownBy wr (some g)) ∧ Hid (wr.heap.size = w.heap.size)) (fun q _ => n - (RowKit.intOf q).toNat)
    case atStart => exact ⟨0, Nat.zero_le _, rfl, H.out, ⟨rfl, rfl, rfl, Nat.le_refl _, fun _ _ _ => rfl⟩, rfl⟩
    case round =>
      obtain ⟨k, hk, rfl, HO, HG, HS⟩ := hrel
      by_cases hlt : k < n
      · have hki : (k : Int) < (n : Int) := by omega
        obtain ⟨⟨ef, el, et⟩, he⟩ : ∃ e, S[k]? = some e := ⟨_, List.getElem?_eq_getElem (by rw [HN.out]; exact hlt)⟩
        have he2 : (uniK i i k S)[k]? = some (ef, el, et) := by rw [uniK_get (by rw [HN.out]; exact hlt)]; exact he
        have HU : Hid (uniK i i (k + 1) S = (uniK i i k S).set k (ren i i ef, el, ren i i et)) := (uniK_set he).symm
        have hsl : k < (uniK i i k S).length := by rw [uniK_len, HN.out]; exact hlt
        have hset : ∀ (T : List Sk), k < T.length → ∀ x : Sk, ((T.set k x)[k]? = some x) := fun T hT x => by rw [List.getElem?_set_self hT]
        have hc := skC_get he2
        dsimp only at hc
        have c0 : wr.cell? ⟨g, k * 3, none⟩ = some (.int .i64 (ef : Int)) := by rw [HO.out.cellAt (k * 3) (by omega)]; exact hc.1
        have c2 : wr.cell? ⟨g, k * 3 + 2, none⟩ = some (.int .i64 (et : Int)) := by rw [HO.out.cellAt (k * 3 + 2) (by omega)]; exact hc.2.2
        have f0 := HO.out.frozenAt (k * 3)
        have f2 := HO.out.frozenAt (k * 3 + 2)
        have S1 := (HO.out.stored (k * 3) (.int .i64 (i : Int))).1
        rw [(skC_set he2 i).1] at S1
        have S2 := (HO.out.stored (k * 3 + 2) (.int .i64 (i : Int))).1
        rw [(skC_set he2 i).2] at S2
        have S3 := (S1.stored (k * 3 + 2) (.int .i64 (i : Int))).1
        rw [(skC_set (hset _ hsl _) i).2] at S3
        dsimp only at S1 S2 S3
        rw [List.set_set] at S3
        have HS0 := Lib.hid HO.out
        have HS1 := Lib.hid S1
        have HS2 := Lib.hid S2
        have HS3 := Lib.hid S3
        have HEQ : Hid (∀ x y, (uniK i i k S).set k (x, el, y) = (uniK i i k S).set k (x, el, y)) := fun _ _ => rfl
        have HSE : Hid ((uniK i i k S).set k (ef, el, et) = uniK i i k S) := by
          show _ = _
          apply List.ext_getElem?
          intro q
          by_cases hq : q = k
          · subst hq; rw [List.getElem?_set_self hsl, he2]
          · rw [List.getElem?_set_ne (fun e => hq e.symm)]
        have HR1 := Lib.hid (HRN.out ef)
        have HR2 := Lib.hid (HRN.out et)
        clear hc he he2 S1 S2 S3 hset hsl HO
        have hlen := HS0.out.lt g rfl
        have GS1 : Hid (w.grownBy (wr.setCell ⟨g, k * 3, none⟩ (.int .i64 (i : Int))) (some g)) := gb_own HG.out _ _ rfl
        have GS2 : Hid (w.grownBy (wr.setCell ⟨g, k * 3 + 2, none⟩ (.int .i64 (i : Int))) (some g)) := gb_own HG.out _ _ rfl
        have GS3 : Hid (w.grownBy ((wr.setCell ⟨g, k * 3, none⟩ (.int .i64 (i : Int))).setCell ⟨g, k * 3 + 2, none⟩ (.int .i64 (i : Int))) (some g)) := gb_own GS1.out _ _ rfl
        by_cases h1 : ef = i
        · by_cases h2 : et = i
          · have HF : Hid (skC ((uniK i i k S).set k (i, el, i)) = skC (uniK i i (k + 1) S)) := by show _ = _; rw [HU.out, HR1.out, HR2.out, if_pos h1, if_pos h2]
            rw [HF.out] at HS3
            have h1i : ((ef : Int) == (i : Int)) = true := by rw [beq_iff_eq, h1]
            have h2i : ((et : Int) == (i : Int)) = true := by rw [beq_iff_eq, h2]
            clear h1 h2
            go_wp2
            go_roundw
            case rel => exact ⟨k + 1, by omega, by go_num, HS3, GS3, by show _ = _; simp [World.setCell]; exact HS.out⟩
            case measure => simp [RowKit.intOf]; omega
          · have HF : Hid (skC ((uniK i i k S).set k (i, el, et)) = skC (uniK i i (k + 1) S)) := by show _ = _; rw [HU.out, HR1.out, HR2.out, if_pos h1, if_neg h2]
            rw [HF.out] at HS1
            have h1i : ((ef : Int) == (i : Int)) = true := by rw [beq_iff_eq, h1]
            have h2i : ((et : Int) == (i : Int)) = false := by rw [beq_eq_false_iff_ne]; omega
            clear h1 h2
            go_wp2
            go_roundw
            case rel => exact ⟨k + 1, by omega, by go_num, HS1, GS1, by show _ = _; simp [World.setCell]; exact HS.out⟩
            case measure => simp [RowKit.intOf]; omega
        · by_cases h2 : et = i
          · have HF : Hid (skC ((uniK i i k S).set k (ef, el, i)) = skC (uniK i i (k + 1) S)) := by show _ = _; rw [HU.out, HR1.out, HR2.out, if_neg h1, if_pos h2]
            rw [HF.out] at HS2
            have h1i : ((ef : Int) == (i : Int)) = false := by rw [beq_eq_false_iff_ne]; omega
            have h2i : ((et : Int) == (i : Int)) = true := by rw [beq_iff_eq, h2]
            clear h1 h2
            go_wp2
            go_roundw
            case rel => exact ⟨k + 1, by omega, by go_num, HS2, GS2, by show _ = _; simp [World.setCell]; exact HS.out⟩
            case measure => simp [RowKit.intOf]; omega
          · have HF : Hid (skC (uniK i i k S) = skC (uniK i i (k + 1) S)) := by show _ = _; rw [HU.out, HR1.out, HR2.out, if_neg h1, if_neg h2, HSE.out]
            rw [HF.out] at HS0
            have h1i : ((ef : Int) == (i : Int)) = false := by rw [beq_eq_false_iff_ne]; omega
            have h2i : ((et : Int) == (i : Int)) = false := by rw [beq_eq_false_iff_ne]; omega
            clear h1 h2
            go_wp2
            go_roundw
            case rel => exact ⟨k + 1, by omega, by go_num, HS0, HG, HS⟩
            case measure => simp [RowKit.intOf]; omega
      · obtain rfl : k = n := by omega
        have HF : Hid (skC (uniK i i k S) = skC (uniS i i S)) := by show _ = _; rw [← HN.out, uniK_all]
        rw [HF.out] at HO
        go_wp2
        go_end0
        exact ⟨rfl, HO.out, HG.out, HS.out⟩
  · have hij1 : (j : Int) < (i : Int) := by omega
    have HRN : Hid (∀ x, ren i j x = if x = i then j else x) := fun x => by unfold ren; rw [show max i j = i by omega, show min i j = j by omega]
    go_enter Tryd.func56, Tryd.ntmps56
    go_wp2
    go_loopw [17] (fun q wr => ∃ k : Nat, k ≤ n ∧ q = .int .i64 (k : Int) ∧ Hid (wr.ownsRow base 85 3 (.slice (some ⟨g, 0, none⟩) n c) n (skC (uniK i j k S))) ∧ Hid (w.grownBy wr (some g)) ∧ Hid (wr.heap.size = w.heap.size)) (fun q _ => n - (RowKit.intOf q).toNat)
    case atStart => exact ⟨0, Nat.zero_le _, rfl, H.out, ⟨rfl, rfl, rfl, Nat.le_refl _, fun _ _ _ => rfl⟩, rfl⟩
    case round =>
      obtain ⟨k, hk, rfl, HO, HG, HS⟩ := hrel
      by_cases hlt : k < n
      · have hki : (k : Int) < (n : Int) := by omega
        obtain ⟨⟨ef, el, et⟩, he⟩ : ∃ e, S[k]? = some e := ⟨_, List.getElem?_eq_getElem (by rw [HN.out]; exact hlt)⟩
        have he2 : (uniK i j k S)[k]? = some (ef, el, et) := by rw [uniK_get (by rw [HN.out]; exact hlt)]; exact he
        have HU : Hid (uniK i j (k + 1) S = (uniK i j k S).set k (ren i j ef, el, ren i j et)) := (uniK_set he).symm
        have hsl : k < (uniK i j k S).length := by rw [uniK_len, HN.out]; exact hlt
        have hset : ∀ (T : List Sk), k < T.length → ∀ x : Sk, ((T.set k x)[k]? = some x) := fun T hT x => by rw [List.getElem?_set_self hT]
        have hc := skC_get he2
        dsimp only at hc
        have c0 : wr.cell? ⟨g, k * 3, none⟩ = some (.int .i64 (ef : Int)) := by rw [HO.out.cellAt (k * 3) (by omega)]; exact hc.1
        have c2 : wr.cell? ⟨g, k * 3 + 2, none⟩ = some (.int .i64 (et : Int)) := by rw [HO.out.cellAt (k * 3 + 2) (by omega)]; exact hc.2.2
        have f0 := HO.out.frozenAt (k * 3)
        have f2 := HO.out.frozenAt (k * 3 + 2)
        have S1 := (HO.out.stored (k * 3) (.int .i64 (j : Int))).1
        rw [(skC_set he2 j).1] at S1
        have S2 := (HO.out.stored (k * 3 + 2) (.int .i64 (j : Int))).1
        rw [(skC_set he2 j).2] at S2
        have S3 := (S1.stored (k * 3 + 2) (.int .i64 (j : Int))).1
        rw [(skC_set (hset _ hsl _) j).2] at S3
        dsimp only at S1 S2 S3
        rw [List.set_set] at S3
        have HS0 := Lib.hid HO.out
        have HS1 := Lib.hid S1
        have HS2 := Lib.hid S2
        have HS3 := Lib.hid S3
        have HEQ : Hid (∀ x y, (uniK i j k S).set k (x, el, y) = (uniK i j k S).set k (x, el, y)) := fun _ _ => rfl
        have HSE : Hid ((uniK i j k S).set k (ef, el, et) = uniK i j k S) := by
          show _ = _
          apply List.ext_getElem?
          intro q
          by_cases hq : q = k
          · subst hq; rw [List.getElem?_set_self hsl, he2]
          · rw [List.getElem?_set_ne (fun e => hq e.symm)]
        have HR1 := Lib.hid (HRN.out ef)
        have HR2 := Lib.hid (HRN.out et)
        clear hc he he2 S1 S2 S3 hset hsl HO
        have hlen := HS0.out.lt g rfl
        have GS1 : Hid (w.grownBy (wr.setCell ⟨g, k * 3, none⟩ (.int .i64 (j : Int))) (some g)) := gb_own HG.out _ _ rfl
        have GS2 : Hid (w.grownBy (wr.setCell ⟨g, k * 3 + 2, none⟩ (.int .i64 (j : Int))) (some g)) := gb_own HG.out _ _ rfl
        have GS3 : Hid (w.grownBy ((wr.setCell ⟨g, k * 3, none⟩ (.int .i64 (j : Int))).setCell ⟨g, k * 3 + 2, none⟩ (.int .i64 (j : Int))) (some g)) := gb_own GS1.out _ _ rfl
        by_cases h1 : ef = i
        · by_cases h2 : et = i
          · have HF : Hid (skC ((uniK i j k S).set k (j, el, j)) = skC (uniK i j (k + 1) S)) := by show _ = _; rw [HU.out, HR1.out, HR2.out, if_pos h1, if_pos h2]
            rw [HF.out] at HS3
            have h1i : ((ef : Int) == (i : Int)) = true := by rw [beq_iff_eq, h1]
            have h2i : ((et : Int) == (i : Int)) = true := by rw [beq_iff_eq, h2]
            clear h1 h2
            go_wp2
            go_roundw
            case rel => exact ⟨k + 1, by omega, by go_num, HS3, GS3, by show _ = _; simp [World.setCell]; exact HS.out⟩
            case measure => simp [RowKit.intOf]; omega
          · have HF : Hid (skC ((uniK i j k S).set k (j, el, et)) = skC (uniK i j (k + 1) S)) := by show _ = _; rw [HU.out, HR1.out, HR2.out, if_pos h1, if_neg h2]
            rw [HF.out] at HS1
            have h1i : ((ef : Int) == (i : Int)) = true := by rw [beq_iff_eq, h1]
            have h2i : ((et : Int) == (i : Int)) = false := by rw [beq_eq_false_iff_ne]; omega
            clear h1 h2
            go_wp2
            go_roundw
            case rel => exact ⟨k + 1, by omega, by go_num, HS1, GS1, by show _ = _; simp [World.setCell]; exact HS.out⟩
            case measure => simp [RowKit.intOf]; omega
        · by_cases h2 : et = i
          · have HF : Hid (skC ((uniK i j k S).set k (ef, el, j)) = skC (uniK i j (k + 1) S)) := by show _ = _; rw [HU.out, HR1.out, HR2.out, if_neg h1, if_pos h2]
            rw [HF.out] at HS2
            have h1i : ((ef : Int) == (i : Int)) = false := by rw [beq_eq_false_iff_ne]; omega
            have h2i : ((et : Int) == (i : Int)) = true := by rw [beq_iff_eq, h2]
            clear h1 h2
            go_wp2
            go_roundw
            case rel => exact ⟨k + 1, by omega, by go_num, HS2, GS2, by show _ = _; simp [World.setCell]; exact HS.out⟩
            case measure => simp [RowKit.intOf]; omega
          · have HF : Hid (skC (uniK i j k S) = skC (uniK i j (k + 1) S)) := by show _ = _; rw [HU.out, HR1.out, HR2.out, if_neg h1, if_neg h2, HSE.out]
            rw [HF.out] at HS0
            have h1i : ((ef : Int) == (i : Int)) = false := by rw [beq_eq_false_iff_ne]; omega
            have h2i : ((et : Int) == (i : Int)) = false := by rw [beq_eq_false_iff_ne]; omega
            clear h1 h2
            go_wp2
            go_roundw
            case rel => exact ⟨k + 1, by omega, by go_num, HS0, HG, HS⟩
            case measure => simp [RowKit.intOf]; omega
      · obtain rfl : k = n := by omega
        have HF : Hid (skC (uniK i j k S) = skC (uniS i j S)) := by show _ = _; rw [← HN.out, uniK_all]
        rw [HF.out] at HO
        go_wp2
        go_end0
        exact ⟨rfl, HO.out, HG.out, HS.out⟩
end Go.Proofs.YthliifgjolgmgaaDoor
