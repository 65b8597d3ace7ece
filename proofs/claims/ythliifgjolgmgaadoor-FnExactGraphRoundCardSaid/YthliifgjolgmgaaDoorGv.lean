/-
  impl.drawing.fold.
-/
import Derived.Test.YthliifgjolgmgaaDoorGu
import Derived.Deep.LoopGhost
namespace Go.Proofs.YthliifgjolgmgaaDoor
set_option maxRecDepth 100000
set_option linter.unusedVariables false
open Go.RowKit Go.Lib

def vNat : Value → Nat
  | .int _ z => z.toNat
  | _ => 0
def sumW (w : World) (g n : Nat) : Nat := ((List.range (n * 3)).map (fun q => match w.cell? ⟨g, q, none⟩ with | some v => vNat v | none => 0)).sum
def sumC (S : List Sk) : Nat := ((skC S).map vNat).sum
theorem sumW_own {w : World} {base g n c : Nat} {S : List Sk} (hn : S.length = n) (h : w.ownsRow base 85 3 (.slice (some ⟨g, 0, none⟩) n c) n (skC S)) : sumW w g n = sumC S := by
  unfold sumW sumC
  congr 1
  apply List.ext_getElem?
  intro q
  rcases Nat.lt_or_ge q (n * 3) with hq | hq
  · rw [List.getElem?_map, List.getElem?_range hq, List.getElem?_map]
    show some (match w.cell? ⟨g, q, none⟩ with | some v => vNat v | none => 0) = _
    rw [h.cellAt q hq]
    obtain ⟨v, hv⟩ : ∃ v, (skC S)[q]? = some v := ⟨_, List.getElem?_eq_getElem (by rw [skC_len, hn]; exact hq)⟩
    rw [hv]; rfl
  · rw [List.getElem?_eq_none (by simp; exact hq), List.getElem?_eq_none (by rw [List.length_map, skC_len, hn]; exact hq)]
theorem sumC_cons (e : Sk) (S : List Sk) : sumC (e :: S) = e.1 + e.2.1 + e.2.2 + sumC S := by
  unfold sumC
  rw [skC_cons, List.map_append, List.sum_append]
  show ((e.1 : Int).toNat + ((e.2.1 : Int).toNat + ((e.2.2 : Int).toNat + 0))) + _ = _
  omega
theorem sumC_le (i j : Nat) (S : List Sk) : sumC (uniS i j S) ≤ sumC S := by
  induction S with
  | nil => exact Nat.le_refl _
  | cons e S ih =>
    rw [uniS_map, List.map_cons, sumC_cons, sumC_cons, ← uniS_map]
    have h1 := ren_le i j e.1
    have h2 := ren_le i j e.2.2
    show ren i j e.1 + e.2.1 + ren i j e.2.2 + _ ≤ _
    omega
theorem sumC_lt {i j : Nat} {S : List Sk} {e : Sk} (he : e ∈ S) (h : ren i j e.2.2 < e.2.2) : sumC (uniS i j S) < sumC S := by
  induction S with
  | nil => cases he
  | cons x S ih =>
    rw [uniS_map, List.map_cons, sumC_cons, sumC_cons, ← uniS_map]
    have h1 := ren_le i j x.1
    have h2 := ren_le i j x.2.2
    have h3 := sumC_le i j S
    show ren i j x.1 + x.2.1 + ren i j x.2.2 + _ < _
    rcases List.mem_cons.1 he with rfl | he
    · omega
    · have := ih he; omega
theorem sumC_clash {S : List Sk} {f l t t' : Nat} (a : (f, l, t) ∈ S) (b : (f, l, t') ∈ S) (h : t ≠ t') : sumC (uniS t t' S) < sumC S := by
  rcases Nat.lt_or_gt_of_ne h with h | h
  · exact sumC_lt b (by show ren t t' t' < t'; unfold ren; rw [if_pos (by omega)]; omega)
  · exact sumC_lt a (by show ren t t' t < t; unfold ren; rw [if_pos (by omega)]; omega)
/-- the first k arrows, and arrow k with the first m -/
def OkK (S : List Sk) (k : Nat) : Prop := ∀ p q e f, p < k → q < p → S[p]? = some e → S[q]? = some f → e.1 = f.1 → e.2.1 = f.2.1 → e.2.2 = f.2.2
def OkM (S : List Sk) (k m : Nat) : Prop := ∀ q e f, q < m → S[k]? = some e → S[q]? = some f → e.1 = f.1 → e.2.1 = f.2.1 → e.2.2 = f.2.2
theorem OkK.succ {S : List Sk} {k : Nat} (h : OkK S k) (hm : OkM S k k) : OkK S (k + 1) := fun p q e f hp hq he hf h1 h2 => by
  rcases Nat.lt_or_ge p k with h' | h'
  · exact h p q e f h' hq he hf h1 h2
  · obtain rfl : p = k := by omega
    exact hm q e f hq he hf h1 h2
theorem OkK.nocl {S : List Sk} (h : OkK S S.length) : NoCl S := fun f l t t' a b => by
  obtain ⟨p, hp⟩ := List.getElem?_of_mem a
  obtain ⟨q, hq⟩ := List.getElem?_of_mem b
  have hpl := (List.getElem?_eq_some_iff.1 hp).1
  have hql := (List.getElem?_eq_some_iff.1 hq).1
  rcases Nat.lt_trichotomy p q with hpq | rfl | hpq
  · exact (h q p _ _ hql hpq hq hp rfl rfl).symm
  · rw [hp] at hq; injection hq with hq; injection hq with _ hq; injection hq
  · exact h p q _ _ hpl hpq hp hq rfl rfl
theorem FoldS.nd {S S' : List Sk} {n : Nat} (h : FoldS S S') (hd : ∀ e ∈ S, e.1 < n ∧ e.2.1 < 4 ∧ e.2.2 < n) : ∀ e ∈ S', e.1 < n ∧ e.2.1 < 4 ∧ e.2.2 < n := by
  induction h with
  | refl => exact hd
  | step a b _ _ ih =>
    refine ih fun e he => ?_
    obtain ⟨x, hx, rfl⟩ := List.mem_map.1 he
    have := hd x hx
    exact ⟨ren_lt (hd _ a).2.2 (hd _ b).2.2 this.1, this.2.1, ren_lt (hd _ a).2.2 (hd _ b).2.2 this.2.2⟩
theorem FoldS.snoc {A B C : List Sk} {f l t t' : Nat} (h : FoldS A B) (a : (f, l, t) ∈ B) (b : (f, l, t') ∈ B) (c : t ≠ t') (e : C = uniS t t' B) : FoldS A C := h.trans (.step a b c (by rw [e]; exact .refl _))
theorem own_cap {w : World} {base size n g c : Nat} {e : TypeId} {xs : List Value} (h : w.ownsRow base e size (.slice (some ⟨g, 0, none⟩) n c) n xs) : n ≤ c ∧ c ≤ maxLen := by
  rcases h.2 with ⟨h0, _⟩ | ⟨g', cap', cur, hv, _, _, h1, h2, _⟩
  · cases h0
  · injection hv with _ _ hc; subst hc; exact ⟨h1, h2⟩
theorem gb_al {w wr : World} {row : Option Nat} (h : w.grownBy wr row) (o : Obj) : w.grownBy (wr.alloc o) row :=
  ⟨h.os, h.tape, h.output, by have := h.size; simp; omega, fun k hk hne => (Below.heap_alloc wr o k (by have := h.size; omega)).trans (h.block k hk hne)⟩
theorem gb_trans5 {w w1 w2 : World} {row : Option Nat} (h : w.grownBy w1 row) (h2 : w1.grownBy w2 row) : w.grownBy w2 row :=
  ⟨h2.os.trans h.os, h2.tape.trans h.tape, h2.output.trans h.output, Nat.le_trans h.size h2.size, fun k hk hne => (h2.block k (Nat.lt_of_lt_of_le hk h.size) hne).trans (h.block k hk hne)⟩
set_option maxHeartbeats 2000000 in
theorem fold_any (base g n c N : Nat) (S : List Sk) (w : World) (hn : S.length = n) (hn2 : n ≤ 1000) (hN : N ≤ 100000) (hd : ∀ e ∈ S, e.1 < N ∧ e.2.1 < 4 ∧ e.2.2 < N) (h : w.ownsRow base 85 3 (.slice (some ⟨g, 0, none⟩) n c) n (skC S)) :
    Calls Tryd.prog 28 #[.slice (some ⟨g, 0, none⟩) n c] w fun e w' => e = .returned (.tuple #[]) ∧ ∃ S', FoldS S S' ∧ NoCl S' ∧ w'.ownsRow base 85 3 (.slice (some ⟨g, 0, none⟩) n c) n (skC S') ∧ w.grownBy w' (some g) := by
  have H := Lib.hid h
  have HN := Lib.hid hn
  clear h hn
  go_enter Tryd.func28, Tryd.ntmps28
  have HD := Lib.hid hd
  clear hd
  have HB : Hid (sumC S = sumC S) := rfl
  go_wp2
  go_step3
  go_wp2
  go_step3
  go_wp2
  go_loopg [] (sumC S) (fun g0 wx => ∃ S1, FoldS S S1 ∧ Hid (sumC S1 = g0) ∧ Hid (wx.ownsRow base 85 3 (.slice (some ⟨g, 0, none⟩) n c) n (skC S1)) ∧ Hid (w.grownBy wx (some g)))
  case atStart => exact ⟨S, .refl S, rfl, H.out, ⟨rfl, rfl, rfl, Nat.le_refl _, fun _ _ _ => rfl⟩⟩
  case round =>
    obtain ⟨S1, hF, HS, HO, HG⟩ := hrel
    have HF := Lib.hid hF
    have HL1 : Hid (S1.length = n) := by show _ = _; rw [hF.len, HN.out]
    clear hF
    have hcap := (own_cap HO.out).1
    go_wp2
    go_loopg [8] n (fun g1 s8 wy => ∃ k : Nat, k + g1 = n ∧ s8 = .int .i64 (k : Int) ∧ Hid (OkK S1 k) ∧ Hid (wy.ownsRow base 85 3 (.slice (some ⟨g, 0, none⟩) n c) n (skC S1)) ∧ Hid (w.grownBy wy (some g)))
    case atStart => exact ⟨0, by omega, rfl, (fun p q e f hp => absurd hp (Nat.not_lt_zero p)), HO.out, HG.out⟩
    case round =>
      clear HO HG
      obtain ⟨k, hkg, rfl, HK, HO, HG⟩ := hrel
      by_cases hlt : k < n
      · have hki : (k : Int) < (n : Int) := by omega
        obtain ⟨⟨ef, el, et⟩, he⟩ : ∃ e, S1[k]? = some e := ⟨_, List.getElem?_eq_getElem (by rw [HL1.out]; exact hlt)⟩
        have hc := skC_get he
        dsimp only at hc
        have c0 : wr.cell? ⟨g, k * 3, none⟩ = some (.int .i64 (ef : Int)) := by rw [HO.out.cellAt (k * 3) (by omega)]; exact hc.1
        have c1 : wr.cell? ⟨g, k * 3 + 1, none⟩ = some (.int .i64 (el : Int)) := by rw [HO.out.cellAt (k * 3 + 1) (by omega)]; exact hc.2.1
        have c2 : wr.cell? ⟨g, k * 3 + 2, none⟩ = some (.int .i64 (et : Int)) := by rw [HO.out.cellAt (k * 3 + 2) (by omega)]; exact hc.2.2
        have hkc : (k : Int) ≤ (c : Int) := by omega
        have hO1 := HO.out.alloc (.cells #[.int .i64 (ef : Int), .int .i64 (el : Int), .int .i64 (et : Int)] 85)
        have hG1 : w.grownBy (wr.alloc (.cells #[.int .i64 (ef : Int), .int .i64 (el : Int), .int .i64 (et : Int)] 85)) (some g) := gb_al HG.out _
        have hB1 := Blk.new wr 85 #[.int .i64 (ef : Int), .int .i64 (el : Int), .int .i64 (et : Int)]
        have HE := Lib.hid he
        have HGE : Hid (g ≠ wr.heap.size) := by have := (HO.out.lt g rfl).2; show _ ≠ _; omega
        clear hc he
        go_wp2
        generalize wr.heap.size = ge at *
        generalize wr.alloc (.cells #[.int .i64 (ef : Int), .int .i64 (el : Int), .int .i64 (et : Int)] 85) = wr0 at *
        have HO1 := Lib.hid hO1
        have HG1 := Lib.hid hG1
        have HB1 := Lib.hid hB1
        clear hO1 hG1 hB1 HO HG c0 c1 c2
        go_loopg [17] k (fun g2 s17 wz => ∃ m : Nat, m + g2 = k ∧ s17 = .int .i64 (m : Int) ∧ Hid (OkM S1 k m) ∧ Hid (wz.ownsRow base 85 3 (.slice (some ⟨g, 0, none⟩) n c) n (skC S1)) ∧ Hid (w.grownBy wz (some g)) ∧ Hid (Blk wz ge 85 #[.int .i64 (ef : Int), .int .i64 (el : Int), .int .i64 (et : Int)]))
        case atStart => exact ⟨0, by omega, rfl, (fun q e f hq => absurd hq (Nat.not_lt_zero q)), HO1.out, HG1.out, HB1.out⟩
        case round =>
          clear HO1 HG1 HB1
          obtain ⟨m, hmk, rfl, HM, HO, HG, HBE⟩ := hrel
          by_cases hml : m < k
          · have hmi : (m : Int) < (k : Int) := by omega
            obtain ⟨⟨ff, fl, ft⟩, hf⟩ : ∃ e, S1[m]? = some e := ⟨_, List.getElem?_eq_getElem (by rw [HL1.out]; omega)⟩
            have hc := skC_get hf
            dsimp only at hc
            have c0 : wr.cell? ⟨g, m * 3, none⟩ = some (.int .i64 (ff : Int)) := by rw [HO.out.cellAt (m * 3) (by omega)]; exact hc.1
            have c1 : wr.cell? ⟨g, m * 3 + 1, none⟩ = some (.int .i64 (fl : Int)) := by rw [HO.out.cellAt (m * 3 + 1) (by omega)]; exact hc.2.1
            have c2 : wr.cell? ⟨g, m * 3 + 2, none⟩ = some (.int .i64 (ft : Int)) := by rw [HO.out.cellAt (m * 3 + 2) (by omega)]; exact hc.2.2
            have d0 : wr.cell? ⟨ge, 0, none⟩ = some (.int .i64 (ef : Int)) := HBE.out.cell 0
            have d1 : wr.cell? ⟨ge, 1, none⟩ = some (.int .i64 (el : Int)) := HBE.out.cell 1
            have d2 : wr.cell? ⟨ge, 2, none⟩ = some (.int .i64 (et : Int)) := HBE.out.cell 2
            have hgel := HBE.out.lt
            have HO2 := Lib.hid (HO.out.alloc (.cells #[.int .i64 (ff : Int), .int .i64 (fl : Int), .int .i64 (ft : Int)] 85))
            have HG2 : Hid (w.grownBy (wr.alloc (.cells #[.int .i64 (ff : Int), .int .i64 (fl : Int), .int .i64 (ft : Int)] 85)) (some g)) := gb_al HG.out _
            have HB2 := Lib.hid (HBE.out.alloc (.cells #[.int .i64 (ff : Int), .int .i64 (fl : Int), .int .i64 (ft : Int)] 85))
            have HFM := Lib.hid hf
            have HMX : Hid ((ef = ff → el = fl → et = ft) → OkM S1 k (m + 1)) := fun hx q e f hq he hf' h1 h2 => by
              rcases Nat.lt_or_ge q m with h' | h'
              · exact HM.out q e f h' he hf' h1 h2
              · obtain rfl : q = m := by omega
                rw [HE.out] at he
                rw [HFM.out] at hf'
                injection he with he
                injection hf' with hf'
                subst he hf'
                exact hx h1 h2
            clear hc hf HM HO HG HBE
            by_cases h1 : ef = ff
            · have h1i : ((ef : Int) == (ff : Int)) = true := by rw [beq_iff_eq, h1]
              by_cases h2 : el = fl
              · have h2i : ((el : Int) == (fl : Int)) = true := by rw [beq_iff_eq, h2]
                by_cases h3 : et = ft
                · have h3i : ((et : Int) != (ft : Int)) = false := by rw [h3]; simp
                  have HM2 := Lib.hid (HMX.out (fun _ _ => h3))
                  clear h1 h2 h3 HMX
                  go_wp2
                  go_roundg (k - (m + 1))
                  case measure => omega
                  case rel => exact ⟨m + 1, by omega, by go_num, HM2, HO2, HG2, HB2⟩
                · have h3i : ((et : Int) != (ft : Int)) = true := by simp; omega
                  subst h1 h2
                  have HA : Hid ((ef, el, et) ∈ S1 ∧ (ef, el, ft) ∈ S1) := ⟨List.mem_of_getElem? HE.out, List.mem_of_getElem? HFM.out⟩
                  have hb1 := (HF.out.nd HD.out _ HA.out.1).2.2
                  have hb2 := (HF.out.nd HD.out _ HA.out.2).2.2
                  dsimp only at hb1 hb2
                  have HU := Lib.hid (unite_any base g n c et ft S1 _ HL1.out hn2 (by omega) (by omega) HO2.out)
                  have HSN : Hid (sumC (uniS et ft S1) < sumC S1) := sumC_clash HA.out.1 HA.out.2 h3
                  have HFN : Hid (FoldS S (uniS et ft S1)) := HF.out.snoc HA.out.1 HA.out.2 h3 rfl
                  clear hb1 hb2 HMX h3
                  go_wp2_with fail
                  refine HU.out.mono ?_
                  rintro e w2 ⟨rfl, ho, hg, _⟩
                  have HO3 := Lib.hid ho
                  have HG3 := Lib.hid (gb_trans5 HG2.out hg)
                  clear ho hg HU
                  go_wp2
                  go_roundg (sumC (uniS et ft S1))
                  case measure => have := HSN.out; have := HS.out; omega
                  case rel => exact ⟨uniS et ft S1, HFN.out, rfl, HO3.out, HG3.out⟩
              · have h2i : ((el : Int) == (fl : Int)) = false := by rw [beq_eq_false_iff_ne]; omega
                have HM2 := Lib.hid (HMX.out (fun _ h => absurd h h2))
                clear h1 h2 HMX
                go_wp2
                go_roundg (k - (m + 1))
                case measure => omega
                case rel => exact ⟨m + 1, by omega, by go_num, HM2, HO2, HG2, HB2⟩
            · have h1i : ((ef : Int) == (ff : Int)) = false := by rw [beq_eq_false_iff_ne]; omega
              have HM2 := Lib.hid (HMX.out (fun h _ => absurd h h1))
              clear h1 HMX
              go_wp2
              go_roundg (k - (m + 1))
              case measure => omega
              case rel => exact ⟨m + 1, by omega, by go_num, HM2, HO2, HG2, HB2⟩
          · obtain rfl : m = k := by omega
            have hmi : ¬ (m : Int) < (m : Int) := by omega
            have HK2 : Hid (OkK S1 (m + 1)) := HK.out.succ HM.out
            go_wp2
            go_roundg (n - (m + 1))
            case measure => omega
            case rel => exact ⟨m + 1, by omega, by go_num, HK2, HO, HG⟩
      · obtain rfl : k = n := by omega
        have hki : ¬ (k : Int) < (k : Int) := by omega
        have HNC : Hid (NoCl S1) := OkK.nocl (by rw [HL1.out]; exact HK.out)
        go_wp2
        first
          | (go_ret; exact ⟨rfl, S1, HF.out, HNC.out, HO.out, HG.out⟩)
          | (exact bodyPost_ret (v := .tuple #[]) (by simp [results, Tryd.results28, go_sem]) rfl ⟨rfl, S1, HF.out, HNC.out, HO.out, HG.out⟩)
end Go.Proofs.YthliifgjolgmgaaDoor
