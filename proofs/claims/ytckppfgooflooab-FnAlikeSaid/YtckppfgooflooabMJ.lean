/-
  IAlike.
-/
import Derived.ChangeKeysEq
import Derived.Laws.StructEq
import Derived.Test.YtckppfgooflooabMC
import Derived.Test.YtckppfgooflooabMF
import Derived.Test.YtckppfgooflooabMI
namespace Go.Proofs.Ytckppfgooflooab
set_option maxRecDepth 100000
set_option linter.unusedVariables false
set_option linter.unusedSimpArgs false
set_option linter.unusedSectionVars false

/-! == on two shapes; impl.WaysAlike. -/
section
open Go.RowKit

set_option maxHeartbeats 1000000 in
theorem seven_eq (a0 a1 a2 a3 a4 a5 a6 b0 b1 b2 b3 b4 b5 b6 : Int) (w : World) :
    (Op.equalIn 9999 70 (.agg #[.int .i64 a0, .int .i64 a1, .int .i64 a2, .int .i64 a3, .int .i64 a4, .int .i64 a5, .int .i64 a6]) (.agg #[.int .i64 b0, .int .i64 b1, .int .i64 b2, .int .i64 b3, .int .i64 b4, .int .i64 b5, .int .i64 b6])).run Try.prog w = .ok (a0 == b0 && (a1 == b1 && (a2 == b2 && (a3 == b3 && (a4 == b4 && (a5 == b5 && (a6 == b6))))))) w := by
  obtain ⟨i0, hi, hz0, hz1, hz2⟩ := info_parts info_int
  have hc : Try.prog.cellsOf 3 = 1 := by kernel_rfl
  have hpk : Try.prog.plainKey 3 = true := by kernel_rfl
  have hp : ∀ (xs : Array Value) (j : Nat) (v : Value) (W : World), xs[j]? = some v → (part 3 xs j).run Try.prog W = .ok v W := fun xs j v W h => run_part_plain W hpk h
  rw [run_equalIn_array w 9998 _ _ Try.underlying70 hi]
  have q0 := fun W => hp #[Value.int .i64 a0, Value.int .i64 a1, Value.int .i64 a2, Value.int .i64 a3, Value.int .i64 a4, Value.int .i64 a5, Value.int .i64 a6] 0 _ W rfl
  have r0 := fun W => hp #[Value.int .i64 b0, Value.int .i64 b1, Value.int .i64 b2, Value.int .i64 b3, Value.int .i64 b4, Value.int .i64 b5, Value.int .i64 b6] 0 _ W rfl
  have q1 := fun W => hp #[Value.int .i64 a0, Value.int .i64 a1, Value.int .i64 a2, Value.int .i64 a3, Value.int .i64 a4, Value.int .i64 a5, Value.int .i64 a6] 1 _ W rfl
  have r1 := fun W => hp #[Value.int .i64 b0, Value.int .i64 b1, Value.int .i64 b2, Value.int .i64 b3, Value.int .i64 b4, Value.int .i64 b5, Value.int .i64 b6] 1 _ W rfl
  have q2 := fun W => hp #[Value.int .i64 a0, Value.int .i64 a1, Value.int .i64 a2, Value.int .i64 a3, Value.int .i64 a4, Value.int .i64 a5, Value.int .i64 a6] 2 _ W rfl
  have r2 := fun W => hp #[Value.int .i64 b0, Value.int .i64 b1, Value.int .i64 b2, Value.int .i64 b3, Value.int .i64 b4, Value.int .i64 b5, Value.int .i64 b6] 2 _ W rfl
  have q3 := fun W => hp #[Value.int .i64 a0, Value.int .i64 a1, Value.int .i64 a2, Value.int .i64 a3, Value.int .i64 a4, Value.int .i64 a5, Value.int .i64 a6] 3 _ W rfl
  have r3 := fun W => hp #[Value.int .i64 b0, Value.int .i64 b1, Value.int .i64 b2, Value.int .i64 b3, Value.int .i64 b4, Value.int .i64 b5, Value.int .i64 b6] 3 _ W rfl
  have q4 := fun W => hp #[Value.int .i64 a0, Value.int .i64 a1, Value.int .i64 a2, Value.int .i64 a3, Value.int .i64 a4, Value.int .i64 a5, Value.int .i64 a6] 4 _ W rfl
  have r4 := fun W => hp #[Value.int .i64 b0, Value.int .i64 b1, Value.int .i64 b2, Value.int .i64 b3, Value.int .i64 b4, Value.int .i64 b5, Value.int .i64 b6] 4 _ W rfl
  have q5 := fun W => hp #[Value.int .i64 a0, Value.int .i64 a1, Value.int .i64 a2, Value.int .i64 a3, Value.int .i64 a4, Value.int .i64 a5, Value.int .i64 a6] 5 _ W rfl
  have r5 := fun W => hp #[Value.int .i64 b0, Value.int .i64 b1, Value.int .i64 b2, Value.int .i64 b3, Value.int .i64 b4, Value.int .i64 b5, Value.int .i64 b6] 5 _ W rfl
  have q6 := fun W => hp #[Value.int .i64 a0, Value.int .i64 a1, Value.int .i64 a2, Value.int .i64 a3, Value.int .i64 a4, Value.int .i64 a5, Value.int .i64 a6] 6 _ W rfl
  have r6 := fun W => hp #[Value.int .i64 b0, Value.int .i64 b1, Value.int .i64 b2, Value.int .i64 b3, Value.int .i64 b4, Value.int .i64 b5, Value.int .i64 b6] 6 _ W rfl
  have hq : ∀ (a b : Int) (W : World), (Op.equalIn 9998 3 (.int .i64 a) (.int .i64 b)).run Try.prog W = .ok (a == b) W := fun a b W => run_equalIn_int W 9997 3 .i64 .i64 a b Try.underlying3
  clear hp
  simp [Op.eqItems, hc, List.range_succ, q0, r0, q1, r1, q2, r2, q3, r3, q4, r4, q5, r5, q6, r6, hq]
  by_cases h0 : a0 = b0 <;> by_cases h1 : a1 = b1 <;> by_cases h2 : a2 = b2 <;> by_cases h3 : a3 = b3 <;> by_cases h4 : a4 = b4 <;> by_cases h5 : a5 = b5 <;> by_cases h6 : a6 = b6 <;> simp [h0, h1, h2, h3, h4, h5, h6]

theorem info_seven : (Try.prog.info? 70).map (fun i => (i.size, i.bytes)) = some (7, 56) := by kernel_rfl
set_option maxHeartbeats 1000000 in
theorem shp_eq (a b : Nat → Int) (w : World) :
    (Op.equalIn 10000 72 (.agg #[.int .i64 ((a) 0), .int .i64 ((a) 1), .int .i64 ((a) 2), .int .i64 ((a) 3), .int .i64 ((a) 4), .int .i64 ((a) 5), .int .i64 ((a) 6), .int .i64 ((a) 7), .int .i64 ((a) 8), .int .i64 ((a) 9), .int .i64 ((a) 10), .int .i64 ((a) 11), .int .i64 ((a) 12), .int .i64 ((a) 13)]) (.agg #[.int .i64 ((b) 0), .int .i64 ((b) 1), .int .i64 ((b) 2), .int .i64 ((b) 3), .int .i64 ((b) 4), .int .i64 ((b) 5), .int .i64 ((b) 6), .int .i64 ((b) 7), .int .i64 ((b) 8), .int .i64 ((b) 9), .int .i64 ((b) 10), .int .i64 ((b) 11), .int .i64 ((b) 12), .int .i64 ((b) 13)])).run Try.prog w = .ok ((a 0 == b 0 && (a 1 == b 1 && (a 2 == b 2 && (a 3 == b 3 && (a 4 == b 4 && (a 5 == b 5 && (a 6 == b 6))))))) && (a 7 == b 7 && (a 8 == b 8 && (a 9 == b 9 && (a 10 == b 10 && (a 11 == b 11 && (a 12 == b 12 && (a 13 == b 13)))))))) w := by
  obtain ⟨i7, hi7⟩ : ∃ i, Try.prog.info? 70 = some i := by
    cases h : Try.prog.info? 70 with
    | none => have := info_seven; rw [h] at this; cases this
    | some i => exact ⟨i, rfl⟩
  have hc : Try.prog.cellsOf 70 = 7 := by kernel_rfl
  have hu : Try.prog.underlying 70 = some (.array 7 3) := Try.underlying70
  rw [run_equalIn_array w 9999 _ _ Try.underlying72 hi7]
  have hs7 : i7.size = 7 := by have := info_seven; rw [hi7] at this; simp at this; exact this.1
  have p0 : ∀ W : World, (part 70 #[.int .i64 ((a) 0), .int .i64 ((a) 1), .int .i64 ((a) 2), .int .i64 ((a) 3), .int .i64 ((a) 4), .int .i64 ((a) 5), .int .i64 ((a) 6), .int .i64 ((a) 7), .int .i64 ((a) 8), .int .i64 ((a) 9), .int .i64 ((a) 10), .int .i64 ((a) 11), .int .i64 ((a) 12), .int .i64 ((a) 13)] 0).run Try.prog W = .ok (.agg #[.int .i64 (a 0), .int .i64 (a 1), .int .i64 (a 2), .int .i64 (a 3), .int .i64 (a 4), .int .i64 (a 5), .int .i64 (a 6)]) W := fun W => by simp [part, isAgg, run_underlying hu, sizeOf, typeInfo, hi7, hs7]
  have p1 : ∀ W : World, (part 70 #[.int .i64 ((a) 0), .int .i64 ((a) 1), .int .i64 ((a) 2), .int .i64 ((a) 3), .int .i64 ((a) 4), .int .i64 ((a) 5), .int .i64 ((a) 6), .int .i64 ((a) 7), .int .i64 ((a) 8), .int .i64 ((a) 9), .int .i64 ((a) 10), .int .i64 ((a) 11), .int .i64 ((a) 12), .int .i64 ((a) 13)] 7).run Try.prog W = .ok (.agg #[.int .i64 (a 7), .int .i64 (a 8), .int .i64 (a 9), .int .i64 (a 10), .int .i64 (a 11), .int .i64 (a 12), .int .i64 (a 13)]) W := fun W => by simp [part, isAgg, run_underlying hu, sizeOf, typeInfo, hi7, hs7]
  have r0 : ∀ W : World, (part 70 #[.int .i64 ((b) 0), .int .i64 ((b) 1), .int .i64 ((b) 2), .int .i64 ((b) 3), .int .i64 ((b) 4), .int .i64 ((b) 5), .int .i64 ((b) 6), .int .i64 ((b) 7), .int .i64 ((b) 8), .int .i64 ((b) 9), .int .i64 ((b) 10), .int .i64 ((b) 11), .int .i64 ((b) 12), .int .i64 ((b) 13)] 0).run Try.prog W = .ok (.agg #[.int .i64 (b 0), .int .i64 (b 1), .int .i64 (b 2), .int .i64 (b 3), .int .i64 (b 4), .int .i64 (b 5), .int .i64 (b 6)]) W := fun W => by simp [part, isAgg, run_underlying hu, sizeOf, typeInfo, hi7, hs7]
  have r1 : ∀ W : World, (part 70 #[.int .i64 ((b) 0), .int .i64 ((b) 1), .int .i64 ((b) 2), .int .i64 ((b) 3), .int .i64 ((b) 4), .int .i64 ((b) 5), .int .i64 ((b) 6), .int .i64 ((b) 7), .int .i64 ((b) 8), .int .i64 ((b) 9), .int .i64 ((b) 10), .int .i64 ((b) 11), .int .i64 ((b) 12), .int .i64 ((b) 13)] 7).run Try.prog W = .ok (.agg #[.int .i64 (b 7), .int .i64 (b 8), .int .i64 (b 9), .int .i64 (b 10), .int .i64 (b 11), .int .i64 (b 12), .int .i64 (b 13)]) W := fun W => by simp [part, isAgg, run_underlying hu, sizeOf, typeInfo, hi7, hs7]
  have s0 := fun W => seven_eq (a 0) (a 1) (a 2) (a 3) (a 4) (a 5) (a 6) (b 0) (b 1) (b 2) (b 3) (b 4) (b 5) (b 6) W
  have s1 := fun W => seven_eq (a 7) (a 8) (a 9) (a 10) (a 11) (a 12) (a 13) (b 7) (b 8) (b 9) (b 10) (b 11) (b 12) (b 13) W
  clear hi7 hu
  simp only [Op.eqItems, hc, List.range_succ, List.range_zero, List.nil_append, List.cons_append, Nat.zero_mul, Nat.one_mul, Sem.run_bind, p0, p1, r0, r1, s0, s1, Result.andThen_ok]
  generalize (a 0 == b 0 && (a 1 == b 1 && (a 2 == b 2 && (a 3 == b 3 && (a 4 == b 4 && (a 5 == b 5 && (a 6 == b 6))))))) = x
  generalize (a 7 == b 7 && (a 8 == b 8 && (a 9 == b 9 && (a 10 == b 10 && (a 11 == b 11 && (a 12 == b 12 && (a 13 == b 13))))))) = y at s1 ⊢
  cases x
  · simp
  · simp only [Bool.not_true, Bool.false_eq_true, if_false, Sem.run_bind, p1, r1, s1, Result.andThen_ok, Bool.true_and]
    cases y <;> simp
theorem pairC {W : World} {B : Nat} {a : World} (h : Below B a W) (hs : B ≤ W.heap.size) (o o' : Obj) : Below B a ((W.alloc o).alloc o') := (h.alloc hs o).alloc (by simp; omega) o'
/-- whether two shapes are one, place by place -/
def eqS (a b : Nat → Int) : Bool := (a 0 == b 0 && (a 1 == b 1 && (a 2 == b 2 && (a 3 == b 3 && (a 4 == b 4 && (a 5 == b 5 && (a 6 == b 6))))))) && (a 7 == b 7 && (a 8 == b 8 && (a 9 == b 9 && (a 10 == b 10 && (a 11 == b 11 && (a 12 == b 12 && (a 13 == b 13)))))))
theorem eqS_iff (a b : Nat → Int) : eqS a b = true ↔ ∀ j, j < 14 → a j = b j := by
  unfold eqS
  simp only [Bool.and_eq_true, beq_iff_eq]
  constructor
  · rintro ⟨⟨h0, h1, h2, h3, h4, h5, h6⟩, h7, h8, h9, h10, h11, h12, h13⟩ j hj
    match j, hj with
    | 0, _ => exact h0
    | 1, _ => exact h1
    | 2, _ => exact h2
    | 3, _ => exact h3
    | 4, _ => exact h4
    | 5, _ => exact h5
    | 6, _ => exact h6
    | 7, _ => exact h7
    | 8, _ => exact h8
    | 9, _ => exact h9
    | 10, _ => exact h10
    | 11, _ => exact h11
    | 12, _ => exact h12
    | 13, _ => exact h13
  · intro hy
    exact ⟨⟨hy 0 (by omega), hy 1 (by omega), hy 2 (by omega), hy 3 (by omega), hy 4 (by omega), hy 5 (by omega), hy 6 (by omega)⟩, hy 7 (by omega), hy 8 (by omega), hy 9 (by omega), hy 10 (by omega), hy 11 (by omega), hy 12 (by omega), hy 13 (by omega)⟩
theorem shF_at (acc : List KW) {l : Nat} (h : l < 7) : shF acc l = ((cnF acc 0 l : Nat) : Int) ∧ shF acc (7 + l) = ((cnF acc 1 l : Nat) : Int) := by
  unfold shF
  exact ⟨by rw [show l / 7 = 0 by omega, show l % 7 = l by omega], by rw [show (7 + l) / 7 = 1 by omega, show (7 + l) % 7 = l by omega]⟩
theorem lnC_congr {c d : Nat → Nat} : ∀ b, (∀ l, l < b → c l = d l) → lnC c b = lnC d b
  | 0, _ => rfl
  | b + 1, h => by unfold lnC; rw [lnC_congr b (fun l hl => h l (by omega)), h b (by omega)]
theorem lnC_inj {c d : Nat → Nat} (h : lnC c 7 = lnC d 7) : ∀ l, l < 7 → c l = d l := fun l hl => by
  have h1 := lnC_count c (l : Int) 7
  have h2 := lnC_count d (l : Int) 7
  rw [if_pos (by omega), Int.toNat_natCast] at h1 h2
  rw [← h1, ← h2, h]
theorem al_eqS {f g : List Int} (h : isC f = true) (h' : isC g = true) : eqS (shF (accL f)) (shF (accL g)) = decide (shCL f = shCL g ∧ shYL f = shYL g) := by
  have e1 : shCL f = lnC (cnF (accL f) 0) 7 ∧ shYL f = lnC (cnF (accL f) 1) 7 := ⟨by rw [(acc_C h).1, (shL h).1], by rw [(acc_C h).2, (shL h).2]⟩
  have e2 : shCL g = lnC (cnF (accL g) 0) 7 ∧ shYL g = lnC (cnF (accL g) 1) 7 := ⟨by rw [(acc_C h').1, (shL h').1], by rw [(acc_C h').2, (shL h').2]⟩
  have hiff : eqS (shF (accL f)) (shF (accL g)) = true ↔ (shCL f = shCL g ∧ shYL f = shYL g) := by
    rw [eqS_iff, e1.1, e1.2, e2.1, e2.2]
    constructor
    · intro hy
      refine ⟨lnC_congr 7 (fun l hl => ?_), lnC_congr 7 (fun l hl => ?_)⟩
      · have := hy l (by omega); rw [(shF_at _ hl).1, (shF_at _ hl).1] at this; omega
      · have := hy (7 + l) (by omega); rw [(shF_at _ hl).2, (shF_at _ hl).2] at this; omega
    · rintro ⟨h1, h2⟩ j hj
      have i1 := lnC_inj h1
      have i2 := lnC_inj h2
      by_cases hl : j < 7
      · rw [(shF_at _ hl).1, (shF_at _ hl).1, i1 j hl]
      · obtain ⟨l, rfl⟩ : ∃ l, j = 7 + l := ⟨j - 7, by omega⟩
        rw [(shF_at _ (by omega)).2, (shF_at _ (by omega)).2, i2 l (by omega)]
  cases he : eqS (shF (accL f)) (shF (accL g))
  · exact (decide_eq_false (fun hh => by rw [hiff.2 hh] at he; cases he)).symm
  · exact (decide_eq_true (hiff.1 he)).symm
theorem alB_no {f g : List Int} (h : isP f g = false) : alB f g = false := by
  cases ha : alB f g
  · rfl
  · obtain ⟨a, b, c, d⟩ := alB_iff.1 ha
    have h1 := sum_shape a
    have h2 := sum_shape b
    rw [c, d] at h1
    have : isP f g = true := by simp [isP, a, b]; omega
    rw [this] at h; cases h
theorem alB_yes {f g : List Int} (h : isP f g = true) : alB f g = eqS (shF (accL f)) (shF (accL g)) := by
  have hl := isP_yes h
  rw [al_eqS hl.1 hl.2.1]
  unfold alB
  rw [hl.1, hl.2.1]
  simp

set_option maxHeartbeats 8000000 in
theorem implAlike_any (A B : Option Addr) (n m c d : Nat) (zs ys : List Int) (w : World) (h : RI w A n zs) (h' : RI w B m ys) (hn : n ≤ 1048576) (hm : m ≤ 1048576) :
    Calls Try.prog 25 #[.slice A n c, .slice B m d] w fun e w' => e = .returned (.bool (alB zs ys)) ∧ Below w.heap.size w w' := by
  cases hP : isP zs ys
  · have HL := Lib.hid (alB_no hP)
    have HP := Lib.hid hP
    clear hP
    go_enter Try.func25, Try.ntmps25
    go_wp2_with fail
    refine (chartPair_any _ _ _ _ _ _ _ _ _ h h').mono ?_
    rintro e w1 ⟨k, T, G, rfl, hk, hT, hG, hb⟩
    rw [HP.out]
    have hB := pairC hb hb.size (.cells #[.int .i64 ((k : Int)), .int .i64 (T 0), .int .i64 (T 1), .int .i64 (T 2), .int .i64 (T 3), .int .i64 (T 4), .int .i64 (T 5)] 49) (.cells #[.int .i64 ((k : Int)), .int .i64 (G 0), .int .i64 (G 1), .int .i64 (G 2), .int .i64 (G 3), .int .i64 (G 4), .int .i64 (G 5)] 49)
    clear hk hT hG hb
    go_wp2
    go_quiet (fail)
    go_wp2
    go_ret
    exact ⟨by rw [HL.out]; rfl, ⟨hB.os, hB.tape, hB.output, hB.size, hB.block⟩⟩
  have hl := isP_yes hP
  have HL := Lib.hid (alB_yes hP)
  have HP := Lib.hid hP
  have hF1 : fk zs = zs.length := fk_yes hl.1
  have hF2 : fk ys = zs.length := (fk_yes hl.2.1).trans hl.2.2.symm
  have hpk : pk zs ys = zs.length := by simp [pk, hP]
  have hpF : ∀ j, pF zs ys j = fT zs j := fun j => by simp [pF, hP, fT_yes hl.1]
  have hpG : ∀ j, pG zs ys j = fT ys j := fun j => by simp [pG, hP, fT_yes hl.2.1]
  clear hP
  go_enter Try.func25, Try.ntmps25
  go_wp2_with fail
  refine (chartPair_any _ _ _ _ _ _ _ _ _ h h').mono ?_
  rintro e w1 ⟨k, T, G, rfl, hk, hT, hG, hb⟩
  rw [HP.out]
  obtain rfl := hk.trans hpk
  have hW1 : Hid (WaysSay zs.length T (accL zs)) := by have := ways_say zs T (fun j hj => (hT j hj).trans (hpF j)); rw [hF1] at this; exact this
  have hW2 : Hid (WaysSay zs.length G (accL ys)) := by have := ways_say ys G (fun j hj => (hG j hj).trans (hpG j)); rw [hF2] at this; exact this
  have hc := (Cb.new w1 zs.length T).alloc (.cells #[.int .i64 ((zs.length : Int)), .int .i64 (G 0), .int .i64 (G 1), .int .i64 (G 2), .int .i64 (G 3), .int .i64 (G 4), .int .i64 (G 5)] 49)
  have hd := Cb.new (w1.alloc (.cells #[.int .i64 ((zs.length : Int)), .int .i64 (T 0), .int .i64 (T 1), .int .i64 (T 2), .int .i64 (T 3), .int .i64 (T 4), .int .i64 (T 5)] 49)) zs.length G
  rw [World.size_alloc] at hd
  have hB := pairC hb hb.size (.cells #[.int .i64 ((zs.length : Int)), .int .i64 (T 0), .int .i64 (T 1), .int .i64 (T 2), .int .i64 (T 3), .int .i64 (T 4), .int .i64 (T 5)] 49) (.cells #[.int .i64 ((zs.length : Int)), .int .i64 (G 0), .int .i64 (G 1), .int .i64 (G 2), .int .i64 (G 3), .int .i64 (G 4), .int .i64 (G 5)] 49)
  have hz : w1.heap.size + 2 ≤ ((w1.alloc (.cells #[.int .i64 ((zs.length : Int)), .int .i64 (T 0), .int .i64 (T 1), .int .i64 (T 2), .int .i64 (T 3), .int .i64 (T 4), .int .i64 (T 5)] 49)).alloc (.cells #[.int .i64 ((zs.length : Int)), .int .i64 (G 0), .int .i64 (G 1), .int .i64 (G 2), .int .i64 (G 3), .int .i64 (G 4), .int .i64 (G 5)] 49)).heap.size := by simp
  have hzw := hb.size
  have hae : ∀ W : World, (Op.equalIn 10000 72 (.agg #[.int .i64 ((shF (accL zs)) 0), .int .i64 ((shF (accL zs)) 1), .int .i64 ((shF (accL zs)) 2), .int .i64 ((shF (accL zs)) 3), .int .i64 ((shF (accL zs)) 4), .int .i64 ((shF (accL zs)) 5), .int .i64 ((shF (accL zs)) 6), .int .i64 ((shF (accL zs)) 7), .int .i64 ((shF (accL zs)) 8), .int .i64 ((shF (accL zs)) 9), .int .i64 ((shF (accL zs)) 10), .int .i64 ((shF (accL zs)) 11), .int .i64 ((shF (accL zs)) 12), .int .i64 ((shF (accL zs)) 13)]) (.agg #[.int .i64 ((shF (accL ys)) 0), .int .i64 ((shF (accL ys)) 1), .int .i64 ((shF (accL ys)) 2), .int .i64 ((shF (accL ys)) 3), .int .i64 ((shF (accL ys)) 4), .int .i64 ((shF (accL ys)) 5), .int .i64 ((shF (accL ys)) 6), .int .i64 ((shF (accL ys)) 7), .int .i64 ((shF (accL ys)) 8), .int .i64 ((shF (accL ys)) 9), .int .i64 ((shF (accL ys)) 10), .int .i64 ((shF (accL ys)) 11), .int .i64 ((shF (accL ys)) 12), .int .i64 ((shF (accL ys)) 13)])).run Try.prog W = .ok (eqS (shF (accL zs)) (shF (accL ys))) W := fun W => shp_eq _ _ W
  have HA1 := Lib.hid (accL_in zs)
  have HA2 := Lib.hid (accL_in ys)
  have HB1 := Lib.hid (accL_len zs)
  have HB2 := Lib.hid (accL_len ys)
  clear hk hT hG hpk hpF hpG hb h h' hF1 hF2 hl
  generalize zs.length = k at *
  generalize accL zs = ac1 at *
  generalize accL ys = ac2 at *
  go_wp2_with fail
  generalize (w1.alloc (.cells #[.int .i64 ((k : Int)), .int .i64 (T 0), .int .i64 (T 1), .int .i64 (T 2), .int .i64 (T 3), .int .i64 (T 4), .int .i64 (T 5)] 49)).alloc (.cells #[.int .i64 ((k : Int)), .int .i64 (G 0), .int .i64 (G 1), .int .i64 (G 2), .int .i64 (G 3), .int .i64 (G 4), .int .i64 (G 5)] 49) = W0 at hc hd hB hz ⊢
  have tok1 : True := trivial
  have tok2 : True := trivial
  go_region_held3 (fun w' => w'.cell? ⟨w1.heap.size, 0, none⟩ = some (.int .i64 k) ∧ w'.cell? ⟨w1.heap.size, 1, none⟩ = some (.int .i64 (T 0)) ∧ w'.cell? ⟨w1.heap.size, 2, none⟩ = some (.int .i64 (T 1)) ∧ w'.cell? ⟨w1.heap.size, 3, none⟩ = some (.int .i64 (T 2)) ∧ w'.cell? ⟨w1.heap.size, 4, none⟩ = some (.int .i64 (T 3)) ∧ w'.cell? ⟨w1.heap.size, 5, none⟩ = some (.int .i64 (T 4)) ∧ w'.cell? ⟨w1.heap.size, 6, none⟩ = some (.int .i64 (T 5)) ∧ w'.cell? ⟨w1.heap.size + 1, 0, none⟩ = some (.int .i64 k) ∧ w'.cell? ⟨w1.heap.size + 1, 1, none⟩ = some (.int .i64 (G 0)) ∧ w'.cell? ⟨w1.heap.size + 1, 2, none⟩ = some (.int .i64 (G 1)) ∧ w'.cell? ⟨w1.heap.size + 1, 3, none⟩ = some (.int .i64 (G 2)) ∧ w'.cell? ⟨w1.heap.size + 1, 4, none⟩ = some (.int .i64 (G 3)) ∧ w'.cell? ⟨w1.heap.size + 1, 5, none⟩ = some (.int .i64 (G 4)) ∧ w'.cell? ⟨w1.heap.size + 1, 6, none⟩ = some (.int .i64 (G 5)))
    (first | exact s14 (by assumption) (by assumption) | go_keep)
    (first
      | (go_at_call 56
         have _t := tok1
         refine (shape_any k T ac1 HA1.out HB1.out hW1.out _).mono ?_
         rintro e w2 ⟨rfl, hbx⟩
         have hc := cb_keep hbx hc rfl
         have hd := cb_keep hbx hd rfl
         have hB := bel_keep hbx hB rfl rfl rfl rfl hB.size
         clear tok1 _t hbx)
      | (go_at_call 56
         have _t := tok2
         refine (shape_any k G ac2 HA2.out HB2.out hW2.out _).mono ?_
         rintro e w3 ⟨rfl, hbx⟩
         have hc := cb_keep hbx hc rfl
         have hd := cb_keep hbx hd rfl
         have hB := bel_keep hbx hB rfl rfl rfl rfl hB.size
         clear tok2 _t hbx))
  go_wp2
  go_ret
  exact ⟨by rw [HL.out]; rfl, hB⟩
end

end Go.Proofs.Ytckppfgooflooab
