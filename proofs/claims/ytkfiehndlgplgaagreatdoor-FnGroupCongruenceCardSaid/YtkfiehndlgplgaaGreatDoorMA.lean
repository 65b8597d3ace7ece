/-
  Math Util In Fold Still Of Moved Turned Times Meet Cut Join Dom List.
-/
import Derived.WalkKit
import Derived.Deep.QuietTactic
import Derived.BigQuiet
import Derived.Outline
import Derived.RangeFuncNested
import Derived.RangeFuncBound
import Derived.RangeFuncCalls
import Derived.RangeFuncLeaves
import Derived.Shelf.Abstract
import Derived.Shelf.RegionOpen
import Derived.OwnWalkIn
import Derived.TacticsInMore
import Derived.LoopNIn
import Derived.LoopIn
import Derived.RegionTactic
import Derived.Laws.CopyOwn
import Derived.Test.YtkfiehndlgplgaaGreatDoorM0
namespace Go.Proofs.YtkfiehndlgplgaaGreatDoor
set_option maxRecDepth 100000
set_option linter.unusedVariables false
set_option linter.unusedSimpArgs false
set_option linter.unusedSectionVars false

/-! The plain mathematics of charts: no program. -/
section
def inB (n lo hi : Int) : Bool := decide (lo ≤ n ∧ n ≤ hi)

/-- from here on the list goes on being a chart of n points, the points of the mask m being met already -/
def okFrom (n : Nat) : Nat → List Int → Bool
  | _, [] => true
  | m, z :: zs => if z = -1 then okFrom n m zs else if 0 ≤ z ∧ z < n ∧ m.testBit z.toNat = false then okFrom n (m ||| 1 <<< z.toNat) zs else false

/-- the list is a chart -/
def isC (zs : List Int) : Bool := decide (1 ≤ zs.length ∧ zs.length ≤ 6) && okFrom zs.length 0 zs

theorem okFrom_drop (n m : Nat) (zs : List Int) {k : Nat} (hk : k < zs.length) : okFrom n m (zs.drop k) =
    if zs[k]?.getD 0 = -1 then okFrom n m (zs.drop (k + 1)) else if 0 ≤ zs[k]?.getD 0 ∧ zs[k]?.getD 0 < n ∧ m.testBit (zs[k]?.getD 0).toNat = false then okFrom n (m ||| 1 <<< (zs[k]?.getD 0).toNat) (zs.drop (k + 1)) else false := by
  rw [List.drop_eq_getElem_cons hk, List.getElem?_eq_getElem hk]
  rfl

theorem isC_long {zs : List Int} (h : 6 < zs.length) : isC zs = false := by simp [isC]; omega
theorem isC_short {zs : List Int} (h : zs.length = 0) : isC zs = false := by simp [isC]; omega
theorem isC_mid {zs : List Int} (h1 : 1 ≤ zs.length) (h2 : zs.length ≤ 6) : isC zs = okFrom zs.length 0 zs := by simp [isC, h1, h2]

theorem mask_lt : ∀ (m : Fin 64) (z : Fin 6), (m.val ||| 1 <<< z.val) < 64 := by decide +kernel
theorem mask_lt' {m z : Nat} (hm : m < 64) (hz : z < 6) : (m ||| 1 <<< z) < 64 := mask_lt ⟨m, hm⟩ ⟨z, hz⟩

/-- what is known of a list that is a chart -/
theorem okFrom_mem {n : Nat} : ∀ {zs : List Int} {m : Nat}, okFrom n m zs = true → ∀ z ∈ zs, -1 ≤ z ∧ z < n ∨ z = -1
  | [], _, _, z, hz => by cases hz
  | y :: zs, m, h, z, hz => by
    unfold okFrom at h
    by_cases hy : y = -1
    · rw [if_pos hy] at h
      rcases List.mem_cons.1 hz with rfl | hz
      · exact .inr hy
      · exact okFrom_mem h z hz
    · rw [if_neg hy] at h
      by_cases hc : 0 ≤ y ∧ y < n ∧ m.testBit y.toNat = false
      · rw [if_pos hc] at h
        rcases List.mem_cons.1 hz with rfl | hz
        · exact .inl ⟨by omega, hc.2.1⟩
        · exact okFrom_mem h z hz
      · rw [if_neg hc] at h; cases h
end

/-! The laws' own small functions on slices of ints: copies of them, equality. -/
section
open Go.RowKit

theorem fill_step (zs : List Int) {n k : Nat} (hk : k < n) (hn : zs.length = n) : (ivs (zs.take k ++ List.replicate (n - k) 0)).set k (.int .i64 (zs[k]?.getD 0)) = ivs (zs.take (k + 1) ++ List.replicate (n - (k + 1)) 0) := by
  unfold ivs
  apply List.ext_getElem?
  intro j
  have hl : (zs.take k).length = k := by simp; omega
  have hl1 : (zs.take (k + 1)).length = k + 1 := by simp; omega
  simp only [List.getElem?_set, List.length_map, List.length_append, hl, hl1, List.length_replicate, List.getElem?_map, List.getElem?_append, List.getElem?_take, List.getElem?_replicate]
  by_cases e : k = j
  · subst e
    simp [List.getElem?_eq_getElem (show k < zs.length by omega)]
    omega
  · by_cases h1 : j < k
    · simp [e, h1, show j < k + 1 by omega]
    · simp [e, h1, show ¬ j < k + 1 by omega]
      by_cases h2 : j < n
      · simp [show j - k < n - k by omega, show j - (k + 1) < n - (k + 1) by omega]
      · simp [show ¬ j - k < n - k by omega, show ¬ j - (k + 1) < n - (k + 1) by omega]


/-- two lists part at a place below k -/
theorem eq_of_take {zs ys : List Int} {n : Nat} (h1 : zs.length = n) (h2 : ys.length = n) (h : zs.take n = ys.take n) : zs = ys := by
  rwa [List.take_of_length_le (by omega), List.take_of_length_le (by omega)] at h
theorem take_snoc_get (zs : List Int) {k : Nat} (hk : k < zs.length) : zs.take (k + 1) = zs.take k ++ [zs[k]?.getD 0] := by
  rw [List.take_succ_eq_append_getElem hk, List.getElem?_eq_getElem hk]; rfl

def EqPost (zs ys : List Int) (w : World) (e : Ending) (w' : World) : Prop := e = .returned (.bool (decide (zs = ys))) ∧ Below w.heap.size w w'


set_option maxHeartbeats 400000 in
/-- sameInts: whether two slices read as the same list -/
theorem sameInts_any (A B : Option Addr) (n m c d : Nat) (zs ys : List Int) (w : World) (h : RI w A n zs) (h' : RI w B m ys) (hn : n ≤ 1048576) :
    Calls Tryz.prog 15 #[.slice A n c, .slice B m d] w (EqPost zs ys w) := by
  by_cases hnm : n = m
  · subst hnm
    have HL := Lib.hid h.len
    have HL' := Lib.hid h'.len
    go_enter Tryz.func15, Tryz.ntmps15
    go_wp2
    go_loopw [5] (fun i wr => ∃ k : Nat, k ≤ n ∧ i = .int .i64 k ∧ Hid (zs.take k = ys.take k) ∧ Below w.heap.size w wr) (fun i _ => n - (intOf i).toNat)
    case atStart => exact ⟨0, Nat.zero_le _, rfl, Lib.hid rfl, Below.refl _ _⟩
    case round =>
      obtain ⟨k, hk, rfl, HT, hbel⟩ := hrel
      by_cases hlt : k < n
      · obtain ⟨ad, rfl, hab, hc⟩ := h.at_ hlt
        obtain ⟨ad', rfl, hab', hc'⟩ := h'.at_ hlt
        have g := (hbel.cell (p := ad.add k) (by rw [block_of_add]; exact hab)).trans hc
        have g' := (hbel.cell (p := ad'.add k) (by rw [block_of_add]; exact hab')).trans hc'
        clear hc hc' h h'
        by_cases he : zs[k]?.getD 0 = ys[k]?.getD 0
        · have ht : ((zs[k]?.getD 0 : Int) != ys[k]?.getD 0) = false := by simp [he]
          have HE := Lib.hid he
          clear he
          go_wp2
          go_quiet (fail)
          all_goals go_wp2
          go_roundw
          case rel =>
            refine ⟨k + 1, by omega, by go_num, ?_, below_drewN hbel _⟩
            show zs.take (k + 1) = ys.take (k + 1)
            rw [take_snoc_get zs (by have := HL.out; omega), take_snoc_get ys (by have := HL'.out; omega), HT.out, HE.out]
          case measure => simp [intOf]; omega
        · have ht : ((zs[k]?.getD 0 : Int) != ys[k]?.getD 0) = true := by simp [he]
          go_wp2
          go_quiet (fail)
          all_goals go_wp2
          go_ret
          refine ⟨?_, below_drewN hbel _⟩
          rw [decide_eq_false (fun e => he (by rw [e]))]
          rfl
      · obtain rfl : k = n := by omega
        go_wp2
        go_ret
        refine ⟨?_, hbel⟩
        rw [decide_eq_true (eq_of_take HL.out HL'.out HT.out)]
        rfl
  · have hb : ((n : Int) != (m : Int)) = true := by rw [bne_iff_ne]; omega
    have HL := Lib.hid h.len
    have HL' := Lib.hid h'.len
    go_enter Tryz.func15, Tryz.ntmps15
    go_wp2
    go_ret
    refine ⟨?_, Below.refl _ _⟩
    rw [decide_eq_false (fun e => hnm (by rw [← HL.out, ← HL'.out, e]))]
    rfl
end

/-! spec.l6In, spec.ChartIn: which lists are charts. -/
section
open Go.RowKit

theorem l6In_any (n lo hi : Int) (w : World) : Calls Tryz.prog 136 #[.int .i64 n, .int .i64 lo, .int .i64 hi] w fun e w' => e = .returned (.bool (inB n lo hi)) ∧ w = w' := by
  by_cases h1 : lo ≤ n
  · by_cases h2 : n ≤ hi
    · have hb : inB n lo hi = true := by simp [inB, h1, h2]
      have HB := Lib.hid hb
      clear hb
      go_enter Tryz.func136, Tryz.ntmps136
      go_wp2
      go_ret
      exact ⟨by rw [HB.out]; rfl, rfl⟩
    · have hb : inB n lo hi = false := by simp [inB, h2]
      have HB := Lib.hid hb
      clear hb
      go_enter Tryz.func136, Tryz.ntmps136
      go_wp2
      go_ret
      exact ⟨by rw [HB.out]; rfl, rfl⟩
  · have hb : inB n lo hi = false := by simp [inB, h1]
    have HB := Lib.hid hb
    clear hb
    go_enter Tryz.func136, Tryz.ntmps136
    go_wp2
    go_ret
    exact ⟨by rw [HB.out]; rfl, rfl⟩

/-- the bit z of the mask m, as the program asks it -/
theorem bit_fin : ∀ (m : Fin 64) (z : Fin 6), (bits BinOp.and IntKind.i64 ((m.val : Int) / 2 ^ z.val) 1 == 1) = m.val.testBit z.val := by decide +kernel
theorem bit_is {m : Nat} {z : Int} (hm : m < 64) (h0 : 0 ≤ z) (h6 : z < 6) : (bits BinOp.and IntKind.i64 ((m : Int) / 2 ^ z.toNat) 1 == 1) = m.testBit z.toNat :=
  bit_fin ⟨m, hm⟩ ⟨z.toNat, by omega⟩
theorem set_fin : ∀ (m : Fin 64) (z : Fin 6), bits BinOp.or IntKind.i64 (m.val : Int) (wrap64 (2 ^ z.val)) = ((m.val ||| 1 <<< z.val : Nat) : Int) := by decide +kernel
theorem set_is {m : Nat} {z : Int} (hm : m < 64) (h0 : 0 ≤ z) (h6 : z < 6) : bits BinOp.or IntKind.i64 (m : Int) (wrap64 (2 ^ z.toNat)) = ((m ||| 1 <<< z.toNat : Nat) : Int) :=
  set_fin ⟨m, hm⟩ ⟨z.toNat, by omega⟩

set_option maxHeartbeats 400000 in
/-- spec.ChartIn at a list of more than six numbers: false -/
theorem specIn_long (A : Option Addr) (n c : Nat) (zs : List Int) (w : World) (h : RI w A n zs) (hn : n ≤ 1048576) (h6 : 6 < n) :
    Calls Tryz.prog 120 #[.slice A n c] w fun e w' => e = .returned (.bool false) ∧ w = w' := by
  go_enter Tryz.func120, Tryz.ntmps120
  go_wp2
  go_loop [3, 4] (fun s i => ∃ (k : Nat) (v : Int), k ≤ n ∧ i = .int .i64 k ∧ s = .int .i64 v) (fun _ i => n - (intOf i).toNat)
  case atStart => exact ⟨0, 0, Nat.zero_le _, rfl, rfl⟩
  case round =>
    obtain ⟨k, v, hk, rfl, rfl⟩ := hrel
    by_cases hlt : k < n
    · obtain ⟨ad, rfl, hab, hc⟩ := h.at_ hlt
      generalize zs[k]?.getD 0 = z at hc
      clear h
      by_cases hz : -1 ≤ z ∧ z ≤ n - 1
      · have HI := Lib.hid (show inB z (-1) (n - 1) = true by simp [inB, hz])
        go_wp2_with (go_at_call 136; refine (l6In_any _ _ _ _).mono ?_; rintro e w' ⟨rfl, rfl⟩; rw [HI.out])
        · go_ret
          exact ⟨rfl, rfl⟩
        · exact ⟨⟨k + 1, _, by omega, by go_num, rfl⟩, by simp [intOf]; omega⟩
        · exact ⟨⟨k + 1, _, by omega, by go_num, rfl⟩, by simp [intOf]; omega⟩
      · have HI := Lib.hid (show inB z (-1) (n - 1) = false by simp [inB]; omega)
        go_wp2_with (go_at_call 136; refine (l6In_any _ _ _ _).mono ?_; rintro e w' ⟨rfl, rfl⟩; rw [HI.out])
        go_ret
        exact ⟨rfl, rfl⟩
    · obtain rfl : k = n := by omega
      have HI := Lib.hid (show inB k 1 6 = false by simp [inB]; omega)
      go_wp2_with (go_at_call 136; refine (l6In_any _ _ _ _).mono ?_; rintro e w' ⟨rfl, rfl⟩; rw [HI.out])
      go_ret
      exact ⟨rfl, rfl⟩

set_option maxHeartbeats 400000 in
/-- spec.ChartIn at a list of at most six numbers -/
theorem specIn_short (A : Option Addr) (n c : Nat) (zs : List Int) (w : World) (h : RI w A n zs) (h6 : n ≤ 6) :
    Calls Tryz.prog 120 #[.slice A n c] w fun e w' => e = .returned (.bool (isC zs)) ∧ w = w' := by
  have HL := Lib.hid h.len
  go_enter Tryz.func120, Tryz.ntmps120
  go_wp2
  go_loop [3, 4] (fun s i => ∃ k m : Nat, k ≤ n ∧ m < 64 ∧ i = .int .i64 k ∧ s = .int .i64 m ∧ Hid (okFrom n m (zs.drop k) = okFrom n 0 zs)) (fun _ i => n - (intOf i).toNat)
  case atStart => exact ⟨0, 0, Nat.zero_le _, by omega, rfl, rfl, Lib.hid rfl⟩
  case round =>
    obtain ⟨k, m, hk, hm, rfl, rfl, HO⟩ := hrel
    by_cases hlt : k < n
    · obtain ⟨ad, rfl, hab, hc⟩ := h.at_ hlt
      have hd := okFrom_drop n m zs (k := k) (by have := HL.out; omega)
      rw [HO.out] at hd
      have hmid : isC zs = okFrom n 0 zs := by have := HL.out; rw [isC_mid (by omega) (by omega), HL.out]
      generalize zs[k]?.getD 0 = z at hc hd
      clear h
      by_cases hz : -1 ≤ z ∧ z ≤ n - 1
      · have HI := Lib.hid (show inB z (-1) (n - 1) = true by simp [inB, hz])
        obtain ⟨hz1, hz2⟩ := hz
        by_cases hz0 : 0 ≤ z
        · rw [if_neg (by omega)] at hd
          have hbit := bit_is hm hz0 (show z < 6 by omega)
          cases hb : m.testBit z.toNat
          · rw [hb] at hbit
            rw [if_pos ⟨hz0, by omega, hb⟩] at hd
            have HD := Lib.hid hd
            have HS := Lib.hid (set_is hm hz0 (show z < 6 by omega))
            have HLT := Lib.hid (mask_lt' hm (show z.toNat < 6 by omega))
            clear hd hmid hb
            go_wp2_with (go_at_call 136; refine (l6In_any _ _ _ _).mono ?_; rintro e w' ⟨rfl, rfl⟩; rw [HI.out])
            go_round
            case rel => exact ⟨k + 1, _, by omega, HLT.out, by go_num, by rw [HS.out], Lib.hid HD.out.symm⟩
            case measure => simp [intOf]; omega
          · rw [hb] at hbit
            rw [if_neg (by rw [hb]; simp)] at hd
            have HM := Lib.hid (hmid.trans hd)
            clear hd hmid hb
            go_wp2_with (go_at_call 136; refine (l6In_any _ _ _ _).mono ?_; rintro e w' ⟨rfl, rfl⟩; rw [HI.out])
            go_ret
            exact ⟨by rw [HM.out]; rfl, rfl⟩
        · obtain rfl : z = -1 := by omega
          rw [if_pos rfl] at hd
          have HD := Lib.hid hd
          clear hd hmid
          go_wp2_with (go_at_call 136; refine (l6In_any _ _ _ _).mono ?_; rintro e w' ⟨rfl, rfl⟩; rw [HI.out])
          go_round
          case rel => exact ⟨k + 1, m, by omega, hm, by go_num, rfl, Lib.hid HD.out.symm⟩
          case measure => simp [intOf]; omega
      · have HI := Lib.hid (show inB z (-1) (n - 1) = false by simp [inB]; omega)
        rw [if_neg (by omega), if_neg (by omega)] at hd
        have HM := Lib.hid (hmid.trans hd)
        clear hd hmid
        go_wp2_with (go_at_call 136; refine (l6In_any _ _ _ _).mono ?_; rintro e w' ⟨rfl, rfl⟩; rw [HI.out])
        go_ret
        exact ⟨by rw [HM.out]; rfl, rfl⟩
    · obtain rfl : k = n := by omega
      have he : okFrom k 0 zs = true := by rw [← HO.out, List.drop_eq_nil_of_le (by have := HL.out; omega)]; rfl
      have HI : Hid (inB k 1 6 = isC zs) := by
        show inB k 1 6 = isC zs
        by_cases h1 : 1 ≤ k
        · have := HL.out
          rw [isC_mid (by omega) (by omega), this, he]
          simp [inB]; omega
        · rw [isC_short (by have := HL.out; omega)]
          simp [inB]; omega
      clear he
      go_wp2_with (go_at_call 136; refine (l6In_any _ _ _ _).mono ?_; rintro e w' ⟨rfl, rfl⟩; rw [HI.out])
      go_ret
      exact ⟨rfl, rfl⟩

/-- spec.ChartIn -/
theorem specIn_any (A : Option Addr) (n c : Nat) (zs : List Int) (w : World) (h : RI w A n zs) (hn : n ≤ 1048576) :
    Calls Tryz.prog 120 #[.slice A n c] w fun e w' => e = .returned (.bool (isC zs)) ∧ w = w' := by
  by_cases h6 : n ≤ 6
  · exact specIn_short A n c zs w h h6
  · rw [isC_long (by have := h.len; omega)]
    exact specIn_long A n c zs w h hn (by omega)
end

/-! Charts as folds over their moved points, and these folds' closed forms: no program. -/
section
/-- what impl.chartOf gives for a list that it takes for a chart -/
def ofL (zs : List Int) (j : Nat) : Int := zs[j]?.getD 0

/-- the list of a chart's places -/
def LT (n : Nat) (T : Nat → Int) : List Int := (List.range n).map T
theorem LT_length (n : Nat) (T : Nat → Int) : (LT n T).length = n := by simp [LT]
theorem LT_get (n : Nat) (T : Nat → Int) (j : Nat) (h : j < n) : (LT n T)[j]?.getD 0 = T j := by simp [LT, h]

/-- a moved point and where it is moved -/
abbrev Pt := { x : Nat × Int // x.1 < 6 ∧ 0 ≤ x.2 ∧ x.2 < 6 }

/-- the moved points below k, in ascending order, and where each is moved -/
def mv (T : Nat → Int) : Nat → List Pt
  | 0 => []
  | k + 1 => if h : k < 6 ∧ 0 ≤ T k ∧ T k < 6 then mv T k ++ [⟨(k, T k), h⟩] else mv T k
theorem mv_skip {T : Nat → Int} {k : Nat} (h : T k = -1) : mv T (k + 1) = mv T k := by simp [mv, h]
theorem mv_step {T : Nat → Int} {k : Nat} (h : k < 6 ∧ 0 ≤ T k ∧ T k < 6) : mv T (k + 1) = mv T k ++ [⟨(k, T k), h⟩] := by simp [mv, h]
theorem mv_length (T : Nat → Int) : ∀ k, (mv T k).length ≤ k
  | 0 => by simp [mv]
  | k + 1 => by
    have := mv_length T k
    unfold mv
    split
    · simp; omega
    · omega

/-- the first n places are moved nowhere, or to one of six points -/
def Ok (n : Nat) (T : Nat → Int) : Prop := ∀ i, i < n → T i = -1 ∨ (0 ≤ T i ∧ T i < 6)

def stillF (n j : Nat) : Int := if j < n then -1 else 0
def turnS (S : Nat → Int) (x : Pt) : Nat → Int := fun j => if j = x.1.2.toNat then (x.1.1 : Int) else S j
def turnL (n : Nat) (xs : List Pt) : Nat → Int := xs.foldl turnS (stillF n)
theorem turnL_snoc (n : Nat) (xs : List Pt) (x : Pt) : turnL n (xs ++ [x]) = turnS (turnL n xs) x := by simp [turnL]

def timesS (D S : Nat → Int) (x : Pt) : Nat → Int := fun j => if j = x.1.1 then D x.1.2.toNat else S j
def timesL (n : Nat) (G : Nat → Int) (xs : List Pt) : Nat → Int := xs.foldl (timesS G) (stillF n)
theorem timesL_snoc (n : Nat) (G : Nat → Int) (xs : List Pt) (x : Pt) : timesL n G (xs ++ [x]) = timesS G (timesL n G xs) x := by simp [timesL]
def meetS (D S : Nat → Int) (x : Pt) : Nat → Int := fun j => if j = x.1.1 ∧ D x.1.1 = x.1.2 then x.1.2 else S j
def meetL (n : Nat) (G : Nat → Int) (xs : List Pt) : Nat → Int := xs.foldl (meetS G) (stillF n)
theorem meetL_snoc (n : Nat) (G : Nat → Int) (xs : List Pt) (x : Pt) : meetL n G (xs ++ [x]) = meetS G (meetL n G xs) x := by simp [meetL]
def cutS (m : Nat) (S : Nat → Int) (x : Pt) : Nat → Int := fun j => if j = x.1.1 ∧ m.testBit x.1.1 = true then x.1.2 else S j
def cutL (n m : Nat) (xs : List Pt) : Nat → Int := xs.foldl (cutS m) (stillF n)
theorem cutL_snoc (n m : Nat) (xs : List Pt) (x : Pt) : cutL n m (xs ++ [x]) = cutS m (cutL n m xs) x := by simp [cutL]
def joinS (S : Nat → Int) (x : Pt) : Nat → Int := fun j => if j = x.1.1 then x.1.2 else S j
def joinL (T : Nat → Int) (xs : List Pt) : Nat → Int := xs.foldl joinS T
theorem joinL_snoc (T : Nat → Int) (xs : List Pt) (x : Pt) : joinL T (xs ++ [x]) = joinS (joinL T xs) x := by simp [joinL]

/-- no point is moved to another one -/
def idemL (xs : List Pt) : Bool := xs.all fun x => decide ((x.1.1 : Int) = x.1.2)
theorem idemL_snoc (xs : List Pt) (x : Pt) : idemL (xs ++ [x]) = (idemL xs && decide ((x.1.1 : Int) = x.1.2)) := by simp [idemL]
theorem mv_prefix (T : Nat → Int) {k : Nat} : ∀ {n : Nat}, k ≤ n → mv T k <+: mv T n
  | 0, h => by obtain rfl : k = 0 := by omega
               exact List.prefix_refl _
  | n + 1, h => by
    by_cases e : k = n + 1
    · subst e; exact List.prefix_refl _
    · have ih := mv_prefix T (k := k) (n := n) (by omega)
      by_cases hc : n < 6 ∧ 0 ≤ T n ∧ T n < 6
      · rw [mv_step hc]; exact ih.trans (List.prefix_append _ _)
      · have : mv T (n + 1) = mv T n := by simp [mv, hc]
        rw [this]; exact ih
theorem idemL_take {T : Nat → Int} {k n : Nat} (hk : k ≤ n) (h : idemL (mv T k) = false) : idemL (mv T n) = false := by
  obtain ⟨ys, hys⟩ := mv_prefix T hk
  rw [← hys]; unfold idemL at *; rw [List.all_append, h]; rfl

/-- the set of the points that come -/
def domL (xs : List Pt) : Nat := xs.foldl (fun m x => m ||| 1 <<< x.1.1) 0
theorem domL_snoc (xs : List Pt) (x : Pt) : domL (xs ++ [x]) = domL xs ||| 1 <<< x.1.1 := by simp [domL]
theorem domL_lt (xs : List Pt) : domL xs < 64 := by
  have h : ∀ (ys : List Pt) (m : Nat), m < 64 → ys.foldl (fun m x => m ||| 1 <<< x.1.1) m < 64 := by
    intro ys
    induction ys with
    | nil => intro m hm; exact hm
    | cons y ys ih => intro m hm; exact ih _ (mask_lt' hm y.2.1)
  exact h xs 0 (by omega)


/-! ### closed forms -/
theorem times_closed (n : Nat) (D T : Nat → Int) (j : Nat) : ∀ k, k ≤ 6 → timesL n D (mv T k) j = if j < k ∧ 0 ≤ T j ∧ T j < 6 then D (T j).toNat else stillF n j
  | 0, _ => by simp [mv, timesL]
  | k + 1, hk => by
    have ih := times_closed n D T j k (by omega)
    by_cases hc : k < 6 ∧ 0 ≤ T k ∧ T k < 6
    · rw [mv_step hc, timesL_snoc]
      by_cases e : j = k
      · subst e; simp [timesS, hc]
      · simp only [timesS, e, if_false, ih]
        have : (j < k + 1 ∧ 0 ≤ T j ∧ T j < 6) ↔ (j < k ∧ 0 ≤ T j ∧ T j < 6) := by omega
        simp only [this]
    · have e0 : mv T (k + 1) = mv T k := by simp [mv, hc]
      rw [e0, ih]
      by_cases e : j = k
      · subst e; simp; intro h1 h2; exact absurd ⟨by omega, h1, h2⟩ hc
      · have : (j < k + 1 ∧ 0 ≤ T j ∧ T j < 6) ↔ (j < k ∧ 0 ≤ T j ∧ T j < 6) := by omega
        simp only [this]
theorem meet_closed (n : Nat) (D T : Nat → Int) (j : Nat) : ∀ k, k ≤ 6 → meetL n D (mv T k) j = if (j < k ∧ 0 ≤ T j ∧ T j < 6) ∧ D j = T j then T j else stillF n j
  | 0, _ => by simp [mv, meetL]
  | k + 1, hk => by
    have ih := meet_closed n D T j k (by omega)
    by_cases hc : k < 6 ∧ 0 ≤ T k ∧ T k < 6
    · rw [mv_step hc, meetL_snoc]
      by_cases e : j = k
      · subst e; simp [meetS, hc, ih]
      · simp only [meetS, e, false_and, if_false, ih]
        have : (j < k + 1 ∧ 0 ≤ T j ∧ T j < 6) ↔ (j < k ∧ 0 ≤ T j ∧ T j < 6) := by omega
        simp only [this]
    · have e0 : mv T (k + 1) = mv T k := by simp [mv, hc]
      rw [e0, ih]
      by_cases e : j = k
      · subst e; simp; intro h1 h2; exact absurd ⟨by omega, h1, h2⟩ hc
      · have : (j < k + 1 ∧ 0 ≤ T j ∧ T j < 6) ↔ (j < k ∧ 0 ≤ T j ∧ T j < 6) := by omega
        simp only [this]
theorem cut_closed (n m : Nat) (T : Nat → Int) (j : Nat) : ∀ k, k ≤ 6 → cutL n m (mv T k) j = if (j < k ∧ 0 ≤ T j ∧ T j < 6) ∧ m.testBit j = true then T j else stillF n j
  | 0, _ => by simp [mv, cutL]
  | k + 1, hk => by
    have ih := cut_closed n m T j k (by omega)
    by_cases hc : k < 6 ∧ 0 ≤ T k ∧ T k < 6
    · rw [mv_step hc, cutL_snoc]
      by_cases e : j = k
      · subst e; simp [cutS, hc, ih]
      · simp only [cutS, e, false_and, if_false, ih]
        have : (j < k + 1 ∧ 0 ≤ T j ∧ T j < 6) ↔ (j < k ∧ 0 ≤ T j ∧ T j < 6) := by omega
        simp only [this]
    · have e0 : mv T (k + 1) = mv T k := by simp [mv, hc]
      rw [e0, ih]
      by_cases e : j = k
      · subst e; simp; intro h1 h2; exact absurd ⟨by omega, h1, h2⟩ hc
      · have : (j < k + 1 ∧ 0 ≤ T j ∧ T j < 6) ↔ (j < k ∧ 0 ≤ T j ∧ T j < 6) := by omega
        simp only [this]
theorem join_closed (S D : Nat → Int) (j : Nat) : ∀ k, k ≤ 6 → joinL S (mv D k) j = if j < k ∧ 0 ≤ D j ∧ D j < 6 then D j else S j
  | 0, _ => by simp [mv, joinL]
  | k + 1, hk => by
    have ih := join_closed S D j k (by omega)
    by_cases hc : k < 6 ∧ 0 ≤ D k ∧ D k < 6
    · rw [mv_step hc, joinL_snoc]
      by_cases e : j = k
      · subst e; simp [joinS, hc]
      · simp only [joinS, e, if_false, ih]
        have : (j < k + 1 ∧ 0 ≤ D j ∧ D j < 6) ↔ (j < k ∧ 0 ≤ D j ∧ D j < 6) := by omega
        simp only [this]
    · have e0 : mv D (k + 1) = mv D k := by simp [mv, hc]
      rw [e0, ih]
      by_cases e : j = k
      · subst e; simp; intro h1 h2; exact absurd ⟨by omega, h1, h2⟩ hc
      · have : (j < k + 1 ∧ 0 ≤ D j ∧ D j < 6) ↔ (j < k ∧ 0 ≤ D j ∧ D j < 6) := by omega
        simp only [this]
theorem idem_closed (T : Nat → Int) : ∀ k, k ≤ 6 → (idemL (mv T k) = true ↔ ∀ j, j < k → 0 ≤ T j → T j < 6 → T j = j)
  | 0, _ => by simp [mv, idemL]
  | k + 1, hk => by
    have ih := idem_closed T k (by omega)
    by_cases hc : k < 6 ∧ 0 ≤ T k ∧ T k < 6
    · rw [mv_step hc, idemL_snoc, Bool.and_eq_true, ih]
      constructor
      · rintro ⟨h1, h2⟩ j hj h3 h4
        by_cases e : j = k
        · subst e; have := of_decide_eq_true h2; exact this.symm
        · exact h1 j (by omega) h3 h4
      · intro h
        exact ⟨fun j hj => h j (by omega), decide_eq_true (h k (by omega) hc.2.1 hc.2.2).symm⟩
    · have e0 : mv T (k + 1) = mv T k := by simp [mv, hc]
      rw [e0, ih]
      constructor
      · intro h j hj h3 h4
        by_cases e : j = k
        · subst e; exact absurd ⟨by omega, h3, h4⟩ hc
        · exact h j (by omega) h3 h4
      · intro h j hj; exact h j (by omega)

theorem LT_succ (k : Nat) (F : Nat → Int) : LT (k + 1) F = LT k F ++ [F k] := by simp [LT, List.range_succ]
theorem LT_congr {n : Nat} {F G : Nat → Int} (h : ∀ j, j < n → F j = G j) : LT n F = LT n G := by
  unfold LT; apply List.map_congr_left; intro j hj; exact h j (by simpa using hj)
theorem LT_set {n u : Nat} {S : Nat → Int} {i : Int} (_hu : u < n) : (LT n S).set u i = LT n (fun j => if j = u then i else S j) := by
  apply List.ext_getElem
  · simp [LT]
  · intro j h1 h2
    simp [LT, List.getElem_set]
    by_cases e : u = j
    · simp [e]
    · simp [e]; intro h; exact absurd h.symm e
theorem LT_ofL {n : Nat} {zs : List Int} (h : zs.length = n) : LT n (ofL zs) = zs := by
  apply List.ext_getElem
  · simp [LT, h]
  · intro j h1 h2
    simp [LT, ofL, List.getElem?_eq_getElem h2]

/-- the numbers of a list that is a chart of n points -/
def Ent (n : Nat) (zs : List Int) : Prop := ∀ j, j < n → zs[j]?.getD 0 = -1 ∨ (0 ≤ zs[j]?.getD 0 ∧ zs[j]?.getD 0 < n)

/-! ### a list as the chart that the program makes of it: no points where it is none -/
def fk (zs : List Int) : Nat := if isC zs = true then zs.length else 0
def fT (zs : List Int) (j : Nat) : Int := if isC zs = true then ofL zs j else 0
theorem fk_yes {zs : List Int} (h : isC zs = true) : fk zs = zs.length := by simp [fk, h]
theorem fk_no {zs : List Int} (h : isC zs = false) : fk zs = 0 := by simp [fk, h]
theorem fT_yes {zs : List Int} (h : isC zs = true) (j : Nat) : fT zs j = ofL zs j := by simp [fT, h]
theorem fT_no {zs : List Int} (h : isC zs = false) (j : Nat) : fT zs j = 0 := by simp [fT, h]
theorem isC_len {zs : List Int} (h : isC zs = true) : 1 ≤ zs.length ∧ zs.length ≤ 6 := by
  unfold isC at h; rw [Bool.and_eq_true] at h; exact of_decide_eq_true h.1
theorem isC_ok {zs : List Int} (h : isC zs = true) : okFrom zs.length 0 zs = true := by
  unfold isC at h; rw [Bool.and_eq_true] at h; exact h.2
theorem isC_ent {zs : List Int} (h : isC zs = true) : Ent zs.length zs := by
  intro j hj
  have hm : zs[j]?.getD 0 ∈ zs := by rw [List.getElem?_eq_getElem hj]; simp
  rcases okFrom_mem (isC_ok h) _ hm with h1 | h1 <;> omega
theorem ent_ok {n : Nat} {zs : List Int} (hn : n ≤ 6) (h : Ent n zs) : Ok n (ofL zs) := fun j hj => by
  rcases h j hj with h1 | h1
  · exact .inl h1
  · exact .inr ⟨h1.1, by have := h1.2; unfold ofL; omega⟩

theorem fk_le (zs : List Int) : fk zs ≤ 6 := by
  unfold fk; split
  · rename_i h; exact (isC_len h).2
  · omega
theorem mv_congr {T T' : Nat → Int} : ∀ {k : Nat}, (∀ j, j < k → T j = T' j) → mv T k = mv T' k
  | 0, _ => rfl
  | k + 1, h => by
    have ih := mv_congr (k := k) (fun j hj => h j (by omega))
    have e := h k (by omega)
    by_cases hc : k < 6 ∧ 0 ≤ T k ∧ T k < 6
    · have hc' : k < 6 ∧ 0 ≤ T' k ∧ T' k < 6 := by rw [← e]; exact hc
      rw [mv_step hc, mv_step hc', ih]
      simp only [e]
    · have hc' : ¬ (k < 6 ∧ 0 ≤ T' k ∧ T' k < 6) := by rw [← e]; exact hc
      have e1 : mv T (k + 1) = mv T k := by simp [mv, hc]
      have e2 : mv T' (k + 1) = mv T' k := by simp [mv, hc']
      rw [e1, e2, ih]
theorem fT_ok (zs : List Int) : Ok (fk zs) (fT zs) := by
  cases h : isC zs
  · rw [fk_no h]; intro j hj; omega
  · rw [fk_yes h]; intro j hj; rw [fT_yes h]; exact ent_ok (isC_len h).2 (isC_ent h) j hj
theorem Ok.congr {n : Nat} {T T' : Nat → Int} (h : Ok n T') (e : ∀ j, j < 6 → T j = T' j) (hn : n ≤ 6) : Ok n T := fun j hj => by rw [e j (by omega)]; exact h j hj
end

/-! impl.still, impl.hasPoint, impl.chartOf, impl.ChartIn. -/
section
open Go.RowKit

theorem hasPoint_any (m : Nat) (z : Int) (hm : m < 64) (h0 : 0 ≤ z) (h6 : z < 6) (w : World) : Calls Tryz.prog 94 #[.int .i64 m, .int .i64 z] w fun e w' => e = .returned (.bool (m.testBit z.toNat)) ∧ w = w' := by
  have HB := Lib.hid (bit_is hm h0 h6)
  go_enter Tryz.func94, Tryz.ntmps94
  go_wp2
  go_ret
  exact ⟨by rw [← HB.out]; rfl, rfl⟩

/-- the cells of a chart's block as a function of the place: the number of points, then the six places -/
def cf (n : Int) (T : Nat → Int) (j : Nat) : Value := if j = 0 then .int .i64 n else .int .i64 (T (j - 1))

theorem cf_zero (n : Int) (T : Nat → Int) : cf n T 0 = .int .i64 n := rfl
theorem cf_succ (n : Int) (T : Nat → Int) (j : Nat) : cf n T (j + 1) = .int .i64 (T j) := rfl

/-- block b is a chart's: n points, the places T -/
def Cb (w : World) (b : Nat) (n : Int) (T : Nat → Int) : Prop := w.rowIs b 58 7 (cf n T)

section
variable {w w' : World} {b : Nat} {n : Int} {T T' : Nat → Int}
theorem Cb.head (h : Cb w b n T) : w.cell? ⟨b, 0, none⟩ = some (.int .i64 n) := h.cell (i := 0) (by omega)
theorem Cb.at_ (h : Cb w b n T) {k : Nat} (hk : k < 6) : w.cell? ⟨b, 1 + k, none⟩ = some (.int .i64 (T k)) := by
  have := h.cell (i := 1 + k) (by omega)
  rw [this]; unfold cf; rw [if_neg (by omega)]; congr 3; omega
theorem Cb.frozen (h : Cb w b n T) (k : Nat) : w.frozen? ⟨b, k, none⟩ = false := World.rowIs.frozen h k
theorem Cb.lt (h : Cb w b n T) : b < w.heap.size := World.rowIs.lt h
theorem Cb.all (h : Cb w b n T) : w.cell? ⟨b, 0, none⟩ = some (.int .i64 n) ∧ w.cell? ⟨b, 1, none⟩ = some (.int .i64 (T 0)) ∧ w.cell? ⟨b, 2, none⟩ = some (.int .i64 (T 1)) ∧ w.cell? ⟨b, 3, none⟩ = some (.int .i64 (T 2)) ∧
    w.cell? ⟨b, 4, none⟩ = some (.int .i64 (T 3)) ∧ w.cell? ⟨b, 5, none⟩ = some (.int .i64 (T 4)) ∧ w.cell? ⟨b, 6, none⟩ = some (.int .i64 (T 5)) :=
  ⟨h.head, h.at_ (k := 0) (by omega), h.at_ (k := 1) (by omega), h.at_ (k := 2) (by omega), h.at_ (k := 3) (by omega), h.at_ (k := 4) (by omega), h.at_ (k := 5) (by omega)⟩
theorem Cb.frees (h : Cb w b n T) : w.frozen? ⟨b, 0, none⟩ = false ∧ w.frozen? ⟨b, 1, none⟩ = false ∧ w.frozen? ⟨b, 2, none⟩ = false ∧ w.frozen? ⟨b, 3, none⟩ = false ∧ w.frozen? ⟨b, 4, none⟩ = false ∧ w.frozen? ⟨b, 5, none⟩ = false ∧ w.frozen? ⟨b, 6, none⟩ = false :=
  ⟨h.frozen 0, h.frozen 1, h.frozen 2, h.frozen 3, h.frozen 4, h.frozen 5, h.frozen 6⟩
theorem Cb.set_ (h : Cb w b n T) (k : Nat) (v : Int) : Cb (w.setCell ⟨b, 1 + k, none⟩ (.int .i64 v)) b n (fun j => if j = k then v else T j) := by
  refine World.rowIs.congr (World.rowIs.set h (1 + k) (.int .i64 v)) (fun j _ => ?_)
  unfold cf
  by_cases h0 : j = 0
  · subst h0; rw [if_pos rfl, if_pos rfl, if_neg (by omega)]
  · rw [if_neg h0, if_neg h0]
    by_cases h1 : j = 1 + k
    · rw [if_pos h1]; simp [show j - 1 = k by omega]
    · rw [if_neg h1]; simp [show j - 1 ≠ k by omega]
theorem Cb.congr (h : Cb w b n T) (e : ∀ j, j < 6 → T j = T' j) : Cb w b n T' := World.rowIs.congr h (fun j hj => by
  unfold cf
  by_cases h0 : j = 0
  · rw [if_pos h0, if_pos h0]
  · rw [if_neg h0, if_neg h0, e (j - 1) (by omega)])
theorem Cb.other (h : Cb w b n T) {a : Addr} (ha : b ≠ a.block) (v : Value) : Cb (w.setCell a v) b n T := World.rowIs.setOther h ha v
theorem Cb.alloc (h : Cb w b n T) (o : Obj) : Cb (w.alloc o) b n T := World.rowIs.alloc h o
theorem Cb.drewN (h : Cb w b n T) (k : Nat) : Cb (w.drewN k) b n T := h
theorem Cb.below {B : Nat} (h : Cb w b n T) (hb : Below B w w') (hB : b < B) : Cb w' b n T := World.rowIs.of_block h (hb.block b hB)
theorem Cb.new (w : World) (n : Int) (T : Nat → Int) : Cb (w.alloc (.cells #[.int .i64 (n), .int .i64 (T 0), .int .i64 (T 1), .int .i64 (T 2), .int .i64 (T 3), .int .i64 (T 4), .int .i64 (T 5)] 58)) w.heap.size n T :=
  World.rowIs_alloc w _ 58 (cf n T) (fun i hi => by
    match i, hi with
    | 0, _ => rfl
    | 1, _ => rfl
    | 2, _ => rfl
    | 3, _ => rfl
    | 4, _ => rfl
    | 5, _ => rfl
    | 6, _ => rfl)
end

theorem below_set7 {B b : Nat} {a w : World} (h : Below B a w) (hb : B ≤ b) (v0 v1 v2 v3 v4 v5 v6 : Value) :
    Below B a (((((((w.setCell ⟨b, 0, none⟩ v0).setCell ⟨b, 1, none⟩ v1).setCell ⟨b, 2, none⟩ v2).setCell ⟨b, 3, none⟩ v3).setCell ⟨b, 4, none⟩ v4).setCell ⟨b, 5, none⟩ v5).setCell ⟨b, 6, none⟩ v6) :=
  ((((((h.setCell (p := ⟨b, 0, none⟩) hb v0).setCell (p := ⟨b, 1, none⟩) hb v1).setCell (p := ⟨b, 2, none⟩) hb v2).setCell (p := ⟨b, 3, none⟩) hb v3).setCell (p := ⟨b, 4, none⟩) hb v4).setCell (p := ⟨b, 5, none⟩) hb v5).setCell (p := ⟨b, 6, none⟩) hb v6

set_option maxHeartbeats 1000000 in
theorem still_any (n : Nat) (hn : n ≤ 6) (w : World) : Calls Tryz.prog 93 #[.int .i64 n] w fun e w' => ∃ T : Nat → Int, e = .returned (.agg #[.int .i64 ((n : Int)), .int .i64 (T 0), .int .i64 (T 1), .int .i64 (T 2), .int .i64 (T 3), .int .i64 (T 4), .int .i64 (T 5)]) ∧ Hid (∀ j, T j = if j < n then -1 else 0) ∧ Below w.heap.size w w' := by
  go_enter Tryz.func93, Tryz.ntmps93
  go_wp2
  have hA := (Cb.new w 0 (fun _ => 0)).alloc (.cells #[.int .i64 ((n : Int)), .int .i64 ((fun _ => (0 : Int)) 0), .int .i64 ((fun _ => (0 : Int)) 1), .int .i64 ((fun _ => (0 : Int)) 2), .int .i64 ((fun _ => (0 : Int)) 3), .int .i64 ((fun _ => (0 : Int)) 4), .int .i64 ((fun _ => (0 : Int)) 5)] 58)
  have hC := Cb.new (w.alloc (.cells #[.int .i64 ((0 : Int)), .int .i64 ((fun _ => (0 : Int)) 0), .int .i64 ((fun _ => (0 : Int)) 1), .int .i64 ((fun _ => (0 : Int)) 2), .int .i64 ((fun _ => (0 : Int)) 3), .int .i64 ((fun _ => (0 : Int)) 4), .int .i64 ((fun _ => (0 : Int)) 5)] 58)) n (fun _ => 0)
  have hB : Below w.heap.size w ((w.alloc (.cells #[.int .i64 ((0 : Int)), .int .i64 ((fun _ => (0 : Int)) 0), .int .i64 ((fun _ => (0 : Int)) 1), .int .i64 ((fun _ => (0 : Int)) 2), .int .i64 ((fun _ => (0 : Int)) 3), .int .i64 ((fun _ => (0 : Int)) 4), .int .i64 ((fun _ => (0 : Int)) 5)] 58)).alloc (.cells #[.int .i64 ((n : Int)), .int .i64 ((fun _ => (0 : Int)) 0), .int .i64 ((fun _ => (0 : Int)) 1), .int .i64 ((fun _ => (0 : Int)) 2), .int .i64 ((fun _ => (0 : Int)) 3), .int .i64 ((fun _ => (0 : Int)) 4), .int .i64 ((fun _ => (0 : Int)) 5)] 58)) := ((Below.refl _ w).alloc (Nat.le_refl _) _).alloc (by simp) _
  rw [World.size_alloc] at hC
  go_loopw [4, 8] (fun _ i wr => ∃ k : Nat, k ≤ n ∧ i = .int .i64 k ∧ Cb wr w.heap.size 0 (fun _ => 0) ∧ Cb wr (w.heap.size + 1) n (fun j => if j < k then -1 else 0) ∧ Below w.heap.size w wr) (fun _ i _ => n - (intOf i).toNat)
  case atStart => exact ⟨0, Nat.zero_le _, rfl, hA, hC.congr (fun j _ => by simp), hB⟩
  case round =>
    clear hA hC hB
    obtain ⟨k, hk, rfl, hA, hC, hB⟩ := hrel
    by_cases hlt : k < n
    · have c1 := hC.at_ (k := k) (by omega)
      have f1 := hC.frozen (1 + k)
      have hC' := (hC.set_ k (-1)).congr (T' := fun j => if j < k + 1 then -1 else 0) (fun j _ => by
        by_cases h : j = k
        · simp [h]
        · by_cases h2 : j < k
          · simp [h, h2]; omega
          · simp [h, h2]; omega)
      have hA' := hA.other (a := ⟨w.heap.size + 1, 1 + k, none⟩) (by simp) (.int .i64 (-1))
      have hB' := hB.setCell (p := ⟨w.heap.size + 1, 1 + k, none⟩) (by simp) (.int .i64 (-1))
      go_wp2
      go_roundw
      case rel => exact ⟨k + 1, by omega, by go_num, hA', hC', hB'⟩
      case measure => simp [intOf]; omega
    · obtain rfl : k = n := by omega
      generalize hT : (fun j : Nat => if j < k then (-1 : Int) else 0) = T at hC
      have HT := Lib.hid hT
      clear hT
      obtain ⟨a0, a1, a2, a3, a4, a5, a6⟩ := hA.all
      obtain ⟨b0, b1, b2, b3, b4, b5, b6⟩ := hA.frees
      obtain ⟨c0, c1, c2, c3, c4, c5, c6⟩ := hC.all
      go_wp2
      refine bodyPost_ret (v := .agg #[.int .i64 ((k : Int)), .int .i64 (T 0), .int .i64 (T 1), .int .i64 (T 2), .int .i64 (T 3), .int .i64 (T 4), .int .i64 (T 5)]) (by simp [results, Tryz.results93, go_sem, a0, a1, a2, a3, a4, a5, a6]) rfl ⟨T, rfl, ?_, ?_⟩
      · intro j; rw [← HT.out]
      · exact below_set7 hB (Nat.le_refl _) _ _ _ _ _ _ _
end

/-! impl.chartOf, impl.ChartIn. -/
section
open Go.RowKit

/-- the places when k numbers of the list are laid -/
def partL (n : Nat) (zs : List Int) (k : Nat) (j : Nat) : Int := if j < k then zs[j]?.getD 0 else if j < n then -1 else 0

theorem partL_skip {n k : Nat} {zs : List Int} (hk : k < n) (hz : zs[k]?.getD 0 = -1) (j : Nat) : partL n zs k j = partL n zs (k + 1) j := by
  unfold partL
  by_cases h : j = k
  · subst h; simp [hk, hz]
  · by_cases h2 : j < k
    · simp [h2, show j < k + 1 by omega]
    · simp [h2, show ¬ j < k + 1 by omega]
theorem partL_set {n k : Nat} {zs : List Int} (j : Nat) : (if j = k then zs[k]?.getD 0 else partL n zs k j) = partL n zs (k + 1) j := by
  unfold partL
  by_cases h : j = k
  · subst h; simp
  · by_cases h2 : j < k
    · simp [h, h2, show j < k + 1 by omega]
    · simp [h, h2, show ¬ j < k + 1 by omega]
theorem partL_all {n : Nat} {zs : List Int} (hn : zs.length = n) (j : Nat) : partL n zs n j = ofL zs j := by
  unfold partL ofL
  by_cases h : j < n
  · simp [h]
  · simp [h, List.getElem?_eq_none (show zs.length ≤ j by omega)]

def OfPost (zs : List Int) (w : World) (e : Ending) (w' : World) : Prop :=
  ∃ (n : Nat) (T : Nat → Int), e = .returned (.tuple #[.agg #[.int .i64 ((n : Int)), .int .i64 (T 0), .int .i64 (T 1), .int .i64 (T 2), .int .i64 (T 3), .int .i64 (T 4), .int .i64 (T 5)], .bool (isC zs)]) ∧ (isC zs = true → n = zs.length ∧ ∀ j, j < 6 → T j = ofL zs j) ∧ (isC zs = false → n = 0 ∧ ∀ j, j < 6 → T j = 0) ∧ Below w.heap.size w w'

set_option maxHeartbeats 400000 in
/-- impl.chartOf at a list that is too short or too long -/
theorem chartOf_out (A : Option Addr) (n c : Nat) (zs : List Int) (w : World) (h : RI w A n zs) (h6 : n < 1 ∨ 6 < n) :
    Calls Tryz.prog 49 #[.slice A n c] w (OfPost zs w) := by
  have HC : Hid (isC zs = false) := by
    show isC zs = false
    have := h.len
    rcases h6 with h6 | h6
    · exact isC_short (by omega)
    · exact isC_long (by omega)
  have hd : (decide ((n : Int) < 1) || decide (6 < (n : Int))) = true := by rcases h6 with h6 | h6 <;> simp <;> omega
  rcases h6 with h6 | h6
  · have h7 : n = 0 := by omega
    subst h7
    clear h
    go_enter Tryz.func49, Tryz.ntmps49
    go_wp2
    refine bodyPost_ret (v := .tuple #[.agg #[.int .i64 (((0 : Nat) : Int)), .int .i64 ((fun _ => (0 : Int)) 0), .int .i64 ((fun _ => (0 : Int)) 1), .int .i64 ((fun _ => (0 : Int)) 2), .int .i64 ((fun _ => (0 : Int)) 3), .int .i64 ((fun _ => (0 : Int)) 4), .int .i64 ((fun _ => (0 : Int)) 5)], .bool false]) (by simp [results, Tryz.results49, go_sem]) rfl ⟨0, fun _ => 0, by rw [HC.out], ?_, fun _ => ⟨rfl, fun _ _ => rfl⟩, (Below.refl _ _).alloc (Nat.le_refl _) _⟩
    intro hh; rw [HC.out] at hh; cases hh
  · clear h
    go_enter Tryz.func49, Tryz.ntmps49
    go_wp2
    refine bodyPost_ret (v := .tuple #[.agg #[.int .i64 (((0 : Nat) : Int)), .int .i64 ((fun _ => (0 : Int)) 0), .int .i64 ((fun _ => (0 : Int)) 1), .int .i64 ((fun _ => (0 : Int)) 2), .int .i64 ((fun _ => (0 : Int)) 3), .int .i64 ((fun _ => (0 : Int)) 4), .int .i64 ((fun _ => (0 : Int)) 5)], .bool false]) (by simp [results, Tryz.results49, go_sem]) rfl ⟨0, fun _ => 0, by rw [HC.out], ?_, fun _ => ⟨rfl, fun _ _ => rfl⟩, (Below.refl _ _).alloc (Nat.le_refl _) _⟩
    intro hh; rw [HC.out] at hh; cases hh

set_option maxHeartbeats 1000000 in
/-- impl.chartOf at a list of one to six numbers -/
theorem chartOf_mid (A : Option Addr) (n c : Nat) (zs : List Int) (w : World) (h : RI w A n zs) (h1 : 1 ≤ n) (h6 : n ≤ 6) :
    Calls Tryz.prog 49 #[.slice A n c] w (OfPost zs w) := by
  have HL := Lib.hid h.len
  have HM : Hid (isC zs = okFrom n 0 zs) := by have := HL.out; show isC zs = _; rw [isC_mid (by omega) (by omega), HL.out]
  go_enter Tryz.func49, Tryz.ntmps49
  go_wp2_with fail
  refine (still_any n h6 _).mono ?_
  rintro e w1 ⟨T, rfl, HT, hb⟩
  have hA := ((Cb.new w 0 (fun _ => 0)).below hb (by simp)).alloc (.cells #[.int .i64 ((n : Int)), .int .i64 (T 0), .int .i64 (T 1), .int .i64 (T 2), .int .i64 (T 3), .int .i64 (T 4), .int .i64 (T 5)] 58)
  have hC := Cb.new w1 n T
  have hB : Below w.heap.size w (w1.alloc (.cells #[.int .i64 ((n : Int)), .int .i64 (T 0), .int .i64 (T 1), .int .i64 (T 2), .int .i64 (T 3), .int .i64 (T 4), .int .i64 (T 5)] 58)) := (((Below.refl _ w).alloc (Nat.le_refl _) _).trans (hb.mono (by simp))).alloc (by have := hb.size; simp at this; omega) _
  have hz : w.heap.size + 1 ≤ w1.heap.size := by have := hb.size; simpa using this
  have hC0 : Cb (w1.alloc (.cells #[.int .i64 ((n : Int)), .int .i64 (T 0), .int .i64 (T 1), .int .i64 (T 2), .int .i64 (T 3), .int .i64 (T 4), .int .i64 (T 5)] 58)) w1.heap.size n (partL n zs 0) := hC.congr (fun j _ => by rw [HT.out]; simp [partL])
  clear hC HT hb
  have hd1 : decide ((n : Int) < 1) = false := by simp; omega
  have hd2 : decide (6 < (n : Int)) = false := by simp; omega
  go_wp2
  go_loopw [6, 7, 8, 22] (fun met _ _ i wr => ∃ k m : Nat, k ≤ n ∧ m < 64 ∧ i = .int .i64 k ∧ met = .int .i64 m ∧ Hid (okFrom n m (zs.drop k) = okFrom n 0 zs) ∧
      Cb wr w.heap.size 0 (fun _ => 0) ∧ Cb wr w1.heap.size n (partL n zs k) ∧ Below w.heap.size w wr) (fun _ _ _ i _ => n - (intOf i).toNat)
  case atStart => exact ⟨0, 0, Nat.zero_le _, by omega, rfl, rfl, Lib.hid rfl, hA, hC0, hB⟩
  case round =>
    clear hA hC0 hB
    obtain ⟨k, m, hk, hm, rfl, rfl, HO, hA, hC, hB⟩ := hrel
    by_cases hlt : k < n
    · obtain ⟨ad, rfl, hab, hc⟩ := h.at_ hlt
      have hc := (hB.cell (p := ad.add k) (by rw [block_of_add]; exact hab)).trans hc
      have hd := okFrom_drop n m zs (k := k) (by have := HL.out; omega)
      rw [HO.out] at hd
      have hskip := Lib.hid (partL_skip (n := n) (k := k) (zs := zs) hlt)
      have hset := Lib.hid (partL_set (n := n) (k := k) (zs := zs))
      generalize zs[k]?.getD 0 = z at hc hd hskip hset
      clear h
      by_cases hz1 : z = -1
      · subst hz1
        rw [if_pos rfl] at hd
        have HD := Lib.hid hd
        have hC' := hC.congr (fun j _ => hskip.out rfl j)
        clear hd
        go_wp2
        go_roundw
        case rel => exact ⟨k + 1, m, by omega, hm, by go_num, rfl, Lib.hid HD.out.symm, hA, hC', hB⟩
        case measure => simp [intOf]; omega
      · have hb1 : (z == -1) = false := by simpa using hz1
        rw [if_neg hz1] at hd
        obtain ⟨a0, a1, a2, a3, a4, a5, a6⟩ := hA.all
        obtain ⟨b0, b1, b2, b3, b4, b5, b6⟩ := hA.frees
        by_cases hin : 0 ≤ z ∧ z < n
        · obtain ⟨hz0, hzn⟩ := hin
          have hd3 : decide (z < 0) = false := by simp; omega
          have hd4 : decide ((n : Int) ≤ z) = false := by simp; omega
          have hbit := Lib.hid (bit_is hm hz0 (show z < 6 by omega))
          cases hb : m.testBit z.toNat
          · rw [if_pos ⟨hz0, hzn, hb⟩] at hd
            have HD := Lib.hid hd
            have HS := Lib.hid (set_is hm hz0 (show z < 6 by omega))
            have HLT := Lib.hid (mask_lt' hm (show z.toNat < 6 by omega))
            have HBT := Lib.hid hb
            have e1 := hC.at_ (k := k) (by omega)
            have e2 := hC.frozen (1 + k)
            have hC' := (hC.set_ k z).congr (fun j _ => hset.out j)
            have hA' := hA.other (a := ⟨w1.heap.size, 1 + k, none⟩) (by simp; omega) (.int .i64 z)
            have hB' := hB.setCell (p := ⟨w1.heap.size, 1 + k, none⟩) (by simp; omega) (.int .i64 z)
            clear hd hb hA hB hC a0 a1 a2 a3 a4 a5 a6 b0 b1 b2 b3 b4 b5 b6
            go_wp2_with (go_at_call 94; refine (hasPoint_any _ _ (by assumption) (by assumption) (by omega) _).mono ?_; rintro e w' ⟨rfl, rfl⟩; rw [HBT.out])
            go_roundw
            case rel => exact ⟨k + 1, _, by omega, HLT.out, by go_num, by rw [HS.out], Lib.hid HD.out.symm, hA', hC', hB'⟩
            case measure => simp [intOf]; omega
          · rw [if_neg (by rw [hb]; simp)] at hd
            have HF := Lib.hid (HM.out.trans hd)
            have HBT := Lib.hid hb
            clear hd hC hb
            go_wp2_with (go_at_call 94; refine (hasPoint_any _ _ (by assumption) (by assumption) (by omega) _).mono ?_; rintro e w' ⟨rfl, rfl⟩; rw [HBT.out])
            refine bodyPost_ret (v := .tuple #[.agg #[.int .i64 (((0 : Nat) : Int)), .int .i64 ((fun _ => (0 : Int)) 0), .int .i64 ((fun _ => (0 : Int)) 1), .int .i64 ((fun _ => (0 : Int)) 2), .int .i64 ((fun _ => (0 : Int)) 3), .int .i64 ((fun _ => (0 : Int)) 4), .int .i64 ((fun _ => (0 : Int)) 5)], .bool false]) (by simp [results, Tryz.results49, go_sem, a0, a1, a2, a3, a4, a5, a6]) rfl ⟨0, fun _ => 0, by rw [HF.out], ?_, fun _ => ⟨rfl, fun _ _ => rfl⟩, below_set7 hB (Nat.le_refl _) _ _ _ _ _ _ _⟩
            intro hh; rw [HF.out] at hh; cases hh
        · have hd3 : (decide (z < 0) || decide ((n : Int) ≤ z)) = true := by simp; omega
          rw [if_neg (by omega)] at hd
          have HF := Lib.hid (HM.out.trans hd)
          clear hd hC
          by_cases hneg : z < 0
          · go_wp2
            refine bodyPost_ret (v := .tuple #[.agg #[.int .i64 (((0 : Nat) : Int)), .int .i64 ((fun _ => (0 : Int)) 0), .int .i64 ((fun _ => (0 : Int)) 1), .int .i64 ((fun _ => (0 : Int)) 2), .int .i64 ((fun _ => (0 : Int)) 3), .int .i64 ((fun _ => (0 : Int)) 4), .int .i64 ((fun _ => (0 : Int)) 5)], .bool false]) (by simp [results, Tryz.results49, go_sem, a0, a1, a2, a3, a4, a5, a6]) rfl ⟨0, fun _ => 0, by rw [HF.out], ?_, fun _ => ⟨rfl, fun _ _ => rfl⟩, below_set7 hB (Nat.le_refl _) _ _ _ _ _ _ _⟩
            intro hh; rw [HF.out] at hh; cases hh
          · go_wp2
            refine bodyPost_ret (v := .tuple #[.agg #[.int .i64 (((0 : Nat) : Int)), .int .i64 ((fun _ => (0 : Int)) 0), .int .i64 ((fun _ => (0 : Int)) 1), .int .i64 ((fun _ => (0 : Int)) 2), .int .i64 ((fun _ => (0 : Int)) 3), .int .i64 ((fun _ => (0 : Int)) 4), .int .i64 ((fun _ => (0 : Int)) 5)], .bool false]) (by simp [results, Tryz.results49, go_sem, a0, a1, a2, a3, a4, a5, a6]) rfl ⟨0, fun _ => 0, by rw [HF.out], ?_, fun _ => ⟨rfl, fun _ _ => rfl⟩, below_set7 hB (Nat.le_refl _) _ _ _ _ _ _ _⟩
            intro hh; rw [HF.out] at hh; cases hh
    · obtain rfl : k = n := by omega
      have he : okFrom k 0 zs = true := by rw [← HO.out, List.drop_eq_nil_of_le (by have := HL.out; omega)]; rfl
      have HT := Lib.hid (HM.out.trans he)
      have HP := Lib.hid (partL_all HL.out)
      generalize partL k zs k = T at hC HP
      obtain ⟨a0, a1, a2, a3, a4, a5, a6⟩ := hA.all
      obtain ⟨b0, b1, b2, b3, b4, b5, b6⟩ := hA.frees
      obtain ⟨c0, c1, c2, c3, c4, c5, c6⟩ := hC.all
      clear he h hA hC
      go_wp2
      refine bodyPost_ret (v := .tuple #[.agg #[.int .i64 ((k : Int)), .int .i64 (T 0), .int .i64 (T 1), .int .i64 (T 2), .int .i64 (T 3), .int .i64 (T 4), .int .i64 (T 5)], .bool true]) (by simp [results, Tryz.results49, go_sem, a0, a1, a2, a3, a4, a5, a6]) rfl ⟨k, T, by rw [HT.out], fun _ => ⟨HL.out.symm, fun j _ => HP.out j⟩, ?_, below_set7 hB (Nat.le_refl _) _ _ _ _ _ _ _⟩
      intro hh; rw [HT.out] at hh; cases hh

/-- impl.chartOf -/
theorem chartOf_any (A : Option Addr) (n c : Nat) (zs : List Int) (w : World) (h : RI w A n zs) : Calls Tryz.prog 49 #[.slice A n c] w (OfPost zs w) := by
  by_cases h1 : 1 ≤ n
  · by_cases h6 : n ≤ 6
    · exact chartOf_mid A n c zs w h h1 h6
    · exact chartOf_out A n c zs w h (.inr (by omega))
  · exact chartOf_out A n c zs w h (.inl (by omega))

/-- what is had of a chart that impl.chartOf hands back -/
theorem of_facts {zs : List Int} {k : Nat} {T : Nat → Int} (hy : isC zs = true → k = zs.length ∧ ∀ j, j < 6 → T j = ofL zs j) (hn : isC zs = false → k = 0 ∧ ∀ j, j < 6 → T j = 0) : k = fk zs ∧ ∀ j, j < 6 → T j = fT zs j := by
  cases h : isC zs
  · exact ⟨by rw [fk_no h]; exact (hn h).1, fun j hj => by rw [fT_no h]; exact (hn h).2 j hj⟩
  · exact ⟨by rw [fk_yes h]; exact (hy h).1, fun j hj => by rw [fT_yes h]; exact (hy h).2 j hj⟩

end

/-! (impl.chart).moved and its closure: the iterator over the points that are moved, by its contract. -/
section
open Go.RowKit Go.Shelf
attribute [local go_sem] Oper.semAt_some

abbrev encP (x : Pt) : Array Value := #[Value.int .i64 (x.1.1 : Int), Value.int .i64 x.1.2]

set_option maxRecDepth 100000 in
set_option maxHeartbeats 2000000 in
theorem moved1_in (F : Fence) (m : Nat) (hf : F.fn 122) (hro : F.round = none) (hm : 1 ≤ m) (l b n : Nat) (hn : n ≤ 6) (T : Nat → Int) (hT : Ok n T) (J Jx : List Pt → World → Prop)
    (hY : ∀ pre x W, J pre W → pre.length < n → YieldAt F (m - 1) Tryz.prog l (encP x) W fun e W' =>
      (e = .returned (.bool true) ∧ J (pre ++ [x]) W' ∧ W'.heap[b]? = W.heap[b]?) ∨ (e = .returned (.bool false) ∧ Jx (pre ++ [x]) W'))
    (W : World) (hC : Cb W b n T) (h0 : J [] W) :
    CallsIn F m Tryz.prog 122 #[.func (.yield l) #[] #[], .pointer (some ⟨b, 0, none⟩)] W fun e W' => (∃ v, e = .returned v) ∧
      ((∃ ys, ys = mv T n ∧ J ys W') ∨ (∃ pre, (∃ k, k ≤ n ∧ pre = mv T k) ∧ Jx pre W')) := by
  have hcn := hC.head
  refine callsIn_of_wp Tryz.func122 rfl hf ?_ hro
  simp only [Tryz.ntmps122, List.size_toArray, List.length_cons, List.length_nil, Nat.reduceAdd, Nat.reduceSub, Array.replicate_succ, Array.replicate_zero, List.push_toArray, List.append_toArray, List.nil_append, List.cons_append]
  gi_wp2
  gi_loopw [6] (fun i wr => ∃ k : Nat, k ≤ n ∧ i = .int .i64 k ∧ J (mv T k) wr ∧ Cb wr b n T) (fun i _ => n - (intOf i).toNat)
  case atStart => exact ⟨0, Nat.zero_le _, rfl, h0, hC⟩
  case round =>
    clear hC hcn h0
    obtain ⟨k, hk, rfl, hJ, hC⟩ := hrel
    by_cases hlt : k < n
    · have hcell := hC.at_ (k := k) (by omega)
      by_cases hz : T k = -1
      · have hne : (T k != -1) = false := by simp [hz]
        have HZ := Lib.hid hz
        clear hz
        gi_wp2
        refine ⟨fun _ h => (by cases h), ?_⟩
        gi_wp2
        go_roundw
        case rel => exact ⟨k + 1, by omega, by go_num, by rw [mv_skip HZ.out]; exact hJ, hC⟩
        case measure => simp [intOf]; omega
      · have hne : (T k != -1) = true := by simp [hz]
        have hin : k < 6 ∧ 0 ≤ T k ∧ T k < 6 := ⟨by omega, (hT k hlt).resolve_left hz⟩
        obtain ⟨fn, tmps, assign, body, hy, hR⟩ := hY _ ⟨(k, T k), hin⟩ wr hJ (by have := mv_length T k; omega)
        dsimp only [encP] at hy
        gi_wp2
        refine hR.mono ?_
        rintro e W3 (⟨rfl, hJ3, hk3⟩ | ⟨rfl, hJx3⟩)
        · have hC3 : Cb W3 b n T := World.rowIs.of_block hC hk3
          gi_wp2
          go_roundw
          case rel => exact ⟨k + 1, by omega, by go_num, by rw [mv_step hin]; exact hJ3, hC3⟩
          case measure => simp [intOf]; omega
        · gi_wp2
          refine bodyPost_ret (results_none rfl _ _ _) rfl ?_
          exact ⟨⟨_, rfl⟩, .inr ⟨_, ⟨k + 1, by omega, (mv_step hin).symm⟩, hJx3⟩⟩
    · obtain rfl : k = n := by omega
      gi_wp2
      go_end0
      exact ⟨⟨_, rfl⟩, .inl ⟨_, rfl, hJ⟩⟩

set_option maxHeartbeats 1000000 in
/-- c.moved(): the chart is boxed; the function value captures the box -/
theorem moved_in (F : Fence) (m : Nat) (hf : F.fn 95) (hro : F.round = none) (n : Int) (T : Nat → Int) (w : World) :
    CallsIn F m Tryz.prog 95 #[.agg #[.int .i64 (n), .int .i64 (T 0), .int .i64 (T 1), .int .i64 (T 2), .int .i64 (T 3), .int .i64 (T 4), .int .i64 (T 5)]] w fun e w' => e = .returned (.func (.func 122) #[] #[.pointer (some ⟨w.heap.size, 0, none⟩)]) ∧ w' = w.alloc (.cells #[.int .i64 (n), .int .i64 (T 0), .int .i64 (T 1), .int .i64 (T 2), .int .i64 (T 3), .int .i64 (T 4), .int .i64 (T 5)] 58) := by
  refine callsIn_of_wp Tryz.func95 rfl hf ?_ hro
  simp only [Tryz.ntmps95, List.size_toArray, List.length_cons, List.length_nil, Nat.reduceAdd, Nat.reduceSub, Array.replicate_succ, Array.replicate_zero, List.push_toArray, List.append_toArray, List.nil_append, List.cons_append]
  gi_wp2
  go_ret
  exact ⟨rfl, rfl⟩

/-- what a round's body owes: the iterator's chart lies as it lay -/
abbrev Kb (b : Nat) (W W' : World) : Prop := W'.heap[b]? = W.heap[b]?
theorem Kb_t {b : Nat} {A B C : World} (h : Kb b A B) (k : Kb b B C) : Kb b A C := k.trans h
theorem Kb_b {b : Nat} {w : World} (hb : b < w.heap.size) (W : World) (l : Nat) (o o' : Obj) (hl : w.heap.size ≤ l) (_ : W.heap[l]? = some o) (_ : o.isCells = false) (_ : o.isWalk = false) : Kb b W (W.putObj l o') :=
  World.putObj_heap_other (by omega)

/-- what c.moved() hands back gives the moved points in ascending order -/
theorem moved_stops (F : Fence) (m : Nat) (hf : F.fn 122) (hro : F.round = none) (hm : 1 ≤ m) (b n : Nat) (hn : n ≤ 6) (T : Nat → Int) (hT : Ok n T) (w : World) (hC : Cb w b n T) :
    SeqStopsK F m Tryz.prog 122 #[.pointer (some ⟨b, 0, none⟩)] encP (Kb b) (fun ys => ys = mv T n) (fun pre => ∃ k, k ≤ n ∧ pre = mv T k) n w := fun l J Jx W hW _ _ hY h0 =>
  moved1_in F m hf hro hm l b n hn T hT J Jx hY W (hC.below hW hC.lt) h0
end

/-! (impl.chart).turned. -/
section
open Go.RowKit Go.Shelf
attribute [local go_sem] Oper.semAt_some

/-- what speaks of a chart's block abides the turn of what is no cells -/
theorem cb_own {β : Type} (b : Nat) (n : Int) (f : β → Nat → Int) : Own (fun s W => Cb W b n (f s)) := fun s X Y row hs hg hrow =>
  World.rowIs.of_block hs (hg.block b hs.lt (fun e' => by
    obtain ⟨o, ho, hc⟩ := hrow b e'.symm
    obtain ⟨c, hb, _⟩ := hs
    rw [hb] at ho; cases ho; cases hc))

/-- a whole chart stored into a chart's block, and the list of rounds' deferred calls taken up: what is left -/
theorem fin7 {W : World} {b D : Nat} {n n0 : Int} {T T0 : Nat → Int} (hR : Cb W b n0 T0) (hK : W.heap[D]? = some (.deferred (some []))) :
    ((((((((W).setCell ⟨b, 0, none⟩ (.int .i64 (n))).setCell ⟨b, 1, none⟩ (.int .i64 (T 0))).setCell ⟨b, 2, none⟩ (.int .i64 (T 1))).setCell ⟨b, 3, none⟩ (.int .i64 (T 2))).setCell ⟨b, 4, none⟩ (.int .i64 (T 3))).setCell ⟨b, 5, none⟩ (.int .i64 (T 4))).setCell ⟨b, 6, none⟩ (.int .i64 (T 5))).heap[D]? = some (.deferred (some [])) ∧ Cb (((((((((W).setCell ⟨b, 0, none⟩ (.int .i64 (n))).setCell ⟨b, 1, none⟩ (.int .i64 (T 0))).setCell ⟨b, 2, none⟩ (.int .i64 (T 1))).setCell ⟨b, 3, none⟩ (.int .i64 (T 2))).setCell ⟨b, 4, none⟩ (.int .i64 (T 3))).setCell ⟨b, 5, none⟩ (.int .i64 (T 4))).setCell ⟨b, 6, none⟩ (.int .i64 (T 5))).putObj D (.deferred none)) b n T := by
  have hne : b ≠ D := by
    rintro rfl
    obtain ⟨c, hb, _⟩ := hR
    rw [hb] at hK; cases hK
  have hD : ∀ (X : World) (j : Nat) (v : Value), X.heap[D]? = some (.deferred (some [])) → (X.setCell ⟨b, j, none⟩ v).heap[D]? = some (.deferred (some [])) := fun X j v h => (Below.heap_setCell X _ v D (fun e => hne e.symm)).trans h
  refine ⟨hD _ _ _ (hD _ _ _ (hD _ _ _ (hD _ _ _ (hD _ _ _ (hD _ _ _ (hD _ _ _ hK)))))), ?_⟩
  refine World.rowIs.of_block (w := ((((((((W).setCell ⟨b, 0, none⟩ (.int .i64 (n))).setCell ⟨b, 1, none⟩ (.int .i64 (T 0))).setCell ⟨b, 2, none⟩ (.int .i64 (T 1))).setCell ⟨b, 3, none⟩ (.int .i64 (T 2))).setCell ⟨b, 4, none⟩ (.int .i64 (T 3))).setCell ⟨b, 5, none⟩ (.int .i64 (T 4))).setCell ⟨b, 6, none⟩ (.int .i64 (T 5)))) ?_ (World.putObj_heap_other hne)
  refine World.rowIs.congr (World.rowIs.set (World.rowIs.set (World.rowIs.set (World.rowIs.set (World.rowIs.set (World.rowIs.set (World.rowIs.set hR 0 _) 1 _) 2 _) 3 _) 4 _) 5 _) 6 _) (fun j hj => ?_)
  match j, hj with
  | 0, _ => rfl
  | 1, _ => rfl
  | 2, _ => rfl
  | 3, _ => rfl
  | 4, _ => rfl
  | 5, _ => rfl
  | 6, _ => rfl

set_option maxRecDepth 100000 in
set_option maxHeartbeats 2000000 in
theorem turned_any (n : Nat) (hn : n ≤ 6) (T : Nat → Int) (hT : Ok n T) (w : World) :
    Calls Tryz.prog 50 #[.agg #[.int .i64 ((n : Int)), .int .i64 (T 0), .int .i64 (T 1), .int .i64 (T 2), .int .i64 (T 3), .int .i64 (T 4), .int .i64 (T 5)]] w fun e w' => ∃ T' : Nat → Int, e = .returned (.agg #[.int .i64 ((n : Int)), .int .i64 (T' 0), .int .i64 (T' 1), .int .i64 (T' 2), .int .i64 (T' 3), .int .i64 (T' 4), .int .i64 (T' 5)]) ∧ Hid (∀ j, j < 6 → T' j = turnL n (mv T n) j) ∧ Below w.heap.size w w' := by
  refine (callsIn_wide (n := 3)).1 ?_
  refine callsIn_of_wp_marks Tryz.func50 rfl trivial ?_ rfl
  simp only [Tryz.ntmps50, List.size_toArray, List.length_cons, List.length_nil, Nat.reduceAdd, Nat.reduceSub, Array.replicate_succ, Array.replicate_zero, List.push_toArray, List.append_toArray, List.nil_append, List.cons_append]
  gi_wp2_with fail
  refine ⟨trivial, (callsIn_wide.2 (still_any n hn _)).mono ?_⟩
  rintro e w1 ⟨T0, rfl, HT0, hb⟩
  have hc0 := ((Cb.new w n T).alloc (.cells #[.int .i64 ((0 : Int)), .int .i64 ((fun _ => (0 : Int)) 0), .int .i64 ((fun _ => (0 : Int)) 1), .int .i64 ((fun _ => (0 : Int)) 2), .int .i64 ((fun _ => (0 : Int)) 3), .int .i64 ((fun _ => (0 : Int)) 4), .int .i64 ((fun _ => (0 : Int)) 5)] 58)).below hb (by simp; omega)
  have hc1 := (Cb.new (w.alloc (.cells #[.int .i64 ((n : Int)), .int .i64 (T 0), .int .i64 (T 1), .int .i64 (T 2), .int .i64 (T 3), .int .i64 (T 4), .int .i64 (T 5)] 58)) 0 (fun _ => 0)).below hb (by simp)
  rw [World.size_alloc] at hc1
  have hB1 : Below w.heap.size w w1 := (((Below.refl _ w).alloc (Nat.le_refl _) _).alloc (by simp) _).trans (hb.mono (by simp; omega))
  have hz : w.heap.size + 2 ≤ w1.heap.size := by have := hb.size; simpa using this
  have hz0 : w.heap.size < w1.heap.size := by omega
  have hz1 : w.heap.size + 1 < w1.heap.size := by omega
  clear hb
  obtain ⟨c0, c1, c2, c3, c4, c5, c6⟩ := hc0.all
  gi_wp2_with fail
  refine ⟨trivial, (moved_in Fence.wide 2 trivial rfl _ _ _).mono ?_⟩
  rintro e w2 ⟨rfl, rfl⟩
  have hS := (Cb.new w1 n T0).alloc (.cells #[.int .i64 ((n : Int)), .int .i64 (T 0), .int .i64 (T 1), .int .i64 (T 2), .int .i64 (T 3), .int .i64 (T 4), .int .i64 (T 5)] 58)
  have hM := Cb.new (w1.alloc (.cells #[.int .i64 ((n : Int)), .int .i64 (T0 0), .int .i64 (T0 1), .int .i64 (T0 2), .int .i64 (T0 3), .int .i64 (T0 4), .int .i64 (T0 5)] 58)) n T
  rw [World.size_alloc] at hM
  have hR := (hc1.alloc (.cells #[.int .i64 ((n : Int)), .int .i64 (T0 0), .int .i64 (T0 1), .int .i64 (T0 2), .int .i64 (T0 3), .int .i64 (T0 4), .int .i64 (T0 5)] 58)).alloc (.cells #[.int .i64 ((n : Int)), .int .i64 (T 0), .int .i64 (T 1), .int .i64 (T 2), .int .i64 (T 3), .int .i64 (T 4), .int .i64 (T 5)] 58)
  have hB2 : Below w.heap.size w ((w1.alloc (.cells #[.int .i64 ((n : Int)), .int .i64 (T0 0), .int .i64 (T0 1), .int .i64 (T0 2), .int .i64 (T0 3), .int .i64 (T0 4), .int .i64 (T0 5)] 58)).alloc (.cells #[.int .i64 ((n : Int)), .int .i64 (T 0), .int .i64 (T 1), .int .i64 (T 2), .int .i64 (T 3), .int .i64 (T 4), .int .i64 (T 5)] 58)) := (hB1.alloc (by omega) _).alloc (by simp; omega) _
  have hS0 := hS.congr (T' := turnL n []) (fun j _ => HT0.out j)
  clear hc0 hc1 hB1 c0 c1 c2 c3 c4 c5 c6 HT0 hS
  gi_wp2
  refine wpIn_rangeFunc_ownG rfl (by omega) (gf := 122) (lb := #[.pointer (some ⟨w1.heap.size + 1, 0, none⟩)]) rfl trivial (enters_of Tryz.func122 (by kernel_rfl) rfl)
    (moved_stops Fence.wide 2 trivial rfl (by omega) (w1.heap.size + 1) n hn T hT _ hM) Kb_t (Kb_b (by simp)) (Below.refl _ _) (fun _ => rfl)
    (fun pre W => (Cb W w1.heap.size n (turnL n pre) ∧ Cb W (w.heap.size + 1) 0 (fun _ => 0)) ∧ Below w.heap.size w W)
    (fun _ _ _ => False)
    (OwnFrom.and (Own.from (fun s A B row hs hg hr => ⟨cb_own _ _ (turnL n) s A B row hs.1 hg hr, cb_own _ _ (fun _ : List Pt => fun _ => (0 : Int)) s A B row hs.2 hg hr⟩) _) (ownFrom_below (Nat.le_refl _) (by simp; omega)))
    (fun _ _ _ _ _ hs _ _ => hs)
    ⟨⟨hS0, hR⟩, hB2⟩
    (fun x => { tmps := #[.agg #[.int .i64 ((n : Int)), .int .i64 (T 0), .int .i64 (T 1), .int .i64 (T 2), .int .i64 (T 3), .int .i64 (T 4), .int .i64 (T 5)], .pointer (some ⟨w.heap.size, 0, none⟩), .pointer (some ⟨w.heap.size + 1, 0, none⟩), .pointer (some ⟨w1.heap.size, 0, none⟩), .int .i64 (x.1.1 : Int), .int .i64 x.1.2,
      .pointer (some ⟨w.heap.size, 0, none⟩), .int .i64 n, .agg #[.int .i64 ((n : Int)), .int .i64 (T0 0), .int .i64 (T0 1), .int .i64 (T0 2), .int .i64 (T0 3), .int .i64 (T0 4), .int .i64 (T0 5)], .agg #[.int .i64 ((n : Int)), .int .i64 (T 0), .int .i64 (T 1), .int .i64 (T 2), .int .i64 (T 3), .int .i64 (T 4), .int .i64 (T 5)], .func (.func 122) #[] #[.pointer (some ⟨w1.heap.size + 1, 0, none⟩)], .int .i64 (x.1.1 : Int), .int .i64 x.1.2, undef, undef, undef, undef, undef], defers := [] }) ?assign ?body ?done ?stop
  case assign =>
    intro l x W K hK
    gi_wp2
    exact hK
  case body =>
    rintro l pre ⟨⟨i, t⟩, hi, ht0, ht6⟩ W ⟨⟨hS, hR⟩, hB⟩ _
    obtain ⟨u, rfl⟩ := Int.eq_ofNat_of_zero_le ht0
    have hu : u < 6 := by omega
    have e1 := hS.at_ hu
    have e2 := hS.frozen (1 + u)
    have hS' := hS.set_ u (i : Int)
    have hR' := hR.other (a := ⟨w1.heap.size, 1 + u, none⟩) (by simp; omega) (.int .i64 (i : Int))
    have hB' := hB.setCell (p := ⟨w1.heap.size, 1 + u, none⟩) (by simp; omega) (.int .i64 (i : Int))
    clear hS hR hB
    gi_wp2
    refine ⟨(KeepsOthers.setCell _ _ _).from _, Below.heap_setCell _ _ _ _ (by simp), ⟨?_, hR'⟩, hB'⟩
    refine hS'.congr (fun j _ => ?_)
    rw [turnL_snoc]; simp [turnS]
  case done =>
    rintro D ys W hD rfl ⟨⟨hS, hR⟩, hB⟩ hK
    generalize hT' : turnL n (mv T n) = T' at hS
    have HT' := Lib.hid hT'
    clear hT'
    obtain ⟨a0, a1, a2, a3, a4, a5, a6⟩ := hR.all
    obtain ⟨b0, b1, b2, b3, b4, b5, b6⟩ := hR.frees
    obtain ⟨c0, c1, c2, c3, c4, c5, c6⟩ := hS.all
    gi_wp2
    obtain ⟨hK', hX⟩ := fin7 (n := (n : Int)) (T := T') hR hK
    obtain ⟨q0, q1, q2, q3, q4, q5, q6⟩ := hX.all
    refine ⟨by simp, .inl ⟨_, _, rfl, run_takeDeferred hK', ?_⟩⟩
    refine ⟨.agg #[.int .i64 ((n : Int)), .int .i64 (T' 0), .int .i64 (T' 1), .int .i64 (T' 2), .int .i64 (T' 3), .int .i64 (T' 4), .int .i64 (T' 5)], ?_, T', rfl, fun j _ => by rw [HT'.out], (below_set7 hB (by omega) _ _ _ _ _ _ _).trans (belowK_b (w := w) (Nat.le_refl _) _ D _ _ (by simp at hD; omega) hK' rfl rfl)⟩
    simp [results, Tryz.f50, go_sem, q0, q1, q2, q3, q4, q5, q6]
  case stop =>
    rintro D c pre W _ _ h _
    exact h.elim
end

/-! (impl.chart).times. -/
section
open Go.RowKit Go.Shelf
attribute [local go_sem] Oper.semAt_some


set_option maxRecDepth 100000 in
set_option maxHeartbeats 1000000 in
theorem times_any (n : Nat) (hn : n ≤ 6) (T : Nat → Int) (hT : Ok n T) (m : Nat) (G : Nat → Int) (w : World) :
    Calls Tryz.prog 115 #[.agg #[.int .i64 ((n : Int)), .int .i64 (T 0), .int .i64 (T 1), .int .i64 (T 2), .int .i64 (T 3), .int .i64 (T 4), .int .i64 (T 5)], .agg #[.int .i64 ((m : Int)), .int .i64 (G 0), .int .i64 (G 1), .int .i64 (G 2), .int .i64 (G 3), .int .i64 (G 4), .int .i64 (G 5)]] w fun e w' => ∃ T' : Nat → Int, e = .returned (.agg #[.int .i64 ((n : Int)), .int .i64 (T' 0), .int .i64 (T' 1), .int .i64 (T' 2), .int .i64 (T' 3), .int .i64 (T' 4), .int .i64 (T' 5)]) ∧ Hid (∀ j, j < 6 → T' j = timesL n G (mv T n) j) ∧ Below w.heap.size w w' := by
  refine (callsIn_wide (n := 3)).1 ?_
  refine callsIn_of_wp_marks Tryz.func115 rfl trivial ?_ rfl
  simp only [Tryz.ntmps115, List.size_toArray, List.length_cons, List.length_nil, Nat.reduceAdd, Nat.reduceSub, Array.replicate_succ, Array.replicate_zero, List.push_toArray, List.append_toArray, List.nil_append, List.cons_append]
  gi_wp2_with fail
  refine ⟨trivial, (callsIn_wide.2 (still_any n hn _)).mono ?_⟩
  rintro e w1 ⟨T0, rfl, HT0, hb⟩
  have hc0 := (((Cb.new w n T).alloc (.cells #[.int .i64 ((m : Int)), .int .i64 (G 0), .int .i64 (G 1), .int .i64 (G 2), .int .i64 (G 3), .int .i64 (G 4), .int .i64 (G 5)] 58)).alloc (.cells #[.int .i64 ((0 : Int)), .int .i64 ((fun _ => (0 : Int)) 0), .int .i64 ((fun _ => (0 : Int)) 1), .int .i64 ((fun _ => (0 : Int)) 2), .int .i64 ((fun _ => (0 : Int)) 3), .int .i64 ((fun _ => (0 : Int)) 4), .int .i64 ((fun _ => (0 : Int)) 5)] 58)).below hb (by simp <;> omega)
  have hcd : Cb w1 (w.heap.size + 1) m G := by
    have := ((Cb.new (w.alloc (.cells #[.int .i64 ((n : Int)), .int .i64 (T 0), .int .i64 (T 1), .int .i64 (T 2), .int .i64 (T 3), .int .i64 (T 4), .int .i64 (T 5)] 58)) m G).alloc (.cells #[.int .i64 ((0 : Int)), .int .i64 ((fun _ => (0 : Int)) 0), .int .i64 ((fun _ => (0 : Int)) 1), .int .i64 ((fun _ => (0 : Int)) 2), .int .i64 ((fun _ => (0 : Int)) 3), .int .i64 ((fun _ => (0 : Int)) 4), .int .i64 ((fun _ => (0 : Int)) 5)] 58)).below hb (by simp <;> omega)
    simpa only [World.size_alloc] using this
  have hc1 := (Cb.new ((w.alloc (.cells #[.int .i64 ((n : Int)), .int .i64 (T 0), .int .i64 (T 1), .int .i64 (T 2), .int .i64 (T 3), .int .i64 (T 4), .int .i64 (T 5)] 58)).alloc (.cells #[.int .i64 ((m : Int)), .int .i64 (G 0), .int .i64 (G 1), .int .i64 (G 2), .int .i64 (G 3), .int .i64 (G 4), .int .i64 (G 5)] 58)) 0 (fun _ => 0)).below hb (by simp)
  simp only [World.size_alloc] at hc1
  have hB1 : Below w.heap.size w w1 := ((((Below.refl _ w).alloc (Nat.le_refl _) _).alloc (by simp) _).alloc (by simp <;> omega) _).trans (hb.mono (by simp <;> omega))
  have hz : w.heap.size + 3 ≤ w1.heap.size := by have := hb.size; simpa using this
  have hz0 : w.heap.size < w1.heap.size := by omega
  have hz1 : w.heap.size + 1 < w1.heap.size := by omega
  have hz2 : w.heap.size + 1 + 1 < w1.heap.size := by omega
  clear hb
  obtain ⟨c0, c1, c2, c3, c4, c5, c6⟩ := hc0.all
  gi_wp2_with fail
  refine ⟨trivial, (moved_in Fence.wide 2 trivial rfl _ _ _).mono ?_⟩
  rintro e w2 ⟨rfl, rfl⟩
  have hS := (Cb.new w1 n T0).alloc (.cells #[.int .i64 ((n : Int)), .int .i64 (T 0), .int .i64 (T 1), .int .i64 (T 2), .int .i64 (T 3), .int .i64 (T 4), .int .i64 (T 5)] 58)
  have hM := Cb.new (w1.alloc (.cells #[.int .i64 ((n : Int)), .int .i64 (T0 0), .int .i64 (T0 1), .int .i64 (T0 2), .int .i64 (T0 3), .int .i64 (T0 4), .int .i64 (T0 5)] 58)) n T
  rw [World.size_alloc] at hM
  have hR := (hc1.alloc (.cells #[.int .i64 ((n : Int)), .int .i64 (T0 0), .int .i64 (T0 1), .int .i64 (T0 2), .int .i64 (T0 3), .int .i64 (T0 4), .int .i64 (T0 5)] 58)).alloc (.cells #[.int .i64 ((n : Int)), .int .i64 (T 0), .int .i64 (T 1), .int .i64 (T 2), .int .i64 (T 3), .int .i64 (T 4), .int .i64 (T 5)] 58)
  have hE := (hcd.alloc (.cells #[.int .i64 ((n : Int)), .int .i64 (T0 0), .int .i64 (T0 1), .int .i64 (T0 2), .int .i64 (T0 3), .int .i64 (T0 4), .int .i64 (T0 5)] 58)).alloc (.cells #[.int .i64 ((n : Int)), .int .i64 (T 0), .int .i64 (T 1), .int .i64 (T 2), .int .i64 (T 3), .int .i64 (T 4), .int .i64 (T 5)] 58)
  have hB2 : Below w.heap.size w ((w1.alloc (.cells #[.int .i64 ((n : Int)), .int .i64 (T0 0), .int .i64 (T0 1), .int .i64 (T0 2), .int .i64 (T0 3), .int .i64 (T0 4), .int .i64 (T0 5)] 58)).alloc (.cells #[.int .i64 ((n : Int)), .int .i64 (T 0), .int .i64 (T 1), .int .i64 (T 2), .int .i64 (T 3), .int .i64 (T 4), .int .i64 (T 5)] 58)) := (hB1.alloc (by omega) _).alloc (by simp <;> omega) _
  have hS0 := hS.congr (T' := timesL n G []) (fun j _ => HT0.out j)
  clear hc0 hc1 hB1 c0 c1 c2 c3 c4 c5 c6 HT0 hS hcd
  gi_wp2
  refine wpIn_rangeFunc_ownG rfl (by omega) (gf := 122) (lb := #[.pointer (some ⟨w1.heap.size + 1, 0, none⟩)]) rfl trivial (enters_of Tryz.func122 (by kernel_rfl) rfl)
    (moved_stops Fence.wide 2 trivial rfl (by omega) (w1.heap.size + 1) n hn T hT _ hM) Kb_t (Kb_b (by simp)) (Below.refl _ _) (fun _ => rfl)
    (fun pre W => (Cb W w1.heap.size n (timesL n G pre) ∧ Cb W (w.heap.size + 1 + 1) 0 (fun _ => 0) ∧ Cb W (w.heap.size + 1) m G) ∧ Below w.heap.size w W)
    (fun _ _ _ => False)
    (OwnFrom.and (Own.from (fun s A B row hs hg hr => ⟨cb_own _ _ (timesL n G) s A B row hs.1 hg hr, cb_own _ _ (fun _ : List Pt => fun _ => (0 : Int)) s A B row hs.2.1 hg hr, cb_own _ _ (fun _ : List Pt => G) s A B row hs.2.2 hg hr⟩) _) (ownFrom_below (Nat.le_refl _) (by simp <;> omega)))
    (fun _ _ _ _ _ hs _ _ => hs)
    ⟨⟨hS0, hR, hE⟩, hB2⟩
    (fun x => { tmps := #[.agg #[.int .i64 ((n : Int)), .int .i64 (T 0), .int .i64 (T 1), .int .i64 (T 2), .int .i64 (T 3), .int .i64 (T 4), .int .i64 (T 5)], .agg #[.int .i64 ((m : Int)), .int .i64 (G 0), .int .i64 (G 1), .int .i64 (G 2), .int .i64 (G 3), .int .i64 (G 4), .int .i64 (G 5)], .pointer (some ⟨w.heap.size, 0, none⟩), .pointer (some ⟨w.heap.size + 1, 0, none⟩), .pointer (some ⟨w.heap.size + 1 + 1, 0, none⟩), .pointer (some ⟨w1.heap.size, 0, none⟩), .int .i64 (x.1.1 : Int), .int .i64 x.1.2,
      .pointer (some ⟨w.heap.size, 0, none⟩), .int .i64 n, .agg #[.int .i64 ((n : Int)), .int .i64 (T0 0), .int .i64 (T0 1), .int .i64 (T0 2), .int .i64 (T0 3), .int .i64 (T0 4), .int .i64 (T0 5)], .agg #[.int .i64 ((n : Int)), .int .i64 (T 0), .int .i64 (T 1), .int .i64 (T 2), .int .i64 (T 3), .int .i64 (T 4), .int .i64 (T 5)], .func (.func 122) #[] #[.pointer (some ⟨w1.heap.size + 1, 0, none⟩)], .int .i64 (x.1.1 : Int), .int .i64 x.1.2, undef, undef, undef, undef, undef, undef, undef, undef], defers := [] }) ?assign ?body ?done ?stop
  case assign =>
    intro l x W K hK
    gi_wp2
    exact hK
  case body =>
    rintro l pre ⟨⟨i, t⟩, hi, ht0, ht6⟩ W ⟨⟨hS, hR, hE⟩, hB⟩ _
    obtain ⟨u, rfl⟩ := Int.eq_ofNat_of_zero_le ht0
    have hu : u < 6 := by omega
    have hi' : i < 6 := hi
    have e1 := hS.at_ hi'
    have e2 := hS.frozen (1 + i)
    have e3 := hE.at_ hu
    have hS' := hS.set_ i (G u)
    have hR' := hR.other (a := ⟨w1.heap.size, 1 + i, none⟩) (by simp <;> omega) (.int .i64 (G u))
    have hE' := hE.other (a := ⟨w1.heap.size, 1 + i, none⟩) (by simp <;> omega) (.int .i64 (G u))
    have hB' := hB.setCell (p := ⟨w1.heap.size, 1 + i, none⟩) (by simp <;> omega) (.int .i64 (G u))
    clear hS hR hB hE
    gi_wp2
    refine ⟨(KeepsOthers.setCell _ _ _).from _, Below.heap_setCell _ _ _ _ (by simp), ⟨?_, hR', hE'⟩, hB'⟩
    refine hS'.congr (fun j _ => ?_)
    rw [timesL_snoc]; simp [timesS]
  case done =>
    rintro D ys W hD rfl ⟨⟨hS, hR, hE⟩, hB⟩ hK
    generalize hT' : timesL n G (mv T n) = T' at hS
    have HT' := Lib.hid hT'
    clear hT' hE
    obtain ⟨a0, a1, a2, a3, a4, a5, a6⟩ := hR.all
    obtain ⟨b0, b1, b2, b3, b4, b5, b6⟩ := hR.frees
    obtain ⟨c0, c1, c2, c3, c4, c5, c6⟩ := hS.all
    gi_wp2
    obtain ⟨hK', hX⟩ := fin7 (n := (n : Int)) (T := T') hR hK
    obtain ⟨q0, q1, q2, q3, q4, q5, q6⟩ := hX.all
    refine ⟨by simp, .inl ⟨_, _, rfl, run_takeDeferred hK', ?_⟩⟩
    refine ⟨.agg #[.int .i64 ((n : Int)), .int .i64 (T' 0), .int .i64 (T' 1), .int .i64 (T' 2), .int .i64 (T' 3), .int .i64 (T' 4), .int .i64 (T' 5)], ?_, T', rfl, fun j _ => by rw [HT'.out], (below_set7 hB (by omega) _ _ _ _ _ _ _).trans (belowK_b (w := w) (Nat.le_refl _) _ D _ _ (by simp at hD; omega) hK' rfl rfl)⟩
    simp [results, Tryz.f115, go_sem, q0, q1, q2, q3, q4, q5, q6]
  case stop =>
    rintro D c pre W _ _ h _
    exact h.elim
end

/-! (impl.chart).meet. -/
section
open Go.RowKit Go.Shelf
attribute [local go_sem] Oper.semAt_some


set_option maxRecDepth 100000 in
set_option maxHeartbeats 1000000 in
theorem meet_any (n : Nat) (hn : n ≤ 6) (T : Nat → Int) (hT : Ok n T) (m : Nat) (G : Nat → Int) (w : World) :
    Calls Tryz.prog 145 #[.agg #[.int .i64 ((n : Int)), .int .i64 (T 0), .int .i64 (T 1), .int .i64 (T 2), .int .i64 (T 3), .int .i64 (T 4), .int .i64 (T 5)], .agg #[.int .i64 ((m : Int)), .int .i64 (G 0), .int .i64 (G 1), .int .i64 (G 2), .int .i64 (G 3), .int .i64 (G 4), .int .i64 (G 5)]] w fun e w' => ∃ T' : Nat → Int, e = .returned (.agg #[.int .i64 ((n : Int)), .int .i64 (T' 0), .int .i64 (T' 1), .int .i64 (T' 2), .int .i64 (T' 3), .int .i64 (T' 4), .int .i64 (T' 5)]) ∧ Hid (∀ j, j < 6 → T' j = meetL n G (mv T n) j) ∧ Below w.heap.size w w' := by
  refine (callsIn_wide (n := 3)).1 ?_
  refine callsIn_of_wp_marks Tryz.func145 rfl trivial ?_ rfl
  simp only [Tryz.ntmps145, List.size_toArray, List.length_cons, List.length_nil, Nat.reduceAdd, Nat.reduceSub, Array.replicate_succ, Array.replicate_zero, List.push_toArray, List.append_toArray, List.nil_append, List.cons_append]
  gi_wp2_with fail
  refine ⟨trivial, (callsIn_wide.2 (still_any n hn _)).mono ?_⟩
  rintro e w1 ⟨T0, rfl, HT0, hb⟩
  have hc0 := (((Cb.new w n T).alloc (.cells #[.int .i64 ((m : Int)), .int .i64 (G 0), .int .i64 (G 1), .int .i64 (G 2), .int .i64 (G 3), .int .i64 (G 4), .int .i64 (G 5)] 58)).alloc (.cells #[.int .i64 ((0 : Int)), .int .i64 ((fun _ => (0 : Int)) 0), .int .i64 ((fun _ => (0 : Int)) 1), .int .i64 ((fun _ => (0 : Int)) 2), .int .i64 ((fun _ => (0 : Int)) 3), .int .i64 ((fun _ => (0 : Int)) 4), .int .i64 ((fun _ => (0 : Int)) 5)] 58)).below hb (by simp <;> omega)
  have hcd : Cb w1 (w.heap.size + 1) m G := by
    have := ((Cb.new (w.alloc (.cells #[.int .i64 ((n : Int)), .int .i64 (T 0), .int .i64 (T 1), .int .i64 (T 2), .int .i64 (T 3), .int .i64 (T 4), .int .i64 (T 5)] 58)) m G).alloc (.cells #[.int .i64 ((0 : Int)), .int .i64 ((fun _ => (0 : Int)) 0), .int .i64 ((fun _ => (0 : Int)) 1), .int .i64 ((fun _ => (0 : Int)) 2), .int .i64 ((fun _ => (0 : Int)) 3), .int .i64 ((fun _ => (0 : Int)) 4), .int .i64 ((fun _ => (0 : Int)) 5)] 58)).below hb (by simp <;> omega)
    simpa only [World.size_alloc] using this
  have hc1 := (Cb.new ((w.alloc (.cells #[.int .i64 ((n : Int)), .int .i64 (T 0), .int .i64 (T 1), .int .i64 (T 2), .int .i64 (T 3), .int .i64 (T 4), .int .i64 (T 5)] 58)).alloc (.cells #[.int .i64 ((m : Int)), .int .i64 (G 0), .int .i64 (G 1), .int .i64 (G 2), .int .i64 (G 3), .int .i64 (G 4), .int .i64 (G 5)] 58)) 0 (fun _ => 0)).below hb (by simp)
  simp only [World.size_alloc] at hc1
  have hB1 : Below w.heap.size w w1 := ((((Below.refl _ w).alloc (Nat.le_refl _) _).alloc (by simp) _).alloc (by simp <;> omega) _).trans (hb.mono (by simp <;> omega))
  have hz : w.heap.size + 3 ≤ w1.heap.size := by have := hb.size; simpa using this
  have hz0 : w.heap.size < w1.heap.size := by omega
  have hz1 : w.heap.size + 1 < w1.heap.size := by omega
  have hz2 : w.heap.size + 1 + 1 < w1.heap.size := by omega
  clear hb
  obtain ⟨c0, c1, c2, c3, c4, c5, c6⟩ := hc0.all
  gi_wp2_with fail
  refine ⟨trivial, (moved_in Fence.wide 2 trivial rfl _ _ _).mono ?_⟩
  rintro e w2 ⟨rfl, rfl⟩
  have hS := (Cb.new w1 n T0).alloc (.cells #[.int .i64 ((n : Int)), .int .i64 (T 0), .int .i64 (T 1), .int .i64 (T 2), .int .i64 (T 3), .int .i64 (T 4), .int .i64 (T 5)] 58)
  have hM := Cb.new (w1.alloc (.cells #[.int .i64 ((n : Int)), .int .i64 (T0 0), .int .i64 (T0 1), .int .i64 (T0 2), .int .i64 (T0 3), .int .i64 (T0 4), .int .i64 (T0 5)] 58)) n T
  rw [World.size_alloc] at hM
  have hR := (hc1.alloc (.cells #[.int .i64 ((n : Int)), .int .i64 (T0 0), .int .i64 (T0 1), .int .i64 (T0 2), .int .i64 (T0 3), .int .i64 (T0 4), .int .i64 (T0 5)] 58)).alloc (.cells #[.int .i64 ((n : Int)), .int .i64 (T 0), .int .i64 (T 1), .int .i64 (T 2), .int .i64 (T 3), .int .i64 (T 4), .int .i64 (T 5)] 58)
  have hE := (hcd.alloc (.cells #[.int .i64 ((n : Int)), .int .i64 (T0 0), .int .i64 (T0 1), .int .i64 (T0 2), .int .i64 (T0 3), .int .i64 (T0 4), .int .i64 (T0 5)] 58)).alloc (.cells #[.int .i64 ((n : Int)), .int .i64 (T 0), .int .i64 (T 1), .int .i64 (T 2), .int .i64 (T 3), .int .i64 (T 4), .int .i64 (T 5)] 58)
  have hB2 : Below w.heap.size w ((w1.alloc (.cells #[.int .i64 ((n : Int)), .int .i64 (T0 0), .int .i64 (T0 1), .int .i64 (T0 2), .int .i64 (T0 3), .int .i64 (T0 4), .int .i64 (T0 5)] 58)).alloc (.cells #[.int .i64 ((n : Int)), .int .i64 (T 0), .int .i64 (T 1), .int .i64 (T 2), .int .i64 (T 3), .int .i64 (T 4), .int .i64 (T 5)] 58)) := (hB1.alloc (by omega) _).alloc (by simp <;> omega) _
  have hS0 := hS.congr (T' := meetL n G []) (fun j _ => HT0.out j)
  clear hc0 hc1 hB1 c0 c1 c2 c3 c4 c5 c6 HT0 hS hcd
  gi_wp2
  refine wpIn_rangeFunc_ownG rfl (by omega) (gf := 122) (lb := #[.pointer (some ⟨w1.heap.size + 1, 0, none⟩)]) rfl trivial (enters_of Tryz.func122 (by kernel_rfl) rfl)
    (moved_stops Fence.wide 2 trivial rfl (by omega) (w1.heap.size + 1) n hn T hT _ hM) Kb_t (Kb_b (by simp)) (Below.refl _ _) (fun _ => rfl)
    (fun pre W => (Cb W w1.heap.size n (meetL n G pre) ∧ Cb W (w.heap.size + 1 + 1) 0 (fun _ => 0) ∧ Cb W (w.heap.size + 1) m G) ∧ Below w.heap.size w W)
    (fun _ _ _ => False)
    (OwnFrom.and (Own.from (fun s A B row hs hg hr => ⟨cb_own _ _ (meetL n G) s A B row hs.1 hg hr, cb_own _ _ (fun _ : List Pt => fun _ => (0 : Int)) s A B row hs.2.1 hg hr, cb_own _ _ (fun _ : List Pt => G) s A B row hs.2.2 hg hr⟩) _) (ownFrom_below (Nat.le_refl _) (by simp <;> omega)))
    (fun _ _ _ _ _ hs _ _ => hs)
    ⟨⟨hS0, hR, hE⟩, hB2⟩
    (fun x => { tmps := #[.agg #[.int .i64 ((n : Int)), .int .i64 (T 0), .int .i64 (T 1), .int .i64 (T 2), .int .i64 (T 3), .int .i64 (T 4), .int .i64 (T 5)], .agg #[.int .i64 ((m : Int)), .int .i64 (G 0), .int .i64 (G 1), .int .i64 (G 2), .int .i64 (G 3), .int .i64 (G 4), .int .i64 (G 5)], .pointer (some ⟨w.heap.size, 0, none⟩), .pointer (some ⟨w.heap.size + 1, 0, none⟩), .pointer (some ⟨w.heap.size + 1 + 1, 0, none⟩), .pointer (some ⟨w1.heap.size, 0, none⟩), .int .i64 (x.1.1 : Int), .int .i64 x.1.2,
      .pointer (some ⟨w.heap.size, 0, none⟩), .int .i64 n, .agg #[.int .i64 ((n : Int)), .int .i64 (T0 0), .int .i64 (T0 1), .int .i64 (T0 2), .int .i64 (T0 3), .int .i64 (T0 4), .int .i64 (T0 5)], .agg #[.int .i64 ((n : Int)), .int .i64 (T 0), .int .i64 (T 1), .int .i64 (T 2), .int .i64 (T 3), .int .i64 (T 4), .int .i64 (T 5)], .func (.func 122) #[] #[.pointer (some ⟨w1.heap.size + 1, 0, none⟩)], .int .i64 (x.1.1 : Int), .int .i64 x.1.2, undef, undef, undef, undef, undef, undef, undef, undef, undef, undef, undef], defers := [] }) ?assign ?body ?done ?stop
  case assign =>
    intro l x W K hK
    gi_wp2
    exact hK
  case body =>
    rintro l pre ⟨⟨i, t⟩, hi, ht0, ht6⟩ W ⟨⟨hS, hR, hE⟩, hB⟩ _
    obtain ⟨u, rfl⟩ := Int.eq_ofNat_of_zero_le ht0
    have hu : u < 6 := by omega
    have hi' : i < 6 := hi
    have e1 := hS.at_ hi'
    have e2 := hS.frozen (1 + i)
    have e3 := hE.at_ hi'
    have hS' := hS.set_ i (u : Int)
    have hR' := hR.other (a := ⟨w1.heap.size, 1 + i, none⟩) (by simp <;> omega) (.int .i64 (u : Int))
    have hE' := hE.other (a := ⟨w1.heap.size, 1 + i, none⟩) (by simp <;> omega) (.int .i64 (u : Int))
    have hB' := hB.setCell (p := ⟨w1.heap.size, 1 + i, none⟩) (by simp <;> omega) (.int .i64 (u : Int))
    by_cases hd : G i = (u : Int)
    · have hb : (G i == (u : Int)) = true := by simpa using hd
      have HD := Lib.hid hd
      clear hd hS hR hB hE
      gi_wp2
      refine ⟨(KeepsOthers.setCell _ _ _).from _, Below.heap_setCell _ _ _ _ (by simp), ⟨?_, hR', hE'⟩, hB'⟩
      refine hS'.congr (fun j _ => ?_)
      rw [meetL_snoc]; simp [meetS, HD.out]
    · have hb : (G i == (u : Int)) = false := by simpa using hd
      have HD := Lib.hid hd
      clear hd hS' hR' hB' hE'
      gi_wp2
      refine ⟨KeepsFrom.refl _ _, rfl, ⟨?_, hR, hE⟩, hB⟩
      refine hS.congr (fun j _ => ?_)
      rw [meetL_snoc]; simp [meetS, HD.out]
  case done =>
    rintro D ys W hD rfl ⟨⟨hS, hR, hE⟩, hB⟩ hK
    generalize hT' : meetL n G (mv T n) = T' at hS
    have HT' := Lib.hid hT'
    clear hT' hE
    obtain ⟨a0, a1, a2, a3, a4, a5, a6⟩ := hR.all
    obtain ⟨b0, b1, b2, b3, b4, b5, b6⟩ := hR.frees
    obtain ⟨c0, c1, c2, c3, c4, c5, c6⟩ := hS.all
    gi_wp2
    obtain ⟨hK', hX⟩ := fin7 (n := (n : Int)) (T := T') hR hK
    obtain ⟨q0, q1, q2, q3, q4, q5, q6⟩ := hX.all
    refine ⟨by simp, .inl ⟨_, _, rfl, run_takeDeferred hK', ?_⟩⟩
    refine ⟨.agg #[.int .i64 ((n : Int)), .int .i64 (T' 0), .int .i64 (T' 1), .int .i64 (T' 2), .int .i64 (T' 3), .int .i64 (T' 4), .int .i64 (T' 5)], ?_, T', rfl, fun j _ => by rw [HT'.out], (below_set7 hB (by omega) _ _ _ _ _ _ _).trans (belowK_b (w := w) (Nat.le_refl _) _ D _ _ (by simp at hD; omega) hK' rfl rfl)⟩
    simp [results, Tryz.f145, go_sem, q0, q1, q2, q3, q4, q5, q6]
  case stop =>
    rintro D c pre W _ _ h _
    exact h.elim
end

/-! (impl.chart).cut. -/
section
open Go.RowKit Go.Shelf
attribute [local go_sem] Oper.semAt_some


/-- block b is one number's -/
def Ib (w : World) (b : Nat) (v : Int) : Prop := w.rowIs b 3 1 (fun _ => .int .i64 v)
theorem Ib.cell {w : World} {b : Nat} {v : Int} (h : Ib w b v) : w.cell? ⟨b, 0, none⟩ = some (.int .i64 v) := World.rowIs.cell h (i := 0) (by omega)
theorem Ib.frozen {w : World} {b : Nat} {v : Int} (h : Ib w b v) : w.frozen? ⟨b, 0, none⟩ = false := World.rowIs.frozen h 0
theorem Ib.alloc {w : World} {b : Nat} {v : Int} (h : Ib w b v) (o : Obj) : Ib (w.alloc o) b v := World.rowIs.alloc h o
theorem Ib.below {w w' : World} {b : Nat} {v : Int} {B : Nat} (h : Ib w b v) (hb : Below B w w') (hB : b < B) : Ib w' b v := World.rowIs.of_block h (hb.block b hB)
theorem Ib.other {w : World} {b : Nat} {v : Int} (h : Ib w b v) {a : Addr} (ha : b ≠ a.block) (u : Value) : Ib (w.setCell a u) b v := World.rowIs.setOther h ha u
theorem Ib.new (w : World) (v : Int) : Ib (w.alloc (.cells #[.int .i64 v] 3)) w.heap.size v :=
  World.rowIs_alloc w _ 3 (fun _ => .int .i64 v) (fun i hi => by
    match i, hi with
    | 0, _ => rfl)
theorem ib_own {β : Type} (b : Nat) (f : β → Int) : Own (fun s W => Ib W b (f s)) := fun s X Y row hs hg hrow =>
  World.rowIs.of_block hs (hg.block b (World.rowIs.lt hs) (fun e' => by
    obtain ⟨o, ho, hc⟩ := hrow b e'.symm
    obtain ⟨c, hb, _⟩ := hs
    rw [hb] at ho; cases ho; cases hc))

set_option maxRecDepth 100000 in
set_option maxHeartbeats 1000000 in
theorem cut_any (n : Nat) (hn : n ≤ 6) (T : Nat → Int) (hT : Ok n T) (m : Nat) (hm : m < 64) (w : World) :
    Calls Tryz.prog 103 #[.agg #[.int .i64 ((n : Int)), .int .i64 (T 0), .int .i64 (T 1), .int .i64 (T 2), .int .i64 (T 3), .int .i64 (T 4), .int .i64 (T 5)], .int .i64 (m : Int)] w fun e w' => ∃ T' : Nat → Int, e = .returned (.agg #[.int .i64 ((n : Int)), .int .i64 (T' 0), .int .i64 (T' 1), .int .i64 (T' 2), .int .i64 (T' 3), .int .i64 (T' 4), .int .i64 (T' 5)]) ∧ Hid (∀ j, j < 6 → T' j = cutL n m (mv T n) j) ∧ Below w.heap.size w w' := by
  refine (callsIn_wide (n := 3)).1 ?_
  refine callsIn_of_wp_marks Tryz.func103 rfl trivial ?_ rfl
  simp only [Tryz.ntmps103, List.size_toArray, List.length_cons, List.length_nil, Nat.reduceAdd, Nat.reduceSub, Array.replicate_succ, Array.replicate_zero, List.push_toArray, List.append_toArray, List.nil_append, List.cons_append]
  gi_wp2_with fail
  refine ⟨trivial, (callsIn_wide.2 (still_any n hn _)).mono ?_⟩
  rintro e w1 ⟨T0, rfl, HT0, hb⟩
  have hc0 := (((Cb.new w n T).alloc (.cells #[.int .i64 (m : Int)] 3)).alloc (.cells #[.int .i64 ((0 : Int)), .int .i64 ((fun _ => (0 : Int)) 0), .int .i64 ((fun _ => (0 : Int)) 1), .int .i64 ((fun _ => (0 : Int)) 2), .int .i64 ((fun _ => (0 : Int)) 3), .int .i64 ((fun _ => (0 : Int)) 4), .int .i64 ((fun _ => (0 : Int)) 5)] 58)).below hb (by simp <;> omega)
  have hcd : Ib w1 (w.heap.size + 1) m := by
    have := ((Ib.new (w.alloc (.cells #[.int .i64 ((n : Int)), .int .i64 (T 0), .int .i64 (T 1), .int .i64 (T 2), .int .i64 (T 3), .int .i64 (T 4), .int .i64 (T 5)] 58)) m).alloc (.cells #[.int .i64 ((0 : Int)), .int .i64 ((fun _ => (0 : Int)) 0), .int .i64 ((fun _ => (0 : Int)) 1), .int .i64 ((fun _ => (0 : Int)) 2), .int .i64 ((fun _ => (0 : Int)) 3), .int .i64 ((fun _ => (0 : Int)) 4), .int .i64 ((fun _ => (0 : Int)) 5)] 58)).below hb (by simp <;> omega)
    simpa only [World.size_alloc] using this
  have hc1 := (Cb.new ((w.alloc (.cells #[.int .i64 ((n : Int)), .int .i64 (T 0), .int .i64 (T 1), .int .i64 (T 2), .int .i64 (T 3), .int .i64 (T 4), .int .i64 (T 5)] 58)).alloc (.cells #[.int .i64 (m : Int)] 3)) 0 (fun _ => 0)).below hb (by simp)
  simp only [World.size_alloc] at hc1
  have hB1 : Below w.heap.size w w1 := ((((Below.refl _ w).alloc (Nat.le_refl _) _).alloc (by simp) _).alloc (by simp <;> omega) _).trans (hb.mono (by simp <;> omega))
  have hz : w.heap.size + 3 ≤ w1.heap.size := by have := hb.size; simpa using this
  have hz0 : w.heap.size < w1.heap.size := by omega
  have hz1 : w.heap.size + 1 < w1.heap.size := by omega
  have hz2 : w.heap.size + 1 + 1 < w1.heap.size := by omega
  clear hb
  obtain ⟨c0, c1, c2, c3, c4, c5, c6⟩ := hc0.all
  gi_wp2_with fail
  refine ⟨trivial, (moved_in Fence.wide 2 trivial rfl _ _ _).mono ?_⟩
  rintro e w2 ⟨rfl, rfl⟩
  have hS := (Cb.new w1 n T0).alloc (.cells #[.int .i64 ((n : Int)), .int .i64 (T 0), .int .i64 (T 1), .int .i64 (T 2), .int .i64 (T 3), .int .i64 (T 4), .int .i64 (T 5)] 58)
  have hM := Cb.new (w1.alloc (.cells #[.int .i64 ((n : Int)), .int .i64 (T0 0), .int .i64 (T0 1), .int .i64 (T0 2), .int .i64 (T0 3), .int .i64 (T0 4), .int .i64 (T0 5)] 58)) n T
  rw [World.size_alloc] at hM
  have hR := (hc1.alloc (.cells #[.int .i64 ((n : Int)), .int .i64 (T0 0), .int .i64 (T0 1), .int .i64 (T0 2), .int .i64 (T0 3), .int .i64 (T0 4), .int .i64 (T0 5)] 58)).alloc (.cells #[.int .i64 ((n : Int)), .int .i64 (T 0), .int .i64 (T 1), .int .i64 (T 2), .int .i64 (T 3), .int .i64 (T 4), .int .i64 (T 5)] 58)
  have hE := (hcd.alloc (.cells #[.int .i64 ((n : Int)), .int .i64 (T0 0), .int .i64 (T0 1), .int .i64 (T0 2), .int .i64 (T0 3), .int .i64 (T0 4), .int .i64 (T0 5)] 58)).alloc (.cells #[.int .i64 ((n : Int)), .int .i64 (T 0), .int .i64 (T 1), .int .i64 (T 2), .int .i64 (T 3), .int .i64 (T 4), .int .i64 (T 5)] 58)
  have hB2 : Below w.heap.size w ((w1.alloc (.cells #[.int .i64 ((n : Int)), .int .i64 (T0 0), .int .i64 (T0 1), .int .i64 (T0 2), .int .i64 (T0 3), .int .i64 (T0 4), .int .i64 (T0 5)] 58)).alloc (.cells #[.int .i64 ((n : Int)), .int .i64 (T 0), .int .i64 (T 1), .int .i64 (T 2), .int .i64 (T 3), .int .i64 (T 4), .int .i64 (T 5)] 58)) := (hB1.alloc (by omega) _).alloc (by simp <;> omega) _
  have hS0 := hS.congr (T' := cutL n m []) (fun j _ => HT0.out j)
  clear hc0 hc1 hB1 c0 c1 c2 c3 c4 c5 c6 HT0 hS hcd
  gi_wp2
  refine wpIn_rangeFunc_ownG rfl (by omega) (gf := 122) (lb := #[.pointer (some ⟨w1.heap.size + 1, 0, none⟩)]) rfl trivial (enters_of Tryz.func122 (by kernel_rfl) rfl)
    (moved_stops Fence.wide 2 trivial rfl (by omega) (w1.heap.size + 1) n hn T hT _ hM) Kb_t (Kb_b (by simp)) (Below.refl _ _) (fun _ => rfl)
    (fun pre W => (Cb W w1.heap.size n (cutL n m pre) ∧ Cb W (w.heap.size + 1 + 1) 0 (fun _ => 0) ∧ Ib W (w.heap.size + 1) m) ∧ Below w.heap.size w W)
    (fun _ _ _ => False)
    (OwnFrom.and (Own.from (fun s A B row hs hg hr => ⟨cb_own _ _ (cutL n m) s A B row hs.1 hg hr, cb_own _ _ (fun _ : List Pt => fun _ => (0 : Int)) s A B row hs.2.1 hg hr, ib_own _ (fun _ : List Pt => (m : Int)) s A B row hs.2.2 hg hr⟩) _) (ownFrom_below (Nat.le_refl _) (by simp <;> omega)))
    (fun _ _ _ _ _ hs _ _ => hs)
    ⟨⟨hS0, hR, hE⟩, hB2⟩
    (fun x => { tmps := #[.agg #[.int .i64 ((n : Int)), .int .i64 (T 0), .int .i64 (T 1), .int .i64 (T 2), .int .i64 (T 3), .int .i64 (T 4), .int .i64 (T 5)], .int .i64 (m : Int), .pointer (some ⟨w.heap.size, 0, none⟩), .pointer (some ⟨w.heap.size + 1, 0, none⟩), .pointer (some ⟨w.heap.size + 1 + 1, 0, none⟩), .pointer (some ⟨w1.heap.size, 0, none⟩), .int .i64 (x.1.1 : Int), .int .i64 x.1.2,
      .pointer (some ⟨w.heap.size, 0, none⟩), .int .i64 n, .agg #[.int .i64 ((n : Int)), .int .i64 (T0 0), .int .i64 (T0 1), .int .i64 (T0 2), .int .i64 (T0 3), .int .i64 (T0 4), .int .i64 (T0 5)], .agg #[.int .i64 ((n : Int)), .int .i64 (T 0), .int .i64 (T 1), .int .i64 (T 2), .int .i64 (T 3), .int .i64 (T 4), .int .i64 (T 5)], .func (.func 122) #[] #[.pointer (some ⟨w1.heap.size + 1, 0, none⟩)], .int .i64 (x.1.1 : Int), .int .i64 x.1.2, undef, undef, undef, undef, undef, undef, undef, undef], defers := [] }) ?assign ?body ?done ?stop
  case assign =>
    intro l x W K hK
    gi_wp2
    exact hK
  case body =>
    rintro l pre ⟨⟨i, t⟩, hi, ht0, ht6⟩ W ⟨⟨hS, hR, hE⟩, hB⟩ _
    obtain ⟨u, rfl⟩ := Int.eq_ofNat_of_zero_le ht0
    have hu : u < 6 := by omega
    have hi' : i < 6 := hi
    have e1 := hS.at_ hi'
    have e2 := hS.frozen (1 + i)
    have e3 := hE.cell
    have hS' := hS.set_ i (u : Int)
    have hR' := hR.other (a := ⟨w1.heap.size, 1 + i, none⟩) (by simp <;> omega) (.int .i64 (u : Int))
    have hE' := hE.other (a := ⟨w1.heap.size, 1 + i, none⟩) (by simp <;> omega) (.int .i64 (u : Int))
    have hB' := hB.setCell (p := ⟨w1.heap.size, 1 + i, none⟩) (by simp <;> omega) (.int .i64 (u : Int))
    have hcall := hasPoint_any m (i : Int) hm (by omega) (by omega) W
    rw [Int.toNat_natCast] at hcall
    by_cases hd : m.testBit i = true
    · rw [hd] at hcall
      have HD := Lib.hid hd
      clear hd hS hR hB hE
      gi_wp2_with fail
      refine ⟨trivial, (CallsIn.inRound l (callsIn_wide.2 hcall)).mono ?_⟩
      rintro e w' ⟨rfl, rfl⟩
      clear hcall
      gi_wp2
      refine ⟨(KeepsOthers.setCell _ _ _).from _, Below.heap_setCell _ _ _ _ (by simp), ⟨?_, hR', hE'⟩, hB'⟩
      refine hS'.congr (fun j _ => ?_)
      rw [cutL_snoc]; simp [cutS, HD.out]
    · have hd := eq_false_of_ne_true hd
      rw [hd] at hcall
      have HD := Lib.hid hd
      clear hd hS' hR' hB' hE'
      gi_wp2_with fail
      refine ⟨trivial, (CallsIn.inRound l (callsIn_wide.2 hcall)).mono ?_⟩
      rintro e w' ⟨rfl, rfl⟩
      clear hcall
      gi_wp2
      refine ⟨KeepsFrom.refl _ _, rfl, ⟨?_, hR, hE⟩, hB⟩
      refine hS.congr (fun j _ => ?_)
      rw [cutL_snoc]; simp [cutS, HD.out]
  case done =>
    rintro D ys W hD rfl ⟨⟨hS, hR, hE⟩, hB⟩ hK
    generalize hT' : cutL n m (mv T n) = T' at hS
    have HT' := Lib.hid hT'
    clear hT' hE
    obtain ⟨a0, a1, a2, a3, a4, a5, a6⟩ := hR.all
    obtain ⟨b0, b1, b2, b3, b4, b5, b6⟩ := hR.frees
    obtain ⟨c0, c1, c2, c3, c4, c5, c6⟩ := hS.all
    gi_wp2
    obtain ⟨hK', hX⟩ := fin7 (n := (n : Int)) (T := T') hR hK
    obtain ⟨q0, q1, q2, q3, q4, q5, q6⟩ := hX.all
    refine ⟨by simp, .inl ⟨_, _, rfl, run_takeDeferred hK', ?_⟩⟩
    refine ⟨.agg #[.int .i64 ((n : Int)), .int .i64 (T' 0), .int .i64 (T' 1), .int .i64 (T' 2), .int .i64 (T' 3), .int .i64 (T' 4), .int .i64 (T' 5)], ?_, T', rfl, fun j _ => by rw [HT'.out], (below_set7 hB (by omega) _ _ _ _ _ _ _).trans (belowK_b (w := w) (Nat.le_refl _) _ D _ _ (by simp at hD; omega) hK' rfl rfl)⟩
    simp [results, Tryz.f103, go_sem, q0, q1, q2, q3, q4, q5, q6]
  case stop =>
    rintro D c pre W _ _ h _
    exact h.elim
end

/-! (impl.chart).join, (impl.chart).idem, (impl.chart).domain, impl.identity, impl.isSet. -/
section
open Go.RowKit Go.Shelf
attribute [local go_sem] Oper.semAt_some


set_option maxRecDepth 100000 in
set_option maxHeartbeats 1000000 in
theorem idem_any (n : Nat) (hn : n ≤ 6) (T : Nat → Int) (hT : Ok n T) (w : World) :
    Calls Tryz.prog 57 #[.agg #[.int .i64 ((n : Int)), .int .i64 (T 0), .int .i64 (T 1), .int .i64 (T 2), .int .i64 (T 3), .int .i64 (T 4), .int .i64 (T 5)]] w fun e w' => e = .returned (.bool (idemL (mv T n))) ∧ Below w.heap.size w w' := by
  refine (callsIn_wide (n := 3)).1 ?_
  refine callsIn_of_wp_marks Tryz.func57 rfl trivial ?_ rfl
  simp only [Tryz.ntmps57, List.size_toArray, List.length_cons, List.length_nil, Nat.reduceAdd, Nat.reduceSub, Array.replicate_succ, Array.replicate_zero, List.push_toArray, List.append_toArray, List.nil_append, List.cons_append]
  gi_wp2_with fail
  refine ⟨trivial, (moved_in Fence.wide 2 trivial rfl _ _ _).mono ?_⟩
  rintro e w2 ⟨rfl, rfl⟩
  gi_wp2
  have bR := (Boxed.new (w.alloc (.cells #[.int .i64 ((n : Int)), .int .i64 (T 0), .int .i64 (T 1), .int .i64 (T 2), .int .i64 (T 3), .int .i64 (T 4), .int .i64 (T 5)] 58)) 4 (.bool false)).alloc (.cells #[.int .i64 ((n : Int)), .int .i64 (T 0), .int .i64 (T 1), .int .i64 (T 2), .int .i64 (T 3), .int .i64 (T 4), .int .i64 (T 5)] 58)
  have hM := Cb.new ((w.alloc (.cells #[.int .i64 ((n : Int)), .int .i64 (T 0), .int .i64 (T 1), .int .i64 (T 2), .int .i64 (T 3), .int .i64 (T 4), .int .i64 (T 5)] 58)).alloc (.cells #[.bool false] 4)) n T
  simp only [World.size_alloc] at bR hM
  have hB0 : Below w.heap.size w (((w.alloc (.cells #[.int .i64 ((n : Int)), .int .i64 (T 0), .int .i64 (T 1), .int .i64 (T 2), .int .i64 (T 3), .int .i64 (T 4), .int .i64 (T 5)] 58)).alloc (.cells #[.bool false] 4)).alloc (.cells #[.int .i64 ((n : Int)), .int .i64 (T 0), .int .i64 (T 1), .int .i64 (T 2), .int .i64 (T 3), .int .i64 (T 4), .int .i64 (T 5)] 58)) := (((Below.refl _ w).alloc (Nat.le_refl _) _).alloc (by simp) _).alloc (by simp <;> omega) _
  refine wpIn_rangeFunc_ownG rfl (by omega) (gf := 122) (lb := #[.pointer (some ⟨w.heap.size + 1 + 1, 0, none⟩)]) rfl trivial (enters_of Tryz.func122 (by kernel_rfl) rfl)
    (moved_stops Fence.wide 2 trivial rfl (by omega) (w.heap.size + 1 + 1) n hn T hT _ hM) Kb_t (Kb_b (by simp)) (Below.refl _ _) (fun _ => rfl)
    (fun pre W => (idemL pre = true ∧ W.cell? ⟨w.heap.size + 1, 0, none⟩ = some (.bool false) ∧ W.frozen? ⟨w.heap.size + 1, 0, none⟩ = false) ∧ Below w.heap.size w W)
    (fun c pre W => (c = .ret ∧ idemL pre = false ∧ W.cell? ⟨w.heap.size + 1, 0, none⟩ = some (.bool false)) ∧ Below w.heap.size w W)
    (OwnFrom.and (Own.from (fun s A B row hs hg hr => ⟨hs.1, cell_kept hs.2.1 hg hr, (frozen_kept hs.2.1 hg hr).trans hs.2.2⟩) _) (ownFrom_below (Nat.le_refl _) (by simp <;> omega)))
    (fun c => OwnFrom.and (Own.from (fun s A B row hs hg hr => ⟨hs.1, hs.2.1, cell_kept hs.2.2 hg hr⟩) _) (ownFrom_below (Nat.le_refl _) (by simp <;> omega)))
    ⟨⟨rfl, bR.cell, bR.frozen⟩, hB0⟩
    (fun x => { tmps := #[.agg #[.int .i64 ((n : Int)), .int .i64 (T 0), .int .i64 (T 1), .int .i64 (T 2), .int .i64 (T 3), .int .i64 (T 4), .int .i64 (T 5)], .pointer (some ⟨w.heap.size, 0, none⟩), .pointer (some ⟨w.heap.size + 1, 0, none⟩), .int .i64 (x.1.1 : Int), .int .i64 x.1.2, .agg #[.int .i64 ((n : Int)), .int .i64 (T 0), .int .i64 (T 1), .int .i64 (T 2), .int .i64 (T 3), .int .i64 (T 4), .int .i64 (T 5)], .func (.func 122) #[] #[.pointer (some ⟨w.heap.size + 1 + 1, 0, none⟩)], .int .i64 (x.1.1 : Int), .int .i64 x.1.2, undef, undef, undef], defers := [] }) ?assign ?body ?done ?stop
  case assign =>
    intro l x W K hK
    gi_wp2
    exact hK
  case body =>
    rintro l pre ⟨⟨i, t⟩, hi, ht0, ht6⟩ W ⟨⟨hp, hcr, hfr⟩, hB⟩ _
    have HP := Lib.hid hp
    clear hp
    by_cases he : (i : Int) = t
    · have hb : ((i : Int) != t) = false := by simp [he]
      have HE := Lib.hid he
      clear he
      gi_wp2
      exact ⟨KeepsFrom.refl _ _, rfl, ⟨by rw [idemL_snoc, HP.out]; simp [HE.out], hcr, hfr⟩, hB⟩
    · have hb : ((i : Int) != t) = true := by simp [he]
      have HE := Lib.hid he
      clear he
      gi_wp2
      exact ⟨(KeepsOthers.setCell _ _ _).from _, ⟨rfl, by rw [idemL_snoc]; simp [HE.out], World.cell?_setCell_same' _ _ _ (by rw [hcr]; rfl)⟩, hB.setCell (p := ⟨w.heap.size + 1, 0, none⟩) (by simp) _⟩
  case done =>
    rintro D ys W hD rfl ⟨⟨hp, hcr, hfr⟩, hB⟩ hK
    have HP := Lib.hid hp
    clear hp
    gi_wp2
    have hK' := (KeepsOthers.setCell W ⟨w.heap.size + 1, 0, none⟩ (.bool true)).same D _ hK rfl
    refine ⟨by simp, .inl ⟨_, _, rfl, run_takeDeferred hK', ?_⟩⟩
    have hc5 := cell_kept (World.cell?_setCell_same' W ⟨w.heap.size + 1, 0, none⟩ (.bool true) (by rw [hcr]; rfl)) (grownBy_putObj' _ D (.deferred none)) (fun r e => by cases e; exact ⟨_, hK', rfl⟩)
    refine ⟨.bool true, ?_, by rw [HP.out], (hB.setCell (p := ⟨w.heap.size + 1, 0, none⟩) (by simp) _).trans (belowK_b (w := w) (Nat.le_refl _) _ D _ _ (by simp at hD; omega) hK' rfl rfl)⟩
    simp [results, Tryz.f57, go_sem, hc5]
  case stop =>
    rintro D c pre W hD ⟨k, hk, rfl⟩ ⟨⟨rfl, hp, hcr⟩, hB⟩ hK
    have HP := Lib.hid (idemL_take hk hp)
    clear hp
    gi_wp2
    refine ⟨by simp, .inl ⟨_, _, rfl, run_takeDeferred hK, ?_⟩⟩
    have hc5 := cell_kept hcr (grownBy_putObj' _ D (.deferred none)) (fun r e => by cases e; exact ⟨_, hK, rfl⟩)
    refine ⟨.bool false, ?_, by rw [HP.out], hB.trans (belowK_b (w := w) (Nat.le_refl _) W D _ _ (by simp at hD; omega) hK rfl rfl)⟩
    simp [results, Tryz.f57, go_sem, hc5]
end

/-! (impl.chart).domain, (impl.chart).image. -/
section
open Go.RowKit Go.Shelf
attribute [local go_sem] Oper.semAt_some

theorem setw_fin : ∀ (m : Fin 64) (z : Fin 6), bits BinOp.or IntKind.i64 (m.val : Int) (IntKind.i64.wrap (2 ^ z.val)) = ((m.val ||| 1 <<< z.val : Nat) : Int) := by decide +kernel
theorem setw_is {m z : Nat} (hm : m < 64) (h6 : z < 6) : bits BinOp.or IntKind.i64 (m : Int) (IntKind.i64.wrap (2 ^ z)) = ((m ||| 1 <<< z : Nat) : Int) := setw_fin ⟨m, hm⟩ ⟨z, h6⟩
theorem Ib.set_ {w : World} {b : Nat} {v : Int} (h : Ib w b v) (u : Int) : Ib (w.setCell ⟨b, 0, none⟩ (.int .i64 u)) b u :=
  World.rowIs.congr (World.rowIs.set h 0 (.int .i64 u)) (fun j hj => by rw [if_pos (by omega)])

set_option maxRecDepth 100000 in
set_option maxHeartbeats 1000000 in
theorem domain_any (n : Nat) (hn : n ≤ 6) (T : Nat → Int) (hT : Ok n T) (w : World) :
    Calls Tryz.prog 76 #[.agg #[.int .i64 ((n : Int)), .int .i64 (T 0), .int .i64 (T 1), .int .i64 (T 2), .int .i64 (T 3), .int .i64 (T 4), .int .i64 (T 5)]] w fun e w' => e = .returned (.int .i64 (domL (mv T n) : Nat)) ∧ Below w.heap.size w w' := by
  refine (callsIn_wide (n := 3)).1 ?_
  refine callsIn_of_wp_marks Tryz.func76 rfl trivial ?_ rfl
  simp only [Tryz.ntmps76, List.size_toArray, List.length_cons, List.length_nil, Nat.reduceAdd, Nat.reduceSub, Array.replicate_succ, Array.replicate_zero, List.push_toArray, List.append_toArray, List.nil_append, List.cons_append]
  gi_wp2_with fail
  refine ⟨trivial, (moved_in Fence.wide 2 trivial rfl _ _ _).mono ?_⟩
  rintro e w2 ⟨rfl, rfl⟩
  gi_wp2
  have bR := (Ib.new (w.alloc (.cells #[.int .i64 ((n : Int)), .int .i64 (T 0), .int .i64 (T 1), .int .i64 (T 2), .int .i64 (T 3), .int .i64 (T 4), .int .i64 (T 5)] 58)) 0).alloc (.cells #[.int .i64 ((n : Int)), .int .i64 (T 0), .int .i64 (T 1), .int .i64 (T 2), .int .i64 (T 3), .int .i64 (T 4), .int .i64 (T 5)] 58)
  have hM := Cb.new ((w.alloc (.cells #[.int .i64 ((n : Int)), .int .i64 (T 0), .int .i64 (T 1), .int .i64 (T 2), .int .i64 (T 3), .int .i64 (T 4), .int .i64 (T 5)] 58)).alloc (.cells #[.int .i64 0] 3)) n T
  simp only [World.size_alloc] at bR hM
  have hB0 : Below w.heap.size w (((w.alloc (.cells #[.int .i64 ((n : Int)), .int .i64 (T 0), .int .i64 (T 1), .int .i64 (T 2), .int .i64 (T 3), .int .i64 (T 4), .int .i64 (T 5)] 58)).alloc (.cells #[.int .i64 0] 3)).alloc (.cells #[.int .i64 ((n : Int)), .int .i64 (T 0), .int .i64 (T 1), .int .i64 (T 2), .int .i64 (T 3), .int .i64 (T 4), .int .i64 (T 5)] 58)) := (((Below.refl _ w).alloc (Nat.le_refl _) _).alloc (by simp) _).alloc (by simp <;> omega) _
  refine wpIn_rangeFunc_ownG rfl (by omega) (gf := 122) (lb := #[.pointer (some ⟨w.heap.size + 1 + 1, 0, none⟩)]) rfl trivial (enters_of Tryz.func122 (by kernel_rfl) rfl)
    (moved_stops Fence.wide 2 trivial rfl (by omega) (w.heap.size + 1 + 1) n hn T hT _ hM) Kb_t (Kb_b (by simp)) (Below.refl _ _) (fun _ => rfl)
    (fun pre W => Ib W (w.heap.size + 1) (domL pre : Nat) ∧ Below w.heap.size w W)
    (fun _ _ _ => False)
    (OwnFrom.and (Own.from (fun s A B row hs hg hr => ib_own _ (fun pre => ((domL pre : Nat) : Int)) s A B row hs hg hr) _) (ownFrom_below (Nat.le_refl _) (by simp <;> omega)))
    (fun _ _ _ _ _ hs _ _ => hs)
    ⟨bR, hB0⟩
    (fun x => { tmps := #[.agg #[.int .i64 ((n : Int)), .int .i64 (T 0), .int .i64 (T 1), .int .i64 (T 2), .int .i64 (T 3), .int .i64 (T 4), .int .i64 (T 5)], .pointer (some ⟨w.heap.size, 0, none⟩), .int .i64 0, .pointer (some ⟨w.heap.size + 1, 0, none⟩), .int .i64 (x.1.1 : Int), .agg #[.int .i64 ((n : Int)), .int .i64 (T 0), .int .i64 (T 1), .int .i64 (T 2), .int .i64 (T 3), .int .i64 (T 4), .int .i64 (T 5)], .func (.func 122) #[] #[.pointer (some ⟨w.heap.size + 1 + 1, 0, none⟩)], .int .i64 (x.1.1 : Int), .int .i64 x.1.2, undef, undef, undef, undef, undef], defers := [] }) ?assign ?body ?done ?stop
  case assign =>
    intro l x W K hK
    gi_wp2
    exact hK
  case body =>
    rintro l pre ⟨⟨i, t⟩, hi, ht0, ht6⟩ W ⟨hR, hB⟩ _
    have hi' : i < 6 := hi
    have e1 := hR.cell
    have e2 := hR.frozen
    have hmx : Tryz.prog.follows .mixedOrders = true := by kernel_rfl
    have HS := Lib.hid (setw_is (domL_lt pre) hi')
    have hR' := hR.set_ (domL pre ||| 1 <<< i : Nat)
    have hB' := hB.setCell (p := ⟨w.heap.size + 1, 0, none⟩) (by simp <;> omega) (.int .i64 ((domL pre ||| 1 <<< i : Nat) : Int))
    clear hB
    gi_wp2
    gi_region_with_o (fail)
    all_goals gi_wp2
    all_goals rw [HS.out]
    all_goals exact ⟨((KeepsOthers.setCell _ _ _).trans (KeepsOthers.drew _)).from _, Below.heap_setCell _ _ _ _ (by simp), by rw [domL_snoc]; exact hR', hB'.drew⟩
  case done =>
    rintro D ys W hD rfl ⟨hR, hB⟩ hK
    have e1 := hR.cell
    gi_wp2
    refine ⟨by simp, .inl ⟨_, _, rfl, run_takeDeferred hK, ?_⟩⟩
    exact ⟨_, results_tmp rfl _ _ _, rfl, hB.trans (belowK_b (w := w) (Nat.le_refl _) W D _ _ (by simp at hD; omega) hK rfl rfl)⟩
  case stop =>
    rintro D c pre W _ _ h _
    exact h.elim
end

/-! (impl.chart).list, impl.identity, impl.isSet. -/
section
open Go.RowKit

theorem own_heap {w : World} {base g n : Nat} {e : TypeId} {xs : List Value} (h : w.ownsRow base e 1 (.slice (some ⟨g, 0, none⟩) n n) n xs) : w.heap[g]? = some (.cells xs.toArray e (0, 0)) ∧ base ≤ g := by
  rcases h.2 with ⟨h', _⟩ | ⟨g', cap, cur, h', hb, hg, hnc, hcm, hcs, htake⟩
  · cases h'
  · simp only [Value.slice.injEq, Option.some.injEq, Addr.mk.injEq, and_true, true_and] at h'
    obtain ⟨rfl, rfl⟩ := h'
    refine ⟨?_, hb⟩
    rw [hg, ← htake, List.take_of_length_le (by simp; omega)]
theorem own_of_heap {w : World} {base g n : Nat} {e : TypeId} {xs : List Value} (hg : w.heap[g]? = some (.cells xs.toArray e (0, 0))) (hn : xs.length = n) (hb : base ≤ g) (hm : n ≤ maxLen) :
    w.ownsRow base e 1 (.slice (some ⟨g, 0, none⟩) n n) n xs :=
  ⟨by omega, .inr ⟨g, n, xs.toArray, rfl, hb, hg, Nat.le_refl _, hm, by simpa using hn, List.take_of_length_le (by simp; omega)⟩⟩

theorem list_src {W : World} {b g n : Nat} {T : Nat → Int} (hn : n ≤ 6) (h : Cb W b n T) : 0 < (ivs (LT n T)).length → some (⟨g, 0, none⟩ : Addr) = some ⟨g, 0, none⟩ ∧ ∃ ad : Addr, some (⟨b, 1, none⟩ : Addr) = some ad ∧ ∀ j v, (ivs (LT n T))[j]? = some v → W.cell? (ad.add j) = some v := by
  intro _
  refine ⟨rfl, _, rfl, fun j v hv => ?_⟩
  have hj : j < n := by
    rcases Nat.lt_or_ge j n with h | h
    · exact h
    · rw [List.getElem?_eq_none (by simpa [ivs, LT] using h)] at hv; cases hv
  have ea : (⟨b, 1, none⟩ : Addr).add j = ⟨b, 1 + j, none⟩ := by unfold Addr.add; split <;> simp_all
  rw [ea, h.at_ (by omega), ← hv]
  simp [ivs, LT, hj]

set_option maxHeartbeats 400000 in
theorem list_any (n : Nat) (hn : n ≤ 6) (T : Nat → Int) (w : World) :
    Calls Tryz.prog 51 #[.agg #[.int .i64 ((n : Int)), .int .i64 (T 0), .int .i64 (T 1), .int .i64 (T 2), .int .i64 (T 3), .int .i64 (T 4), .int .i64 (T 5)]] w fun e w' => ∃ B : Addr, e = .returned (.slice (some B) n n) ∧ w'.ownsRow w.heap.size 3 1 (.slice (some B) n n) n (ivs (LT n T)) ∧ Below w.heap.size w w' := by
  obtain ⟨i0, hi, hz0, hz1, hz2⟩ := info_parts info_int
  have hb8 : i0.bytes * n ≤ 281474976710656 := by rw [hz2]; omega
  have hmx : n ≤ maxLen := by unfold maxLen; omega
  have hsz : (Tryz.prog.info? 3).map (·.size) = some 1 := by rw [hi]; simp [hz1]
  have hC := Cb.new w n T
  have hcn := hC.head
  go_enter Tryz.func51, Tryz.ntmps51
  have hcl : (LT n T).map (Value.int .i64) = ivs (LT n T) := rfl
  have hlen : (ivs (LT n T)).length = n := by simp [ivs, LT]
  have hone : ∀ v ∈ ivs (LT n T), v.oneCell' = true := by intro v hv; simp [ivs] at hv; obtain ⟨z, _, rfl⟩ := hv; rfl
  have hmk0 : (madeCells (Value.int IntKind.i64 0).cells (n * 1)).toList.length = n := by simp [madeCells]
  have HM := Lib.hid hmk0
  have HL := Lib.hid hlen
  have HO := Lib.hid hone
  have HN : Hid ((ivs (LT n T)).length = Nat.min 6 n) := by show _ = _; rw [hlen]; exact (Nat.min_eq_right hn).symm
  have HF : Hid (0 + (ivs (LT n T)).length ≤ (madeCells (Value.int IntKind.i64 0).cells (n * 1)).toList.length) := by show _ ≤ _; rw [hlen, hmk0]; omega
  clear hcl hlen hmk0 hone
  go_wp2_with (first
    | (at_make
       refine wpList_make_full _ rfl _ _ _ rfl w.heap.size 3 i0 _ 1 Tryz.underlying24 hi hz0 hz1 _ _ _ _ n rfl rfl rfl rfl hb8 hmx (by simp) ?_
       intro w1 hown hg
       have hh := own_heap hown
       have hC1 : Cb w1 w.heap.size n T := World.rowIs.of_block hC (hg.block w.heap.size (by simp) (by simp))
       have hB1 : Below w.heap.size w w1 := ((Below.refl _ w).alloc (Nat.le_refl _) _).grown hg (by simp) (by simp)
       simp only [World.size_alloc] at hh
       have HP := Lib.hid (list_src (W := w1) (b := w.heap.size) (g := w.heap.size + 1) hn hC1)
       clear hown hg)
    | (with_reducible refine wpList_copy_splice rfl (.tmp 7) (.tmp 9) _ _ rfl 3 Tryz.underlying24 hsz _ _ n n 6 6 rfl rfl (w.heap.size + 1) 0 _ 3 hh.1 (ivs (LT n T)) HN.out HP.out HF.out HO.out w.heap.size w hB1 hh.2 ?_
       intro w2 HG2 hB2))
  go_ret
  refine ⟨⟨w.heap.size + 1, 0, none⟩, rfl, ?_, hB2⟩
  have hg2 := HG2.out
  have e : splice (madeCells (Value.int IntKind.i64 0).cells (n * 1)).toList 0 (ivs (LT n T)) = ivs (LT n T) := by
    unfold splice
    rw [List.take_zero, List.nil_append, List.drop_eq_nil_of_le (by rw [HM.out, HL.out]; omega), List.append_nil]
  rw [e] at hg2
  exact own_of_heap hg2 HL.out (by omega) hmx
end

end Go.Proofs.YtkfiehndlgplgaaGreatDoor
