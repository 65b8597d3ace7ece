/-
  ByL.
-/
import Derived.Shelf.SlSortCmp.WholeK
import Derived.Test.YtkfiehndlgplgaaGreatDoorMV
import Derived.Test.YtkfiehndlgplgaaGreatDoorNB
import Derived.Test.YtkfiehndlgplgaaGreatDoorVA
namespace Go.Proofs.YtkfiehndlgplgaaGreatDoor
set_option maxRecDepth 100000
set_option linter.unusedVariables false
set_option linter.unusedSimpArgs false
set_option linter.unusedSectionVars false

/-! cmp.Compare, slices.Compare at numbers; impl.byList: charts compared by their lists, as the sort asks it. -/
section
open Go.RowKit

theorem ext_get {L M : List Int} {n : Nat} (hl : L.length = n) (hm : M.length = n) (h : L.take n = M.take n) : L = M := eq_of_take hl hm h
/-- as the sort's comparison tells it -/
def cmpL (L M : List Int) : Int := if lexB L M then -1 else if lexB M L then 1 else 0
theorem cmpL_same (L : List Int) : cmpL L L = 0 := by unfold cmpL; rw [lexB_irrefl]; simp
theorem cmpL_lt {L M : List Int} (h : lexB L M = true) : cmpL L M = -1 := by unfold cmpL; rw [h]; rfl
theorem cmpL_gt {L M : List Int} (h : lexB M L = true) : cmpL L M = 1 := by unfold cmpL; rw [h, lexB_asymm h]; rfl

theorem cmpInt_lt (x y : Int) (h : x < y) (w : World) : Calls Tryz.prog 149 #[.int .i64 x, .int .i64 y] w fun e w' => e = .returned (.int .i64 (-1)) ∧ w' = w := by
  have h1 : decide (x < y) = true := decide_eq_true h
  go_enter Tryz.func149, Tryz.ntmps149
  go_wp2
  go_ret
  exact ⟨rfl, rfl⟩
theorem cmpInt_gt (x y : Int) (h : y < x) (w : World) : Calls Tryz.prog 149 #[.int .i64 x, .int .i64 y] w fun e w' => e = .returned (.int .i64 1) ∧ w' = w := by
  have h1 : decide (x < y) = false := decide_eq_false (by omega)
  have h2 : decide (y < x) = true := decide_eq_true h
  go_enter Tryz.func149, Tryz.ntmps149
  go_wp2
  go_ret
  exact ⟨rfl, rfl⟩
theorem cmpInt_eq (x : Int) (w : World) : Calls Tryz.prog 149 #[.int .i64 x, .int .i64 x] w fun e w' => e = .returned (.int .i64 0) ∧ w' = w := by
  go_enter Tryz.func149, Tryz.ntmps149
  go_wp2
  go_ret
  exact ⟨rfl, rfl⟩

set_option maxHeartbeats 400000 in
theorem compare_any (A B : Option Addr) (n c d : Nat) (zs ys : List Int) (w : World) (h : RI w A n zs) (h' : RI w B n ys) (hn : n ≤ 1048576) :
    Calls Tryz.prog 140 #[.slice A n c, .slice B n d] w fun e w' => e = .returned (.int .i64 (cmpL zs ys)) ∧ w' = w := by
  have HL := Lib.hid h.len
  have HL' := Lib.hid h'.len
  go_enter Tryz.func140, Tryz.ntmps140
  go_wp2
  go_loopw [5, 6, 7, 8, 11] (fun _ _ _ _ i wr => ∃ k : Nat, k ≤ n ∧ i = .int .i64 k ∧ Hid (zs.take k = ys.take k) ∧ wr = w) (fun _ _ _ _ i _ => n - (intOf i).toNat)
  case atStart => exact ⟨0, Nat.zero_le _, rfl, Lib.hid rfl, rfl⟩
  case round =>
    obtain ⟨k, hk, rfl, HT, rfl⟩ := hrel
    by_cases hlt : k < n
    · obtain ⟨ad, rfl, hab, hc⟩ := h.at_ hlt
      obtain ⟨ad', rfl, hab', hc'⟩ := h'.at_ hlt
      clear h h' hab hab'
      rcases Int.lt_trichotomy (zs[k]?.getD 0) (ys[k]?.getD 0) with he | he | he
      · have HA := Lib.hid (lexB_at HT.out (by have := HL.out; omega) (by have := HL'.out; omega) (by omega))
        have HC : Hid (cmpL zs ys = -1) := cmpL_lt (by rw [HA.out]; exact decide_eq_true he)
        clear HA
        generalize zs[k]?.getD 0 = x at *
        generalize ys[k]?.getD 0 = y at *
        go_wp2_with fail
        refine (cmpInt_lt x y he _).mono ?_
        rintro e w' ⟨rfl, rfl⟩
        go_wp2
        go_ret
        exact ⟨by rw [HC.out]; rfl, rfl⟩
      · have HTK : Hid (zs.take (k + 1) = ys.take (k + 1)) := by
          show zs.take (k + 1) = ys.take (k + 1)
          rw [take_snoc_get zs (by have := HL.out; omega), take_snoc_get ys (by have := HL'.out; omega), HT.out, he]
        generalize zs[k]?.getD 0 = x at *
        generalize ys[k]?.getD 0 = y at *
        subst he
        go_wp2_with fail
        refine (cmpInt_eq x _).mono ?_
        rintro e w' ⟨rfl, rfl⟩
        go_wp2
        go_roundw
        case rel => exact ⟨k + 1, by omega, by go_num, HTK, by trivial⟩
        case measure => simp [intOf]; omega
      · have HA := Lib.hid (lexB_at HT.out.symm (by have := HL'.out; omega) (by have := HL.out; omega) (by omega))
        have HC : Hid (cmpL zs ys = 1) := cmpL_gt (by rw [HA.out]; exact decide_eq_true he)
        clear HA
        generalize zs[k]?.getD 0 = x at *
        generalize ys[k]?.getD 0 = y at *
        go_wp2_with fail
        refine (cmpInt_gt x y he _).mono ?_
        rintro e w' ⟨rfl, rfl⟩
        go_wp2
        go_ret
        exact ⟨by rw [HC.out]; rfl, rfl⟩
    · obtain rfl : k = n := by omega
      have HE : Hid (cmpL zs ys = 0) := by show _ = _; rw [eq_of_take HL.out HL'.out HT.out]; exact cmpL_same _
      go_wp2
      go_ret
      exact ⟨by rw [HE.out]; rfl, rfl⟩

theorem c7_to (n : Nat) (T : Nat → Int) : (c7 n T).toArray = #[.int .i64 ((n : Int)), .int .i64 (T 0), .int .i64 (T 1), .int .i64 (T 2), .int .i64 (T 3), .int .i64 (T 4), .int .i64 (T 5)] := rfl
theorem ri_six (W : World) (B : Nat) (n : Int) (T : Nat → Int) (hC : Cb W B n T) : RI W (some ⟨B, 1, none⟩) 6 (six T) := by
  obtain ⟨a0, a1, a2, a3, a4, a5, a6⟩ := hC.all
  refine ⟨rfl, rfl, fun _ => ⟨⟨B, 1, none⟩, rfl, hC.lt, fun j u hu => ?_⟩⟩
  have hadd : (⟨B, 1, none⟩ : Addr).add j = ⟨B, 1 + j, none⟩ := by unfold Addr.add; split <;> simp_all
  rw [hadd]
  match j, hu with
  | 0, h => simp [six, ivs] at h; subst h; exact a1
  | 1, h => simp [six, ivs] at h; subst h; exact a2
  | 2, h => simp [six, ivs] at h; subst h; exact a3
  | 3, h => simp [six, ivs] at h; subst h; exact a4
  | 4, h => simp [six, ivs] at h; subst h; exact a5
  | 5, h => simp [six, ivs] at h; subst h; exact a6
  | j + 6, h => simp [six, ivs] at h
set_option maxHeartbeats 1000000 in
theorem byList_any (m : Nat) (x y : List Int) (w : World) :
    Calls Tryz.prog 127 #[.agg #[.int .i64 ((m : Int)), .int .i64 (ofL x 0), .int .i64 (ofL x 1), .int .i64 (ofL x 2), .int .i64 (ofL x 3), .int .i64 (ofL x 4), .int .i64 (ofL x 5)], .agg #[.int .i64 ((m : Int)), .int .i64 (ofL y 0), .int .i64 (ofL y 1), .int .i64 (ofL y 2), .int .i64 (ofL y 3), .int .i64 (ofL y 4), .int .i64 (ofL y 5)]] w fun e w' => e = .returned (.int .i64 (cf6 x y)) ∧ ∃ q, w' = (((w.alloc (.cells #[.int .i64 ((m : Int)), .int .i64 (ofL x 0), .int .i64 (ofL x 1), .int .i64 (ofL x 2), .int .i64 (ofL x 3), .int .i64 (ofL x 4), .int .i64 (ofL x 5)] 58)).alloc (.cells #[.int .i64 ((m : Int)), .int .i64 (ofL y 0), .int .i64 (ofL y 1), .int .i64 (ofL y 2), .int .i64 (ofL y 3), .int .i64 (ofL y 4), .int .i64 (ofL y 5)] 58)).drewN q) := by
  have hX := (Cb.new w (m : Int) (ofL x)).alloc (.cells #[.int .i64 ((m : Int)), .int .i64 (ofL y 0), .int .i64 (ofL y 1), .int .i64 (ofL y 2), .int .i64 (ofL y 3), .int .i64 (ofL y 4), .int .i64 (ofL y 5)] 58)
  have hY := Cb.new (w.alloc (.cells #[.int .i64 ((m : Int)), .int .i64 (ofL x 0), .int .i64 (ofL x 1), .int .i64 (ofL x 2), .int .i64 (ofL x 3), .int .i64 (ofL x 4), .int .i64 (ofL x 5)] 58)) (m : Int) (ofL y)
  rw [World.size_alloc] at hY
  have HC0 : Hid (∀ j, Calls Tryz.prog 140 #[.slice (some ⟨w.heap.size, 1, none⟩) 6 6, .slice (some ⟨w.heap.size + 1, 1, none⟩) 6 6] (((w.alloc (.cells #[.int .i64 ((m : Int)), .int .i64 (ofL x 0), .int .i64 (ofL x 1), .int .i64 (ofL x 2), .int .i64 (ofL x 3), .int .i64 (ofL x 4), .int .i64 (ofL x 5)] 58)).alloc (.cells #[.int .i64 ((m : Int)), .int .i64 (ofL y 0), .int .i64 (ofL y 1), .int .i64 (ofL y 2), .int .i64 (ofL y 3), .int .i64 (ofL y 4), .int .i64 (ofL y 5)] 58)).drewN j) fun e w' => e = .returned (.int .i64 (cf6 x y)) ∧ ∃ q, w' = (((w.alloc (.cells #[.int .i64 ((m : Int)), .int .i64 (ofL x 0), .int .i64 (ofL x 1), .int .i64 (ofL x 2), .int .i64 (ofL x 3), .int .i64 (ofL x 4), .int .i64 (ofL x 5)] 58)).alloc (.cells #[.int .i64 ((m : Int)), .int .i64 (ofL y 0), .int .i64 (ofL y 1), .int .i64 (ofL y 2), .int .i64 (ofL y 3), .int .i64 (ofL y 4), .int .i64 (ofL y 5)] 58)).drewN q)) := fun j =>
    (compare_any _ _ 6 6 6 (six (ofL x)) (six (ofL y)) _ ((ri_six _ _ _ _ hX).drawn j) ((ri_six _ _ _ _ hY).drawn j) (by omega)).mono fun e w' h => ⟨h.1, j, h.2⟩
  clear hX hY
  generalize cf6 x y = z at *
  go_enter Tryz.func127, Tryz.ntmps127
  go_wp2
  go_quiet (exact HC0.out _)
  all_goals go_wp2
  all_goals go_ret
  all_goals exact ⟨rfl, _, rfl⟩
/-- as the sort asks it of what compares -/
def encL (m : Nat) (L : List Int) : List Value := c7 m (ofL L)
theorem byList_lays (m blk off size : Nat) (w : World) : CmpLays Tryz.prog 127 #[] (encL m) 7 cf6 blk off size w := fun k os dk _ x y =>
  (byList_any m x y _).mono fun e w' ⟨he, q, hw⟩ => ⟨he, q, #[.cells #[.int .i64 ((m : Int)), .int .i64 (ofL x 0), .int .i64 (ofL x 1), .int .i64 (ofL x 2), .int .i64 (ofL x 3), .int .i64 (ofL x 4), .int .i64 (ofL x 5)] 58 (0, 0), .cells #[.int .i64 ((m : Int)), .int .i64 (ofL y 0), .int .i64 (ofL y 1), .int .i64 (ofL y 2), .int .i64 (ofL y 3), .int .i64 (ofL y 4), .int .i64 (ofL y 5)] 58 (0, 0)], by
    rw [hw, Go.Sort.alloc_eq_grow, Go.Sort.alloc_eq_grow, Go.Sort.grow_grow]; rfl⟩
end

end Go.Proofs.YtkfiehndlgplgaaGreatDoor
