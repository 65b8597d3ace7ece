/-
  Sm.
-/
import Derived.Lib.ConvBytes
import Derived.Laws.IdiomStrings
import Derived.Deep.RegionLaw
import Derived.Deep.RegionHeld3
import Derived.Test.YtlcjgppclclkoaaDoorTU
namespace Go.Proofs.YtlcjgppclclkoaaDoor
set_option maxRecDepth 100000
set_option linter.unusedVariables false
set_option linter.unusedSimpArgs false
set_option linter.unusedSectionVars false

/-! The laws' marks in slices of strings: laid, asked. -/
section
open Go.RowKit

theorem kcut0 {α : Type} {Q : Prop} (P : α → Prop) {F : α} (h1 : P F → Q) (h2 : P F) : Q := h1 h2
theorem own_below0 {w w' : World} {base size n : Nat} {e : TypeId} {v : Value} {xs : List Value} (h : w.ownsRow base e size v n xs) (hb : Below w.heap.size w w') : w'.ownsRow base e size v n xs :=
  h.kept (row := none) ⟨hb.os, hb.tape, hb.output, hb.size, fun k hk _ => hb.block k hk⟩ (by cases v.ownBlock <;> simp)
/-- the digits of a number, ahead of a text -/
def mtD : Nat → Nat → ByteArray → ByteArray
  | 0, _, out => out
  | f + 1, k, out => if k = 0 then out else mtD f (k / 10) (⟨#[UInt8.ofNat (48 + k % 10)]⟩ ++ out)
theorem mtD_fuel : ∀ (f f' k : Nat) (out : ByteArray), k ≤ f → k ≤ f' → mtD f k out = mtD f' k out
  | 0, 0, _, _, _, _ => rfl
  | 0, f' + 1, k, out, h, _ => by
    obtain rfl : k = 0 := by omega
    simp [mtD]
  | f + 1, 0, k, out, _, h => by
    obtain rfl : k = 0 := by omega
    simp [mtD]
  | f + 1, f' + 1, k, out, h, h' => by
    unfold mtD
    by_cases hk : k = 0
    · rw [if_pos hk, if_pos hk]
    · rw [if_neg hk, if_neg hk]
      exact mtD_fuel f f' _ _ (by omega) (by omega)
theorem mtD_step {k : Nat} (hk : 0 < k) (out : ByteArray) : mtD (k / 10) (k / 10) (⟨#[UInt8.ofNat (48 + k % 10)]⟩ ++ out) = mtD k k out := by
  obtain ⟨j, rfl⟩ : ∃ j, k = j + 1 := ⟨k - 1, by omega⟩
  conv => rhs; unfold mtD
  rw [if_neg (by omega)]
  exact mtD_fuel _ _ _ _ (Nat.le_refl _) (by omega)
/-- a mark's text -/
def mtB (k : Nat) : ByteArray := ⟨#[109]⟩ ++ mtD k k ⟨#[]⟩

set_option maxHeartbeats 1000000 in
theorem markText_any (k : Nat) (hk0 : 0 < k) (hk : k ≤ 9437184) (w : World) : Calls Tryd.prog 74 #[.int .i64 (k : Int)] w fun e w' => e = .returned (.string (mtB k)) ∧ Below w.heap.size w w' := by
  have hki : ¬ ((k : Int) ≤ 0) := by omega
  have HM : Hid (mtB k = ⟨#[109]⟩ ++ mtD k k ⟨#[]⟩) := rfl
  go_enter Tryd.func74, Tryd.ntmps74
  go_wp2
  go_loopw [0, 3] (fun q o wr => ∃ (j : Nat) (out : ByteArray), j ≤ k ∧ q = .int .i64 (j : Int) ∧ o = .string out ∧ out.size + j ≤ k ∧ Hid (mtD j j out = mtD k k ⟨#[]⟩) ∧ Below w.heap.size w wr) (fun q _ _ => (intOf q).toNat)
  case atStart => exact ⟨k, ⟨#[]⟩, Nat.le_refl _, rfl, rfl, by simp [ByteArray.size], Lib.hid rfl, Below.refl _ _⟩
  case round =>
    obtain ⟨j, out, hj, rfl, rfl, hsz, HX, hB⟩ := hrel
    by_cases hlt : 0 < j
    · have hji : (0 : Int) < (j : Int) := by omega
      have HST := Lib.hid (mtD_step hlt out)
      have hdg : ((UInt8.ofNat (48 + j % 10)).toNat : Int) = 48 + (j : Int) % 10 := by
        have : (UInt8.ofNat (48 + j % 10)).toNat = 48 + j % 10 := by
          rw [UInt8.toNat_ofNat']
          omega
        rw [this]; omega
      have hcv := run_convert_bytes_back (P := Tryd.prog) (wr.alloc (.cells #[.int .u8 (48 + (j : Int) % 10)] 5)) 22 9 5 ⟨wr.heap.size, 0, none⟩ 1 [UInt8.ofNat (48 + j % 10)] Tryd.underlying22 Tryd.underlying5 Tryd.underlying9 (fun i hi => by
        simp at hi; subst hi
        refine (cell_one_new wr _ _ 0 _ rfl).trans ?_
        rw [← hdg]; rfl)
      have hq : (⟨#[UInt8.ofNat (48 + j % 10)]⟩ ++ out : ByteArray).size = out.size + 1 := by
        rw [ByteArray.size_append]
        have : (⟨#[UInt8.ofNat (48 + j % 10)]⟩ : ByteArray).size = 1 := rfl
        omega
      have hB2 : Below w.heap.size w (wr.alloc (.cells #[.int .u8 (48 + (j : Int) % 10)] 5)) := hB.alloc hB.size _
      have HX2 : Hid (mtD (j / 10) (j / 10) (⟨#[UInt8.ofNat (48 + j % 10)]⟩ ++ out) = mtD k k ⟨#[]⟩) := HST.out.trans HX.out
      have HQ := Lib.hid hq
      have hs1 : (⟨#[UInt8.ofNat (48 + j % 10)]⟩ : ByteArray).size = 1 := rfl
      have hcv' : (convert 22 9 (.slice (some ⟨wr.heap.size, 0, none⟩) 1 1)).run Tryd.prog (wr.alloc (.cells #[.int .u8 (48 + (j : Int) % 10)] 5)) = .ok (.string ⟨#[UInt8.ofNat (48 + j % 10)]⟩) (wr.alloc (.cells #[.int .u8 (48 + (j : Int) % 10)] 5)) := hcv
      clear hcv hq hdg HST HX hB
      generalize (⟨#[UInt8.ofNat (48 + j % 10)]⟩ : ByteArray) = dg at *
      go_wp2
      go_roundw
      case rel => exact ⟨j / 10, dg ++ out, by omega, by go_num, rfl, by have := HQ.out; omega, HX2, hB2⟩
      case measure => simp [intOf]; omega
    · obtain rfl : j = 0 := by omega
      have HO : Hid (out = mtD k k ⟨#[]⟩) := HX.out
      have hs1 : (⟨#[109]⟩ : ByteArray).size = 1 := rfl
      generalize hd : (⟨#[109]⟩ : ByteArray) = dm at *
      have HD := Lib.hid hd
      clear hd HX
      go_wp2
      go_ret
      exact ⟨by rw [HM.out, ← HO.out]; rfl, hB⟩

/-- the marks k, k + 1, .. -/
def mkS (k n : Nat) : List ByteArray := (List.range n).map (fun j => mtB (k + j))
theorem mkS_length (k n : Nat) : (mkS k n).length = n := by simp [mkS]
theorem mkS_get {k n j : Nat} (h : j < n) : (mkS k n)[j]? = some (mtB (k + j)) := by simp [mkS, List.getElem?_range h]
theorem mkS_step (ss : List ByteArray) {k n t : Nat} (ht : t < n) (hn : ss.length = n) : (svL ((mkS k n).take t ++ ss.drop t)).set t (.string (mtB (k + t))) = svL ((mkS k n).take (t + 1) ++ ss.drop (t + 1)) := by
  unfold svL
  rw [← List.map_set]
  congr 1
  have hl : ((mkS k n).take t).length = t := by simp [mkS_length]; omega
  rw [List.set_append_right _ _ (by omega), hl, Nat.sub_self, List.drop_eq_getElem_cons (by omega : t < ss.length), List.set_cons_zero, List.take_add_one, mkS_get ht]
  simp
set_option maxHeartbeats 1000000 in
theorem markS_any (base : Nat) (A : Option Addr) (n c k : Nat) (ss : List ByteArray) (w : World) (h : w.ownsRow base 9 1 (.slice A n c) n (svL ss)) (hk0 : 0 < k) (hk : k ≤ 4194304) (hn : n ≤ 1048576) :
    Calls Tryd.prog 50 #[.slice A n c, .int .i64 k] w fun e w' => e = .returned (.int .i64 ((k + n : Nat) : Int)) ∧ w'.ownsRow base 9 1 (.slice A n c) n (svL (mkS k n)) ∧ w.grownBy w' (Value.slice A n c).ownBlock := by
  have hzl : ss.length = n := by have := h.1; simpa [svL] using this
  by_cases hn0 : n = 0
  · subst hn0
    have hz : ss = [] := List.eq_nil_of_length_eq_zero hzl
    subst hz
    go_enter Tryd.func50, Tryd.ntmps50
    go_wp2
    refine wp_loop_rounds 1 ?_; rw [rounds_succ]
    go_wp2
    go_ret
    exact ⟨rfl, h, World.grownBy.refl w _⟩
  obtain ⟨g, cp, he, hgb, hgl⟩ := h.form (by omega)
  injection he with he1 he2 he3
  subst he1 he3
  have hs : w.ownsRow base 9 1 (.slice (some ⟨g, 0, none⟩) n c) n (svL ((mkS k n).take 0 ++ ss.drop 0)) := by simpa using h
  have HA : Hid ((mkS k n).take n ++ ss.drop n = mkS k n) := by
    show _ = _
    rw [List.take_of_length_le (by rw [mkS_length]; exact Nat.le_refl _), List.drop_of_length_le (by omega), List.append_nil]
  have HS := Lib.hid (fun t (ht : t < n) => mkS_step ss (k := k) ht hzl)
  have HMT := Lib.hid (fun (t : Nat) (h1 : 0 < t) (h2 : t ≤ 9437184) (W : World) => markText_any t h1 h2 W)
  have HZ := Lib.hid hzl
  clear hzl
  go_enter Tryd.func50, Tryd.ntmps50
  go_wp2
  go_loopw [1, 5] (fun q i wr => ∃ t : Nat, t ≤ n ∧ i = .int .i64 t ∧ q = .int .i64 ((k + t : Nat) : Int) ∧ wr.ownsRow base 9 1 (.slice (some ⟨g, 0, none⟩) n c) n (svL ((mkS k n).take t ++ ss.drop t)) ∧ w.grownBy wr (some g)) (fun _ i _ => n - (intOf i).toNat)
  case atStart => exact ⟨0, Nat.zero_le _, rfl, rfl, hs, World.grownBy.refl w _⟩
  case round =>
    clear h hs
    obtain ⟨t, ht, rfl, rfl, hown, hg⟩ := hrel
    by_cases hlt : t < n
    · have HC := Lib.hid (HMT.out (k + t) (by omega) (by omega) wr)
      generalize hq : k + t = q at *
      have HQ := Lib.hid hq
      have hqb : q ≤ 9437184 := by omega
      clear hq
      go_wp2_with fail
      refine HC.out.mono ?_
      rintro e w1 ⟨rfl, hb⟩
      have hown1 := own_below0 hown hb
      have hg1 : w.grownBy w1 (some g) := hg.trans ⟨hb.os, hb.tape, hb.output, hb.size, fun k hk _ => hb.block k hk⟩
      have ho := hown1.cellAt t (by omega)
      have hf := hown1.frozenAt t
      obtain ⟨u, hu⟩ : ∃ u, (svL ((mkS k n).take t ++ ss.drop t))[t]? = some u := ⟨_, List.getElem?_eq_getElem (by simp [svL, mkS_length]; have := HZ.out; omega)⟩
      rw [hu] at ho
      have hst := hown1.stored t (.string (mtB q))
      rw [← HQ.out, HS.out t hlt, HQ.out] at hst
      have HST := Lib.hid hst.1
      have hg' := hg1.trans hst.2
      clear hst hu hown hown1 hg hg1 hb HC
      generalize mtB q = mq at *
      go_wp2
      go_roundw
      case rel => exact ⟨t + 1, by omega, by go_num, by have := HQ.out; go_num, HST.out, hg'⟩
      case measure => simp [intOf]; omega
    · obtain rfl : t = n := by omega
      rw [HA.out] at hown
      go_wp2
      go_ret
      exact ⟨rfl, hown, hg⟩
set_option maxHeartbeats 1000000 in
theorem heldS_any (A : Option Addr) (n c k : Nat) (w : World) (h : RS w A n (mkS k n)) (hk0 : 0 < k) (hk : k ≤ 4194304) (hn : n ≤ 1048576) :
    Calls Tryd.prog 51 #[.slice A n c, .int .i64 k] w fun e w' => e = .returned (.int .i64 ((k + n : Nat) : Int)) ∧ Below w.heap.size w w' := by
  have HMT := Lib.hid (fun (t : Nat) (h1 : 0 < t) (h2 : t ≤ 9437184) (W : World) => markText_any t h1 h2 W)
  go_enter Tryd.func51, Tryd.ntmps51
  go_wp2
  go_loopw [1, 5] (fun q i wr => ∃ t : Nat, t ≤ n ∧ i = .int .i64 t ∧ q = .int .i64 ((k + t : Nat) : Int) ∧ Below w.heap.size w wr) (fun _ i _ => n - (intOf i).toNat)
  case atStart => exact ⟨0, Nat.zero_le _, rfl, rfl, Below.refl _ _⟩
  case round =>
    obtain ⟨t, ht, rfl, rfl, hB⟩ := hrel
    by_cases hlt : t < n
    · obtain ⟨ad, s, rfl, hab, hs, hcell⟩ := h.at_ hlt
      rw [mkS_get hlt] at hs
      injection hs with hs
      subst hs
      have hc1 := (hB.cell (p := ad.add t) (by rw [block_of_add]; exact hab)).trans hcell
      have hab1 : (ad.add t).block < wr.heap.size := by rw [block_of_add]; exact Nat.lt_of_lt_of_le hab hB.size
      have HC := Lib.hid (fun W => HMT.out (k + t) (by omega) (by omega) W)
      generalize hq : k + t = q at *
      have HQ := Lib.hid hq
      have hqb : q ≤ 9437184 := by omega
      have heq : ((mtB q).toList == (mtB q).toList) = true := by rw [beq_str]; simp
      clear hq hcell h HMT
      generalize mtB q = mq at *
      go_wp2_with fail
      rename_i Ko aKo
      apply kcut0 (fun F : Act => Hid (∀ w1 : World, Below wr.heap.size wr w1 → Ko F w1))
      case h1 =>
        intro HK
        go_region_law (
          (go_simp
           refine (HC.out _).mono ?_
           rintro e w1 ⟨rfl, hb⟩
           have hB1 : Below wr.heap.size wr w1 := ⟨hb.os, hb.tape, hb.output, hb.size, fun k hk => hb.block k hk⟩
           have hc2 : w1.cell? (ad.add t) = some (.string mq) := (hB1.cell hab1).trans hc1))
        all_goals exact HK.out _ hB1
      intro w1 hB1
      refine aKo _ _ ?_
      have hB2 := hB.trans (hB1.mono hB.size)
      clear aKo hB1 hc1 HC
      go_wp2
      go_roundw
      case rel => exact ⟨t + 1, by omega, by go_num, by have := HQ.out; go_num, hB2⟩
      case measure => simp [intOf]; omega
    · obtain rfl : t = n := by omega
      go_wp2
      go_ret
      exact ⟨rfl, hB⟩
set_option maxHeartbeats 1000000 in
theorem markTree_any (base : Nat) (A : Option Addr) (n c k : Nat) (ss : List ByteArray) (s : ByteArray) (w : World) (h : w.ownsRow base 9 1 (.slice A n c) n (svL ss)) (hk0 : 0 < k) (hk : k ≤ 4194304) (hn : n ≤ 1048576) :
    Calls Tryd.prog 19 #[.agg #[.slice A n c, .string s], .int .i64 (k : Int)] w fun e w' => e = .returned (.int .i64 ((k + n : Nat) : Int)) ∧ w'.ownsRow base 9 1 (.slice A n c) n (svL (mkS k n)) ∧ w.grownBy w' (Value.slice A n c).ownBlock := by
  have hg0 : w.grownBy (w.alloc (.cells #[.slice A n c, .string s] 29)) (Value.slice A n c).ownBlock := ⟨rfl, rfl, rfl, by simp, fun k hk _ => Below.heap_alloc w _ k hk⟩
  have HT := Lib.hid (markS_any base A n c k ss _ (h.alloc (.cells #[.slice A n c, .string s] 29)) hk0 hk hn)
  have HG := Lib.hid hg0
  clear hg0 h
  go_enter Tryd.func19, Tryd.ntmps19
  go_wp2_with fail
  refine HT.out.mono ?_
  rintro e w1 ⟨rfl, hown, hg⟩
  have HG2 := Lib.hid (HG.out.trans hg)
  have HO := Lib.hid hown
  clear hown hg
  go_wp2
  go_ret
  exact ⟨rfl, HO.out, HG2.out⟩
set_option maxHeartbeats 1000000 in
theorem heldTree_any (A : Option Addr) (n c k : Nat) (s : ByteArray) (w : World) (h : RS w A n (mkS k n)) (hk0 : 0 < k) (hk : k ≤ 4194304) (hn : n ≤ 1048576) :
    Calls Tryd.prog 20 #[.agg #[.slice A n c, .string s], .int .i64 (k : Int)] w fun e w' => e = .returned (.int .i64 ((k + n : Nat) : Int)) ∧ Below w.heap.size w w' := by
  have hB0 : Below w.heap.size w (w.alloc (.cells #[.slice A n c, .string s] 29)) := (Below.refl _ w).alloc (Nat.le_refl _) _
  have HT := Lib.hid (heldS_any A n c k _ (h.below hB0) hk0 hk hn)
  have HB0 := Lib.hid hB0
  have hs : w.heap.size ≤ (w.alloc (.cells #[.slice A n c, .string s] 29)).heap.size := by simp
  have HS := Lib.hid hs
  have hnn : ¬ ((k : Int) + (n : Int) < 0) := by omega
  clear hB0 h hs
  go_enter Tryd.func20, Tryd.ntmps20
  go_wp2_with fail
  refine HT.out.mono ?_
  rintro e w1 ⟨rfl, hb⟩
  have HB1 := Lib.hid (HB0.out.trans (hb.mono HS.out))
  clear hb
  go_wp2
  go_ret
  exact ⟨rfl, HB1.out⟩
end

end Go.Proofs.YtlcjgppclclkoaaDoor
