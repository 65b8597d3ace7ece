/-
  Clo.
-/
import Derived.Test.YtkfiehndlgplgaaGreatDoorMA
import Derived.Test.YtkfiehndlgplgaaGreatDoorMC
import Derived.Test.YtkfiehndlgplgaaGreatDoorNM
namespace Go.Proofs.YtkfiehndlgplgaaGreatDoor
set_option maxRecDepth 100000
set_option linter.unusedVariables false
set_option linter.unusedSimpArgs false
set_option linter.unusedSectionVars false

/-! (impl.semigroup).has, (impl.semigroup).closed. -/
section
open Go.RowKit Go.Maps

theorem turnL_out {n : Nat} {T : Nat → Int} (hT : ∀ i, i < n → T i = -1 ∨ (0 ≤ T i ∧ T i < n)) {j : Nat} (hj : n ≤ j) : ∀ k, k ≤ n → turnL n (mv T k) j = 0
  | 0, _ => by simp [mv, turnL, stillF]; omega
  | k + 1, hk => by
    by_cases hc : k < 6 ∧ 0 ≤ T k ∧ T k < 6
    · rw [mv_step hc, turnL_snoc]
      have := turnL_out hT hj k (by omega)
      have h2 := hT k (by omega)
      unfold turnS
      rw [if_neg (by simp; omega)]; exact this
    · have : mv T (k + 1) = mv T k := by simp only [mv]; rw [dif_neg hc]
      rw [this]; exact turnL_out hT hj k (by omega)
theorem timesL_out {n : Nat} {T G : Nat → Int} {j : Nat} (hj : n ≤ j) : ∀ k, k ≤ n → timesL n G (mv T k) j = 0
  | 0, _ => by simp [mv, timesL, stillF]; omega
  | k + 1, hk => by
    by_cases hc : k < 6 ∧ 0 ≤ T k ∧ T k < 6
    · rw [mv_step hc, timesL_snoc]
      have := timesL_out (T := T) (G := G) hj k (by omega)
      unfold timesS
      rw [if_neg (by simp; omega)]; exact this
    · have : mv T (k + 1) = mv T k := by simp only [mv]; rw [dif_neg hc]
      rw [this]; exact timesL_out hj k (by omega)
theorem ofL_LT6 {n : Nat} (F : Nat → Int) (h0 : ∀ j, n ≤ j → F j = 0) (j : Nat) : ofL (LT n F) j = F j := by
  by_cases hj : j < n
  · exact ofL_pt F hj
  · rw [h0 j (by omega)]; unfold ofL; rw [List.getElem?_eq_none (by rw [LT_length]; omega)]; rfl
theorem isC_Ok {L : List Int} (h : isC L = true) : Ok L.length (ofL L) := fun j hj => by
  rcases isC_ent h j hj with e | e
  · exact .inl e
  · exact .inr ⟨e.1, by have := (isC_len h).2; have := e.2; show ofL L j < 6; unfold ofL; omega⟩

theorem turned_c (m : Nat) (L : List Int) (hL : isC L = true) (hm : L.length = m) (w : World) :
    Calls Tryz.prog 50 #[.agg #[.int .i64 ((m : Int)), .int .i64 (ofL L 0), .int .i64 (ofL L 1), .int .i64 (ofL L 2), .int .i64 (ofL L 3), .int .i64 (ofL L 4), .int .i64 (ofL L 5)]] w fun e w' => e = .returned (.agg #[.int .i64 ((m : Int)), .int .i64 (ofL (tuL L) 0), .int .i64 (ofL (tuL L) 1), .int .i64 (ofL (tuL L) 2), .int .i64 (ofL (tuL L) 3), .int .i64 (ofL (tuL L) 4), .int .i64 (ofL (tuL L) 5)]) ∧ Below w.heap.size w w' := by
  subst hm
  refine (turned_any L.length (isC_len hL).2 (ofL L) (isC_Ok hL) w).mono ?_
  rintro e w' ⟨T', rfl, HT, hb⟩
  have key : ∀ j, j < 6 → T' j = ofL (tuL L) j := fun j hj => by
    rw [HT.out j hj, tuL_trn hL]
    refine (ofL_LT6 _ (fun i hi => ?_) j).symm
    exact turnL_out (fun i hi => by have := isC_ent hL i hi; unfold ofL; omega) hi _ (Nat.le_refl _)
  rw [key 0 (by omega), key 1 (by omega), key 2 (by omega), key 3 (by omega), key 4 (by omega), key 5 (by omega)]
  exact ⟨rfl, hb⟩
theorem times_c (m : Nat) (L M : List Int) (hL : isC L = true) (hM : isC M = true) (hm : L.length = m) (hm' : M.length = m) (w : World) :
    Calls Tryz.prog 115 #[.agg #[.int .i64 ((m : Int)), .int .i64 (ofL L 0), .int .i64 (ofL L 1), .int .i64 (ofL L 2), .int .i64 (ofL L 3), .int .i64 (ofL L 4), .int .i64 (ofL L 5)], .agg #[.int .i64 ((m : Int)), .int .i64 (ofL M 0), .int .i64 (ofL M 1), .int .i64 (ofL M 2), .int .i64 (ofL M 3), .int .i64 (ofL M 4), .int .i64 (ofL M 5)]] w fun e w' => e = .returned (.agg #[.int .i64 ((m : Int)), .int .i64 (ofL (tiL L M) 0), .int .i64 (ofL (tiL L M) 1), .int .i64 (ofL (tiL L M) 2), .int .i64 (ofL (tiL L M) 3), .int .i64 (ofL (tiL L M) 4), .int .i64 (ofL (tiL L M) 5)]) ∧ Below w.heap.size w w' := by
  subst hm
  refine (times_any L.length (isC_len hL).2 (ofL L) (isC_Ok hL) L.length (ofL M) w).mono ?_
  rintro e w' ⟨T', rfl, HT, hb⟩
  have hP := isP_of hL hM hm'.symm
  have key : ∀ j, j < 6 → T' j = ofL (tiL L M) j := fun j hj => by
    rw [HT.out j hj]
    unfold tiL
    rw [pk_yes hP, pF_yes hP, pG_yes hP]
    exact (ofL_LT6 _ (fun i hi => timesL_out hi _ (Nat.le_refl _)) j).symm
  rw [key 0 (by omega), key 1 (by omega), key 2 (by omega), key 3 (by omega), key 4 (by omega), key 5 (by omega)]
  exact ⟨rfl, hb⟩
set_option maxHeartbeats 1000000 in
theorem has_any {H : Type} (b n m : Nat) (L : List Int) (hL : isC L = true) (hm : L.length = m) (D : DataW H) (w : World) (hown : w.ownsMap Tryz.prog 58 (plainElem Tryz.prog 3) b n D) :
    Calls Tryz.prog 64 #[.map (some b), .agg #[.int .i64 ((m : Int)), .int .i64 (ofL L 0), .int .i64 (ofL L 1), .int .i64 (ofL L 2), .int .i64 (ofL L 3), .int .i64 (ofL L 4), .int .i64 (ofL L 5)]] w fun e w' => e = .returned (.bool (Maps.has D (klL L))) ∧ Below w.heap.size w w' := by
  have hkey : keyOf Tryz.prog 58 (.agg #[.int .i64 ((m : Int)), .int .i64 (ofL L 0), .int .i64 (ofL L 1), .int .i64 (ofL L 2), .int .i64 (ofL L 3), .int .i64 (ofL L 4), .int .i64 (ofL L 5)]) = some (klL L) := by subst hm; exact keyOf_L hL
  have hown1 := hown.alloc (.cells #[.int .i64 ((m : Int)), .int .i64 (ofL L 0), .int .i64 (ofL L 1), .int .i64 (ofL L 2), .int .i64 (ofL L 3), .int .i64 (ofL L 4), .int .i64 (ofL L 5)] 58)
  have hz : (zeroValue 3).run Tryz.prog (w.alloc (.cells #[.int .i64 ((m : Int)), .int .i64 (ofL L 0), .int .i64 (ofL L 1), .int .i64 (ofL L 2), .int .i64 (ofL L 3), .int .i64 (ofL L 4), .int .i64 (ofL L 5)] 58)) = .ok (.int .i64 0) (w.alloc (.cells #[.int .i64 ((m : Int)), .int .i64 (ofL L 0), .int .i64 (ofL L 1), .int .i64 (ofL L 2), .int .i64 (ofL L 3), .int .i64 (ofL L 4), .int .i64 (ofL L 5)] 58)) := by kernel_rfl
  have hB : Below w.heap.size w (w.alloc (.cells #[.int .i64 ((m : Int)), .int .i64 (ofL L 0), .int .i64 (ofL L 1), .int .i64 (ofL L 2), .int .i64 (ofL L 3), .int .i64 (ofL L 4), .int .i64 (ofL L 5)] 58)) := (Below.refl _ w).alloc (Nat.le_refl _) _
  clear hown hm hL
  go_enter Tryz.func64, Tryz.ntmps64
  go_wp2_with (at_lookup; refine wpList_lookup_own_ok_int _ rfl _ _ 48 rfl 58 3 .i64 ch_keyed Tryz.underlying48 Tryz.underlying3 hz b n D rfl hown1 _ (klL L) rfl hkey ?_; intro z hat hwc)
  go_ret
  exact ⟨rfl, hB⟩
theorem gb_of {W W' : World} (hb : Below W.heap.size W W') (row : Option Nat) : W.grownBy W' row := ⟨hb.os, hb.tape, hb.output, hb.size, fun k hk _ => hb.block k hk⟩
/-- products and turned charts are among them -/
def sgL (zs : List (List Int)) (L : List Int) : Bool := decide (tuL L ∈ zs) && zs.all (fun M => decide (tiL L M ∈ zs))
def clB (zs : List (List Int)) : Bool := zs.all (sgL zs)
theorem clB_no {zs : List (List Int)} {L : List Int} (hL : L ∈ zs) (h : sgL zs L = false) : clB zs = false := by
  cases hc : clB zs
  · rfl
  · have := List.all_eq_true.1 hc L hL; rw [h] at this; cases this
theorem sgL_no1 {zs : List (List Int)} {L : List Int} (h : tuL L ∉ zs) : sgL zs L = false := by unfold sgL; rw [decide_eq_false h]; rfl
theorem sgL_no2 {zs : List (List Int)} {L M : List Int} (hM : M ∈ zs) (h : tiL L M ∉ zs) : sgL zs L = false := by
  cases hc : sgL zs L
  · rfl
  · unfold sgL at hc
    rw [Bool.and_eq_true] at hc
    exact absurd (of_decide_eq_true (List.all_eq_true.1 hc.2 M hM)) h
theorem sgL_yes {zs : List (List Int)} {L : List Int} (h1 : tuL L ∈ zs) (h2 : ∀ M ∈ zs, tiL L M ∈ zs) : sgL zs L = true := by
  unfold sgL; rw [decide_eq_true h1, Bool.true_and, List.all_eq_true]; exact fun M hM => decide_eq_true (h2 M hM)

abbrev mkCh (x : Int × (Nat → Int)) : Value := .agg #[.int .i64 (x.1), .int .i64 (x.2 0), .int .i64 (x.2 1), .int .i64 (x.2 2), .int .i64 (x.2 3), .int .i64 (x.2 4), .int .i64 (x.2 5)]
theorem mkCh_inv : ∀ key kl, keyOf Tryz.prog 58 key = some kl → ∃ x, key = mkCh x := fun key kl h => by
  obtain ⟨n, T, h, _⟩ := keyOf_ch_inv h
  exact ⟨(n, T), h⟩
theorem plain_inv {H : Type} : ∀ (v : Value) (y : DataW H × List MemPlace), plainElem Tryz.prog 3 v = some y → ∃ c, v = Value.int .i64 c := fun v y h => by
  obtain ⟨c, h, _⟩ := plainElem_int_inv Tryz.underlying3 h
  exact ⟨c, h⟩
theorem ch_of_key {zs : List (List Int)} {m : Nat} (hz : ∀ L ∈ zs, isC L = true ∧ L.length = m) {x : Int × (Nat → Int)} {kl : Lit} (hk : keyOf Tryz.prog 58 (mkCh x) = some kl) (hm : ∃ L, L ∈ zs ∧ klL L = kl) :
    ∃ L, L ∈ zs ∧ klL L = kl ∧ mkCh x = .agg #[.int .i64 ((m : Int)), .int .i64 (ofL L 0), .int .i64 (ofL L 1), .int .i64 (ofL L 2), .int .i64 (ofL L 3), .int .i64 (ofL L 4), .int .i64 (ofL L 5)] := by
  obtain ⟨L, hL, he⟩ := hm
  have h1 := keyOf_L (hz L hL).1
  rw [(hz L hL).2, he] at h1
  exact ⟨L, hL, he, ch_keyed.inj hk h1⟩
theorem same_key {a b : Lit} (h : a.sameKey b = true) : a = b := by
  by_cases e : a = b
  · exact e
  · rw [Maps.sameKey_ne e] at h; cases h

set_option maxHeartbeats 4000000 in
theorem closed_any {H : Type} (b nn m : Nat) (zs : List (List Int)) (hz : ∀ L ∈ zs, isC L = true ∧ L.length = m) (D : DataW H) (hD : ∀ x, Maps.has D x = true ↔ ∃ L, L ∈ zs ∧ klL L = x) (w : World) (hown : w.ownsMap Tryz.prog 58 (plainElem Tryz.prog 3) b nn D) :
    Calls Tryz.prog 128 #[.map (some b)] w fun e w' => e = .returned (.bool (clB zs)) ∧ Below w.heap.size w w' := by
  have HZ := Lib.hid hz
  have HD := Lib.hid hD
  have hbl := hown.lt
  clear hz hD
  go_enter Tryz.func128, Tryz.ntmps128
  go_wp2_with (first | (at_range; refine wpList_range_own _ rfl _ 48 rfl 58 3 ch_keyed Tryz.underlying48 _ b nn D rfl hown ?_; intro w0 hrg0 hg0 hs0) | go_in)
  go_frame
  have hB0 : Below w.heap.size w w0 := ⟨hg0.os, hg0.tape, hg0.output, hg0.size, fun k hk => hg0.block k hk (by simp)⟩
  clear hg0 hs0 hown
  go_loopw [3, 4] (fun _ _ wr => ∃ left cnt, wr.ranges Tryz.prog 58 (plainElem Tryz.prog 3) b w.heap.size nn D left cnt ∧ Hid (∀ x, left x = true → Maps.has D x = true) ∧ Hid (∀ L, L ∈ zs → left (klL L) = false → sgL zs L = true) ∧ Below w.heap.size w wr) (fun _ _ wr => wr.rangeLeft b w.heap.size)
  case atStart => exact ⟨_, _, hrg0, Lib.hid (fun x h => h), Lib.hid (fun L hL h => by rw [(HD.out _).2 ⟨L, hL, rfl⟩] at h; cases h), hB0⟩
  case round =>
    clear hrg0 hB0
    obtain ⟨left, cnt, hrg, P1, P2, hB⟩ := hrel
    have hrl := hrg.lt
    go_wp2_with (first | (at_next; refine wpList_next_ranges _ rfl _ rfl 58 ch_keyed (plainElem Tryz.prog 3) mkCh (Value.int .i64) mkCh_inv plain_inv b w.heap.size nn _ _ _ rfl hrg ?_ ?_) | go_in)
    · intro hc0 hl0
      have HF : Hid (clB zs = true) := List.all_eq_true.2 (fun L hL => P2.out L hL (hl0 _))
      go_wp2
      go_ret
      exact ⟨by rw [HF.out]; rfl, hB⟩
    · intro xn xT c kl yd yp w2 cnt2 hkey hlk hv hat hrg2 hlt hg2 hs2 hen
      obtain ⟨L, hL, hkl, hx⟩ := ch_of_key HZ.out hkey ((HD.out kl).1 (P1.out kl hlk))
      rw [hx] at hen
      rw [hx]
      have hLz := HZ.out L hL
      have hB2 := hB.grown hg2 hB.size (fun j e => by cases e; exact Nat.le_refl _)
      have hs2' := hB2.size
      have P1' : Hid (∀ x, (left x && !x.sameKey kl) = true → Maps.has D x = true) := fun x h => P1.out x (by rw [Bool.and_eq_true] at h; exact h.1)
      have P2' : Hid (sgL zs L = true → ∀ M, M ∈ zs → (left (klL M) && !(klL M).sameKey kl) = false → sgL zs M = true) := fun hok M hM h => by
        cases hl : left (klL M)
        · exact P2.out M hM hl
        · rw [hl, Bool.true_and] at h
          have : (klL M).sameKey kl = true := by cases hsk : (klL M).sameKey kl <;> simp_all
          have e := (same_key this).trans hkl.symm
          rw [klL_inj M L (HZ.out M hM).1 hLz.1 e]; exact hok
      clear hs2 hkey hx hv hat hlk hkl P1 P2
      go_wp2_with fail
      refine (turned_c m L hLz.1 hLz.2 _).mono ?_
      rintro e w3 ⟨rfl, hb3⟩
      have hgr3 : w2.grownBy w3 none := (World.grownBy_alloc w2 (.cells #[.int .i64 ((m : Int)), .int .i64 (ofL L 0), .int .i64 (ofL L 1), .int .i64 (ofL L 2), .int .i64 (ofL L 3), .int .i64 (ofL L 4), .int .i64 (ofL L 5)] 58) none).trans (gb_of hb3 none)
      have hrg3 := hrg2.kept hgr3 (by simp) (by simp)
      have hC3 : Cb w3 w2.heap.size (m : Int) (ofL L) := (Cb.new w2 (m : Int) (ofL L)).below hb3 (by simp)
      have hB3 := (hB2.alloc hs2' (.cells #[.int .i64 ((m : Int)), .int .i64 (ofL L 0), .int .i64 (ofL L 1), .int .i64 (ofL L 2), .int .i64 (ofL L 3), .int .i64 (ofL L 4), .int .i64 (ofL L 5)] 58)).trans (hb3.mono (by simp; omega))
      clear hb3 hgr3 hrg2
      go_wp2_with fail
      refine (has_any b nn m (tuL L) (tuL_isC hLz.1) ((tuL_len hLz.1).trans hLz.2) D w3 hrg3.owns).mono ?_
      rintro e w4 ⟨rfl, hb4⟩
      have hrg4 := hrg3.kept (gb_of hb4 none) (by simp) (by simp)
      have hC4 := hC3.below hb4 hC3.lt
      have hB4 := hB3.trans (hb4.mono hB3.size)
      have hc24 := hC4.lt
      clear hb4 hrg3 hC3 hB3 hB2
      cases hh : Maps.has D (klL (tuL L))
      · have HF : Hid (clB zs = false) := clB_no hL (sgL_no1 (fun hm => by have := (HD.out _).2 ⟨_, hm, rfl⟩; rw [hh] at this; cases this))
        clear hh
        go_wp2
        go_ret
        exact ⟨by rw [HF.out]; rfl, hB4⟩
      · have HT : Hid (tuL L ∈ zs) := by
          obtain ⟨M, hM, e⟩ := (HD.out _).1 hh
          have := klL_inj M (tuL L) (HZ.out M hM).1 (tuL_isC hLz.1) e
          show _ ∈ _; rw [← this]; exact hM
        clear hh
        go_wp2_with (first | (at_range; refine wpList_range_own _ rfl _ 48 rfl 58 3 ch_keyed Tryz.underlying48 _ b nn D rfl hrg4.owns ?_; intro w5 hrg5 hg5 hs5) | go_in)
        go_frame
        have hrgo5 := hrg4.kept hg5 (by simp) (by simp)
        have hC5 : Cb w5 w2.heap.size (m : Int) (ofL L) := World.rowIs.of_block hC4 (hg5.block _ hC4.lt (by simp))
        have hB5 := hB4.grown hg5 hB4.size (fun j e => by cases e)
        have hs4 := hB4.size
        clear hg5 hs5 hrg4 hC4 hB4
        go_loopw [4] (fun _ wq => ∃ left2 cnt3, wq.ranges Tryz.prog 58 (plainElem Tryz.prog 3) b w4.heap.size nn D left2 cnt3 ∧ wq.ranges Tryz.prog 58 (plainElem Tryz.prog 3) b w.heap.size nn D (fun z => left z && !z.sameKey kl) cnt2 ∧ Cb wq w2.heap.size (m : Int) (ofL L) ∧ Hid (∀ x, left2 x = true → Maps.has D x = true) ∧ Hid (∀ M, M ∈ zs → left2 (klL M) = false → tiL L M ∈ zs) ∧ Below w.heap.size w wq) (fun _ wq => wq.rangeLeft b w4.heap.size)
        case atStart => exact ⟨_, _, hrg5, hrgo5, hC5, Lib.hid (fun x h => h), Lib.hid (fun M hM h => by rw [(HD.out _).2 ⟨M, hM, rfl⟩] at h; cases h), hB5⟩
        case round =>
          clear hrg5 hrgo5 hC5 hB5
          obtain ⟨left2, cnt3, hrq, hrgo, hC, Q1, Q2, hBq⟩ := hrel
          have hql := hrq.lt
          have hqb := hrq.ne
          go_wp2_with (first | (at_next; refine wpList_next_ranges _ rfl _ rfl 58 ch_keyed (plainElem Tryz.prog 3) mkCh (Value.int .i64) mkCh_inv plain_inv b w4.heap.size nn _ _ _ rfl hrq ?_ ?_) | go_in)
          · intro hc0 hl0
            have HOK : Hid (sgL zs L = true) := sgL_yes HT.out (fun M hM => Q2.out M hM (hl0 _))
            go_wp2
            go_roundw
            case rel => exact ⟨_, cnt2, hrgo, P1', Lib.hid (P2'.out HOK.out), hBq⟩
            case measure => rw [hrgo.left_eq, hrg.left_eq]; exact hlt
          · intro xn xT c2 kl2 yd2 yp2 w6 cnt6 hkey hlk hv hat hrq6 hlt6 hg6 hs6 hen6
            obtain ⟨M, hM, hkl, hx⟩ := ch_of_key HZ.out hkey ((HD.out kl2).1 (Q1.out kl2 hlk))
            rw [hx] at hen6
            rw [hx]
            have hMz := HZ.out M hM
            have hPP := isP_of hLz.1 hMz.1 (hLz.2.trans hMz.2.symm)
            have hB6 := hBq.grown hg6 hBq.size (fun j e => by cases e; exact hs4)
            have hs6' := hB6.size
            have hC6 : Cb w6 w2.heap.size (m : Int) (ofL L) := World.rowIs.of_block hC (hg6.block _ hC.lt (by simp; omega))
            have hrgo6 := hrgo.kept hg6 (by simp; omega) (by simp; omega)
            have Q1' : Hid (∀ x, (left2 x && !x.sameKey kl2) = true → Maps.has D x = true) := fun x h => Q1.out x (by rw [Bool.and_eq_true] at h; exact h.1)
            have Q2' : Hid (tiL L M ∈ zs → ∀ N, N ∈ zs → (left2 (klL N) && !(klL N).sameKey kl2) = false → tiL L N ∈ zs) := fun hok N hN h => by
              cases hl : left2 (klL N)
              · exact Q2.out N hN hl
              · rw [hl, Bool.true_and] at h
                have : (klL N).sameKey kl2 = true := by cases hsk : (klL N).sameKey kl2 <;> simp_all
                have e := (same_key this).trans hkl.symm
                rw [klL_inj N M (HZ.out N hN).1 hMz.1 e]; exact hok
            have hC7 := hC6.alloc (.cells #[.int .i64 ((m : Int)), .int .i64 (ofL M 0), .int .i64 (ofL M 1), .int .i64 (ofL M 2), .int .i64 (ofL M 3), .int .i64 (ofL M 4), .int .i64 (ofL M 5)] 58)
            obtain ⟨a0, a1, a2, a3, a4, a5, a6⟩ := hC7.all
            clear hs6 hkey hx hv hat hlk hkl Q1 Q2 hC hrgo hBq
            go_wp2_with fail
            refine (times_c m L M hLz.1 hMz.1 hLz.2 hMz.2 _).mono ?_
            rintro e w7 ⟨rfl, hb7⟩
            have hgr7 : w6.grownBy w7 none := (World.grownBy_alloc w6 (.cells #[.int .i64 ((m : Int)), .int .i64 (ofL M 0), .int .i64 (ofL M 1), .int .i64 (ofL M 2), .int .i64 (ofL M 3), .int .i64 (ofL M 4), .int .i64 (ofL M 5)] 58) none).trans (gb_of hb7 none)
            have hrq7 := hrq6.kept hgr7 (by simp) (by simp)
            have hrgo7 := hrgo6.kept hgr7 (by simp) (by simp)
            have hC8 := hC7.below hb7 hC7.lt
            have hB7 := (hB6.alloc hs6' (.cells #[.int .i64 ((m : Int)), .int .i64 (ofL M 0), .int .i64 (ofL M 1), .int .i64 (ofL M 2), .int .i64 (ofL M 3), .int .i64 (ofL M 4), .int .i64 (ofL M 5)] 58)).trans (hb7.mono (by simp; omega))
            clear hb7 hgr7 hrq6 hrgo6 hC7 a0 a1 a2 a3 a4 a5 a6 hB6
            go_wp2_with fail
            refine (has_any b nn m (tiL L M) (tiL_isC hPP) ((tiL_len hPP).trans hLz.2) D w7 hrq7.owns).mono ?_
            rintro e w8 ⟨rfl, hb8⟩
            have hrq8 := hrq7.kept (gb_of hb8 none) (by simp) (by simp)
            have hrgo8 := hrgo7.kept (gb_of hb8 none) (by simp) (by simp)
            have hC9 := hC8.below hb8 hC8.lt
            have hB8 := hB7.trans (hb8.mono hB7.size)
            clear hb8 hrq7 hrgo7 hC8 hB7
            cases hh : Maps.has D (klL (tiL L M))
            · have HF : Hid (clB zs = false) := clB_no hL (sgL_no2 hM (fun hm => by have := (HD.out _).2 ⟨_, hm, rfl⟩; rw [hh] at this; cases this))
              clear hh
              go_wp2
              go_ret
              exact ⟨by rw [HF.out]; rfl, hB8⟩
            · have HM : Hid (tiL L M ∈ zs) := by
                obtain ⟨N, hN, e⟩ := (HD.out _).1 hh
                have := klL_inj N (tiL L M) (HZ.out N hN).1 (tiL_isC hPP) e
                show _ ∈ _; rw [← this]; exact hN
              clear hh
              go_wp2
              go_roundw
              case rel => exact ⟨_, cnt6, hrq8, hrgo8, hC9, Q1', Lib.hid (Q2'.out HM.out), hB8⟩
              case measure => rw [hrq8.left_eq, hrq.left_eq]; exact hlt6
end

end Go.Proofs.YtkfiehndlgplgaaGreatDoor
