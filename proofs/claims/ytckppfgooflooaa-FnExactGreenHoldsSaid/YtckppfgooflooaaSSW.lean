/-
  The laws' own small functions on slices of slices of ints.
-/
import Derived.Test.YtckppfgooflooaaSS
import Derived.WalkKit
import Derived.Deep.QuietTactic
import Derived.BigQuiet
import Derived.Outline
import Derived.StillTailTactics
namespace Go.Proofs.Ytckppfgooflooaa
set_option maxRecDepth 100000
open Go.RowKit

theorem repl_set {vs : List Value} {u z : Value} {m : Nat} (h : 0 < m) : (vs ++ List.replicate m z).set vs.length u = (vs ++ [u]) ++ List.replicate (m - 1) z := by
  obtain ⟨d, rfl⟩ : ∃ d, m = d + 1 := ⟨m - 1, by omega⟩
  rw [List.set_append_right _ _ (Nat.le_refl _), Nat.sub_self, List.replicate_succ, List.set_cons_zero]
  simp
theorem take_snoc_list (Ls : List (List Int)) {k : Nat} (hk : k < Ls.length) : Ls.take (k + 1) = Ls.take k ++ [Ls[k]?.getD []] := by
  rw [List.take_succ_eq_append_getElem hk, List.getElem?_eq_getElem hk]; rfl
theorem get_len (Ls : List (List Int)) {b k : Nat} (h : ∀ L ∈ Ls, L.length ≤ b) : (Ls[k]?.getD []).length ≤ b := by
  cases e : Ls[k]? with
  | none => simp
  | some L => exact h L (List.mem_of_getElem? e)

set_option maxHeartbeats 1000000 in
/-- toIntSS: a copy, in blocks of its own -/
theorem toIntSS_any (A : Option Addr) (n c : Nat) (Ls : List (List Int)) (w : World) (h : RSS w A n Ls) (hn : n ≤ 1048576) (hl : ∀ L ∈ Ls, L.length ≤ 1048576) :
    Calls Try.prog 28 #[.slice A n c] w fun e w' => ∃ B : Addr, e = .returned (.slice (some B) n n) ∧ OSS w' w.heap.size w'.heap.size (.slice (some B) n n) Ls ∧ Below w.heap.size w w' := by
  obtain ⟨i0, hi, hz0, hz1, hz2⟩ := info_parts info_ints
  have hb8 : i0.bytes * n ≤ 281474976710656 := by rw [hz2]; omega
  have hmx : n ≤ maxLen := by unfold maxLen; omega
  have HL := Lib.hid h.len
  have HN := Lib.hid hl
  clear hl
  go_enter Try.func28, Try.ntmps28
  go_wp2_with (at_make; refine wpList_make_full _ rfl _ _ _ rfl w.heap.size 27 i0 _ 1 Try.underlying28 hi hz0 hz1 _ _ _ _ n rfl rfl rfl rfl hb8 hmx (Nat.le_refl _) ?_; intro w1 hown hg)
  have hB1 : Below w.heap.size w w1 := (Below.refl _ _).grown hg (Nat.le_refl _) (fun k e => by cases e)
  have hr0 : w1.ownsRow w.heap.size 27 1 (.slice (some ⟨w.heap.size, 0, none⟩) n n) n (([] : List Value) ++ List.replicate (n - 0) (.slice none 0 0)) := by
    have e : (madeCells (Value.slice none 0 0).cells (n * 1)).toList = ([] : List Value) ++ List.replicate (n - 0) (.slice none 0 0) := by
      show (madeCells #[Value.slice none 0 0] (n * 1)).toList = _
      rw [toList_madeCells_one]; simp
    rw [← e]; exact hown
  clear hown hg hi hz0 hz1 hz2 hb8
  go_loopw [4] (fun i wr => ∃ (k : Nat) (vs : List Value), k ≤ n ∧ i = .int .i64 k ∧ vs.length = k ∧ wr.ownsRow w.heap.size 27 1 (.slice (some ⟨w.heap.size, 0, none⟩) n n) n (vs ++ List.replicate (n - k) (.slice none 0 0)) ∧ Inn wr w.heap.size wr.heap.size vs (Ls.take k) ∧ Below w.heap.size w wr) (fun i _ => n - (intOf i).toNat)
  case atStart => exact ⟨0, [], Nat.zero_le _, rfl, rfl, hr0, Inn.nil, hB1⟩
  case round =>
    obtain ⟨k, vs, hk, rfl, hvl, hrow, hinn, hbel⟩ := hrel
    clear hr0 hB1
    by_cases hlt : k < n
    · obtain ⟨ad, Ai, ci, rfl, hab, hc, hri⟩ := (h.below hbel).at_ hlt
      have hLl := get_len Ls (k := k) HN.out
      have HT := Lib.hid (take_snoc_list Ls (k := k) (by rw [HL.out]; exact hlt))
      generalize Ls[k]?.getD [] = L at hc hri hLl HT
      go_wp2_with fail
      refine (toIntS_any Ai _ ci L wr hri hLl).mono ?_
      rintro e w2 ⟨B, rfl, hN, hB2⟩
      have hrow2 := own_below hrow hB2
      have hinn2 := hinn.below hB2
      have hsz := hB2.size
      have hs1 := hbel.size
      have hbel2 := hbel.trans (hB2.mono hs1)
      have ho := hrow2.cellAt k (by omega)
      have hf := hrow2.frozenAt k
      obtain ⟨u, hu⟩ : ∃ u, (vs ++ List.replicate (n - k) (Value.slice none 0 0))[k]? = some u := ⟨_, List.getElem?_eq_getElem (by simp; omega)⟩
      rw [hu] at ho
      have hst := (hrow2.stored k (.slice (some B) L.length L.length)).1
      have hset := repl_set (vs := vs) (u := .slice (some B) L.length L.length) (z := .slice none 0 0) (m := n - k) (by omega)
      rw [hvl] at hset
      rw [hset, Nat.sub_sub] at hst
      have HST := Lib.hid hst
      have HB3 := Lib.hid (hbel2.setCell (p := ⟨w.heap.size, k, none⟩) (Nat.le_refl _) (.slice (some B) L.length L.length))
      have hoi : OI w2 wr.heap.size w2.heap.size (.slice (some B) L.length L.length) L := OI.of hN
      have hap : ∀ (i : Nat) (u' : Value), vs[i]? = some u' → ∀ g : Nat, u'.ownBlock = some g → (Value.slice (some B) L.length L.length).ownBlock = some g → False := fun i u' hu' g e1 e2 => by
        have a := (hinn.lt hu' e1).2.2
        have b := (hoi.1.lt g e2).1
        omega
      have hi3 := (hinn2.more (Nat.le_refl _) hsz).snoc (hoi.less hs1) hap
      have hblk : ∀ (i : Nat) (x : Value), (vs ++ [Value.slice (some B) L.length L.length])[i]? = some x → x.ownBlock ≠ some w.heap.size := fun i x hx => by
        rcases hrow2.2 with ⟨h1, _⟩ | ⟨g, cap, cur, h1, _, hh, _⟩
        · cases h1
        · injection h1 with h1 h2 h3
          injection h1 with h1
          injection h1 with h1 h2 h3
          subst h1
          exact hi3.type (t := 27) (cs := cur) hh (by decide) hx
      have HI := Lib.hid (hi3.same (w' := w2.setCell ⟨w.heap.size, k, none⟩ (.slice (some B) L.length L.length)) (fun i x hx g hg => Below.heap_setCell _ _ _ _ (fun e => hblk i x hx (by rw [hg]; exact congrArg some e))))
      have hss : (w2.setCell ⟨w.heap.size, k, none⟩ (.slice (some B) L.length L.length)).heap.size = w2.heap.size := by simp [World.setCell]
      clear hst hu hrow hrow2 hinn hinn2 hi3 hblk hap hoi hN hset hbel2 hri hc
      go_wp2
      go_roundw
      case rel => exact ⟨k + 1, _, by omega, by go_num, by simp [hvl], HST.out, by rw [HT.out, hss]; exact HI.out, HB3.out⟩
      case measure => simp [intOf]; omega
    · obtain rfl : k = n := by omega
      have e : vs ++ List.replicate (k - k) (Value.slice none 0 0) = vs := by simp
      rw [e] at hrow
      have e2 : Ls.take k = Ls := List.take_of_length_le (by have := HL.out; omega)
      rw [e2] at hinn
      have hle := HL.out
      clear e e2
      go_wp2
      go_ret
      exact ⟨⟨w.heap.size, 0, none⟩, rfl, ⟨vs, by rw [hle]; exact hrow, fun g hg => (hrow.lt g hg).2, hinn⟩, hbel⟩

def EqPostSS (Ls Ms : List (List Int)) (w : World) (e : Ending) (w' : World) : Prop := e = .returned (.bool (decide (Ls = Ms))) ∧ Below w.heap.size w w'
theorem eq_of_take_list {Ls Ms : List (List Int)} {n : Nat} (h1 : Ls.length = n) (h2 : Ms.length = n) (h : Ls.take n = Ms.take n) : Ls = Ms := by
  rwa [List.take_of_length_le (by omega), List.take_of_length_le (by omega)] at h

set_option maxHeartbeats 1000000 in
/-- eqIntSS: whether two slices read as the same list of lists -/
theorem eqIntSS_any (A B : Option Addr) (n m c d : Nat) (Ls Ms : List (List Int)) (w : World) (h : RSS w A n Ls) (h' : RSS w B m Ms) (hn : n ≤ 1048576) (hl : ∀ L ∈ Ls, L.length ≤ 1048576) :
    Calls Try.prog 21 #[.slice A n c, .slice B m d] w (EqPostSS Ls Ms w) := by
  have HL := Lib.hid h.len
  have HL' := Lib.hid h'.len
  by_cases hnm : n = m
  · subst hnm
    have HN := Lib.hid hl
    clear hl
    go_enter Try.func21, Try.ntmps21
    go_wp2
    go_loopw [5] (fun i wr => ∃ k : Nat, k ≤ n ∧ i = .int .i64 k ∧ Hid (Ls.take k = Ms.take k) ∧ Below w.heap.size w wr) (fun i _ => n - (intOf i).toNat)
    case atStart => exact ⟨0, Nat.zero_le _, rfl, Lib.hid rfl, Below.refl _ _⟩
    case round =>
      obtain ⟨k, hk, rfl, HT, hbel⟩ := hrel
      by_cases hlt : k < n
      · obtain ⟨ad, Ai, ci, rfl, hab, hc, hri⟩ := (h.below hbel).at_ hlt
        obtain ⟨ad', Ai', ci', rfl, hab', hc', hri'⟩ := (h'.below hbel).at_ hlt
        have hLl := get_len Ls (k := k) HN.out
        have HTa := Lib.hid (take_snoc_list Ls (k := k) (by rw [HL.out]; exact hlt))
        have HTb := Lib.hid (take_snoc_list Ms (k := k) (by rw [HL'.out]; exact hlt))
        have HP : Hid (Ls[k]?.getD [] ≠ Ms[k]?.getD [] → Ls ≠ Ms) := fun he e => he (by rw [e])
        generalize Ls[k]?.getD [] = L at hc hri hLl HTa HP
        generalize Ms[k]?.getD [] = M at hc' hri' HTb HP
        have g1 := hc
        have g2 := hc'
        go_wp2
        go_still_tail 8, (by kernel_rfl)
        change wpList _ _ _ _ _ wr.drew
        replace hri : RI wr.drew Ai L.length L := hri
        replace hri' : RI wr.drew Ai' M.length M := hri'
        replace hbel : Below w.heap.size w wr.drew := hbel.drew
        generalize wr.drew = w1 at hri hri' hbel
        go_wp2_with fail
        refine (eqIntS_any Ai Ai' _ _ ci ci' L M w1 hri hri' hLl).mono ?_
        rintro e w2 ⟨rfl, hB2⟩
        have hs1 := hbel.size
        have hbel2 := hbel.trans (hB2.mono hs1)
        by_cases he : L = M
        · have hde : decide (L = M) = true := decide_eq_true he
          have HT2 : Hid (Ls.take (k + 1) = Ms.take (k + 1)) := by show _ = _; rw [HTa.out, HTb.out, HT.out, he]
          clear hri hri' hc hc' he h h'
          go_wp2
          go_roundw
          case rel => exact ⟨k + 1, by omega, by go_num, HT2, hbel2⟩
          case measure => simp [intOf]; omega
        · have hde : decide (L = M) = false := decide_eq_false he
          have HD : Hid (decide (Ls = Ms) = false) := decide_eq_false (HP.out he)
          clear hri hri' hc hc' he h h'
          go_wp2
          go_ret
          exact ⟨by rw [HD.out]; rfl, hbel2⟩
      · obtain rfl : k = n := by omega
        have HD : Hid (decide (Ls = Ms) = true) := decide_eq_true (eq_of_take_list HL.out HL'.out HT.out)
        go_wp2
        go_ret
        exact ⟨by rw [HD.out]; rfl, hbel⟩
  · have hb : ((n : Int) != (m : Int)) = true := by rw [bne_iff_ne]; omega
    have HD : Hid (decide (Ls = Ms) = false) := decide_eq_false (fun e => hnm (by rw [← HL.out, ← HL'.out, e]))
    go_enter Try.func21, Try.ntmps21
    go_wp2
    go_ret
    exact ⟨by rw [HD.out]; rfl, Below.refl _ _⟩

/-- marks laid into a list of ints that lies in an interval -/
theorem mark_oi (lo hi k : Nat) (K : Int) (A : Option Addr) (n c : Nat) (zs : List Int) (w : World) (h : OI w lo hi (.slice A n c) zs) (hK : K = (k : Int)) (hk : k ≤ 4194304) (hn : n ≤ 1048576) :
    Calls Try.prog 23 #[.slice A n c, .int .i64 K] w fun e w' => e = .returned (.int .i64 ((k + zs.length : Nat) : Int)) ∧ OI w' lo hi (.slice A n c) (LT zs.length (mk k)) ∧ Btw lo hi w w' := by
  obtain ⟨rfl, hr⟩ := ri_oi h
  refine (mark_at lo A _ c k K zs w h.1 hK hk hn).mono ?_
  rintro e w' ⟨rfl, ho, hg⟩
  exact ⟨rfl, ⟨by rw [LT_length]; exact ho, h.2⟩, (Btw.refl _ _ _).grown hg (fun g e => ⟨(h.1.lt g e).1, h.2 g e⟩)⟩

set_option maxHeartbeats 1000000 in
theorem markSS_any (lo hi k : Nat) (K : Int) (A : Option Addr) (n c : Nat) (Ls : List (List Int)) (w : World) (h : OSS w lo hi (.slice A n c) Ls) (hK : K = (k : Int)) (hk : k + totL Ls ≤ 4194304) (hn : n ≤ 1048576) (hl : ∀ L ∈ Ls, L.length ≤ 1048576) :
    Calls Try.prog 24 #[.slice A n c, .int .i64 K] w fun e w' => e = .returned (.int .i64 ((k + totL Ls : Nat) : Int)) ∧ OSS w' lo hi (.slice A n c) (mkSS k Ls) ∧ Btw lo hi w w' := by
  subst hK
  have hnl : n = Ls.length := (RSS.of_own h).1
  obtain ⟨vs, hrow, hblk, hinn⟩ := h
  rw [← hnl] at hrow
  have HNL := Lib.hid hnl
  have HVL : Hid (vs.length = n) := by rw [hnl]; exact hinn.len
  have HN := Lib.hid hl
  have HA := Lib.hid (mkT_all k Ls)
  have HS := Lib.hid (fun (i : Nat) (hi' : i < Ls.length) => mkT_step k Ls hi')
  have HG := Lib.hid (fun (i : Nat) (hi' : i < Ls.length) => mkT_get k Ls hi')
  have hinn0 : Inn w lo hi vs (mkT k Ls 0) := by rw [mkT_zero]; exact hinn
  have HO := Lib.hid hrow
  have HBK := Lib.hid hblk
  clear hl hblk hinn hrow hnl
  go_enter Try.func24, Try.ntmps24
  go_wp2
  go_loopw [1, 5] (fun q i wr => ∃ t : Nat, t ≤ n ∧ i = .int .i64 t ∧ q = .int .i64 ((k + totL (Ls.take t) : Nat) : Int) ∧ wr.ownsRow lo 27 1 (.slice A n c) n vs ∧ Inn wr lo hi vs (mkT k Ls t) ∧ Btw lo hi w wr) (fun _ i _ => n - (intOf i).toNat)
  case atStart => exact ⟨0, Nat.zero_le _, rfl, rfl, HO.out, hinn0, Btw.refl _ _ _⟩
  case round =>
    clear hinn0
    obtain ⟨t, ht, rfl, rfl, hrow, hinn, hb⟩ := hrel
    by_cases hlt : t < n
    · have hlt' : t < Ls.length := by have := HNL.out; omega
      obtain ⟨u, hu⟩ : ∃ u, vs[t]? = some u := ⟨_, List.getElem?_eq_getElem (by rw [HVL.out]; exact hlt)⟩
      have hoi := hinn.own t u _ hu (HG.out t hlt')
      have hLl := get_len Ls (k := t) HN.out
      have htot := totL_take Ls hlt'
      have hle := totL_le Ls (t + 1)
      have HST := Lib.hid (HS.out t hlt')
      have HTT := Lib.hid htot
      obtain ⟨g, cp, he, hgb, hgl⟩ := hrow.form (by omega)
      injection he with he1 he2 he3
      subst he1 he3
      have ho := hrow.cellAt t (by omega)
      rw [hu] at ho
      generalize Ls[t]?.getD [] = L at hoi hLl htot HST HTT
      obtain ⟨Au, cu, rfl⟩ := hoi.slice
      go_wp2_with fail
      refine (mark_at lo Au _ cu (k + totL (Ls.take t)) _ L wr hoi.1 rfl (by omega) hLl).mono ?_
      rintro e w2 ⟨rfl, ho2, hg⟩
      have hne : ∀ q, (Value.slice Au L.length cu).ownBlock = some q → q ≠ g := fun q hq e => by
        subst e
        rcases hrow.2 with ⟨h1, _⟩ | ⟨g', cap, cur, h1, _, hh, _⟩
        · cases h1
        · injection h1 with h1 h2 h3
          injection h1 with h1
          injection h1 with h1 h2 h3
          subst h1
          exact own_blk_ne hoi.1 hh (by decide) hq
      have hrow2 := own_same (w' := w2) hrow (fun q hq => hg.block q (hrow.lt q hq).2 (fun e => hne q e.symm (by simp [Value.ownBlock] at hq; exact hq.symm)))
      have hoi2 : OI w2 lo hi (.slice Au L.length cu) (LT L.length (mk (k + totL (Ls.take t)))) := ⟨by rw [LT_length]; exact ho2, hoi.2⟩
      have hi2 := hinn.set_ hu hoi2 (fun q hq hn' => hg.block q hq (fun e => hn' e.symm))
      rw [HST.out] at hi2
      have hb2 := hb.grown hg (fun q hq => ⟨(hoi.1.lt q hq).1, hoi.2 q hq⟩)
      clear hrow hinn hb ho2 hoi hoi2 hne hg ho hu
      go_wp2
      go_roundw
      case rel => exact ⟨t + 1, by omega, by go_num, by rw [HTT.out]; go_num, hrow2, hi2, hb2⟩
      case measure => simp [intOf]; omega
    · obtain rfl : t = n := by omega
      have e2 : Ls.take t = Ls := List.take_of_length_le (by have := HNL.out; omega)
      rw [e2]
      rw [show t = Ls.length from HNL.out, HA.out] at hinn
      go_wp2
      go_ret
      refine ⟨rfl, ⟨vs, ?_, HBK.out, hinn⟩, hb⟩
      rw [mkSS_length, ← HNL.out]; exact hrow

set_option maxHeartbeats 1000000 in
theorem heldSS_any (k : Nat) (K : Int) (A : Option Addr) (n c : Nat) (Ls : List (List Int)) (w : World) (h : RSS w A n (mkSS k Ls)) (hK : K = (k : Int)) (hk : k + totL Ls ≤ 4194304) (hn : n ≤ 1048576) (hl : ∀ L ∈ Ls, L.length ≤ 1048576) :
    Calls Try.prog 25 #[.slice A n c, .int .i64 K] w fun e w' => e = .returned (.int .i64 ((k + totL Ls : Nat) : Int)) ∧ w = w' := by
  subst hK
  have hnl : Ls.length = n := by have := h.len; rwa [mkSS_length] at this
  have HNL := Lib.hid hnl
  have HN := Lib.hid hl
  clear hl
  go_enter Try.func25, Try.ntmps25
  go_wp2
  go_loop [1, 5] (fun q i => ∃ t : Nat, t ≤ n ∧ i = .int .i64 t ∧ q = .int .i64 ((k + totL (Ls.take t) : Nat) : Int)) (fun _ i => n - (intOf i).toNat)
  case atStart => exact ⟨0, Nat.zero_le _, rfl, rfl⟩
  case round =>
    obtain ⟨t, ht, rfl, rfl⟩ := hrel
    by_cases hlt : t < n
    · have hlt' : t < Ls.length := by have := HNL.out; omega
      obtain ⟨ad, Ai, ci, rfl, hab, hc, hri⟩ := h.at_ hlt
      have hg : (mkSS k Ls)[t]?.getD [] = LT (Ls[t]?.getD []).length (mk (k + totL (Ls.take t))) := by
        rw [mkSS_get, List.getElem?_eq_getElem hlt']; rfl
      rw [hg, LT_length] at hc hri
      have hLl := get_len Ls (k := t) HN.out
      have htot := totL_take Ls hlt'
      have hle := totL_le Ls (t + 1)
      have HTT := Lib.hid htot
      generalize Ls[t]?.getD [] = L at hc hri hLl htot HTT
      clear hg
      go_wp2_with fail
      refine (held_at Ai _ ci (k + totL (Ls.take t)) _ w hri rfl (by omega) hLl).mono ?_
      rintro e w2 ⟨rfl, rfl⟩
      have hneg : decide (((k + totL (Ls.take t) + L.length : Nat) : Int) < 0) = false := decide_eq_false (by omega)
      clear hc hri
      go_wp2
      go_round
      case rel => exact ⟨t + 1, by omega, by go_num, by rw [HTT.out]; go_num⟩
      case measure => simp [intOf]; omega
    · obtain rfl : t = n := by omega
      have e2 : Ls.take t = Ls := List.take_of_length_le (by have := HNL.out; omega)
      rw [e2]
      go_wp2
      go_ret
      exact ⟨rfl, rfl⟩

theorem szIntS_any (A : Option Addr) (n c : Nat) (left : Int) (w : World) (h0 : 0 ≤ left) (h1 : left ≤ 1048576) (hn : n ≤ 9223372036854775807) :
    Calls Try.prog 54 #[.slice A n c, .int .i64 left] w fun e w' => e = .returned (.int .i64 (if left - n < 0 then -1 else left - n)) ∧ w = w' := by
  by_cases hc : left - n < 0
  · have HC : Hid ((if left - (n : Int) < 0 then (-1 : Int) else left - n) = -1) := if_pos hc
    go_enter Try.func54, Try.ntmps54
    go_wp2
    go_ret
    exact ⟨by first | rw [HC.out]; rfl | rfl, rfl⟩
  · have HC : Hid ((if left - (n : Int) < 0 then (-1 : Int) else left - n) = left - n) := if_neg hc
    go_enter Try.func54, Try.ntmps54
    go_wp2
    go_ret
    exact ⟨by first | rw [HC.out]; rfl | rfl, rfl⟩

/-- what szIntSS tells -/
def szT (left : Int) (Ls : List (List Int)) : Int := if left - Ls.length < 0 then -1 else szR (left - Ls.length) Ls
theorem szT_fits {left : Int} {Ls : List (List Int)} (h0 : 0 ≤ left) (h : 0 ≤ szT left Ls) : szT left Ls = left - Ls.length - totL Ls ∧ 0 ≤ left - Ls.length - totL Ls := by
  unfold szT at h ⊢
  by_cases hc : left - (Ls.length : Int) < 0
  · rw [if_pos hc] at h; omega
  · rw [if_neg hc] at h ⊢
    have := szR_nonneg Ls _ (by omega) h
    omega

set_option maxHeartbeats 1000000 in
theorem szSS_any (A : Option Addr) (n c : Nat) (left : Int) (Ls : List (List Int)) (w : World) (h : RSS w A n Ls) (h0 : 0 ≤ left) (h1 : left ≤ 1048576) (hn : n ≤ 9223372036854775807) (hl : ∀ L ∈ Ls, L.length ≤ 9223372036854775807) :
    Calls Try.prog 26 #[.slice A n c, .int .i64 left] w fun e w' => e = .returned (.int .i64 (szT left Ls)) ∧ w = w' := by
  have HNL := Lib.hid h.len
  by_cases hc : left - (n : Int) < 0
  · have HC : Hid (szT left Ls = -1) := by show _ = _; unfold szT; rw [HNL.out]; exact if_pos hc
    go_enter Try.func26, Try.ntmps26
    go_wp2
    go_ret
    exact ⟨by rw [HC.out]; rfl, rfl⟩
  have HC : Hid (szT left Ls = szR (left - n) Ls) := by show _ = _; unfold szT; rw [HNL.out]; exact if_neg hc
  have HN := Lib.hid hl
  clear hl
  go_enter Try.func26, Try.ntmps26
  go_wp2
  go_loop [1, 5] (fun q i => ∃ (t : Nat) (x : Int), t ≤ n ∧ i = .int .i64 t ∧ q = .int .i64 x ∧ 0 ≤ x ∧ x ≤ left ∧ Hid (szR x (Ls.drop t) = szT left Ls)) (fun _ i => n - (intOf i).toNat)
  case atStart => exact ⟨0, left - n, Nat.zero_le _, rfl, by go_num, by omega, by omega, HC.out.symm⟩
  case round =>
    obtain ⟨t, x, ht, rfl, rfl, hx0, hx1, HX⟩ := hrel
    by_cases hlt : t < n
    · obtain ⟨ad, Ai, ci, rfl, hab, hc, hri⟩ := h.at_ hlt
      have hdr := szR_drop Ls (k := t) (by rw [HNL.out]; exact hlt) x
      have hLl := get_len Ls (k := t) HN.out
      generalize (Ls[t]?.getD []).length = l at hc hdr hLl
      have HDR := Lib.hid hdr
      clear hdr hri
      go_wp2_with fail
      refine (szIntS_any Ai l ci x w hx0 (by omega) (by omega)).mono ?_
      rintro e w2 ⟨rfl, rfl⟩
      by_cases hb : x - (l : Int) < 0
      · have hr : szT left Ls = -1 := by rw [← HX.out, HDR.out, if_pos hb]
        have HR := Lib.hid hr
        have hif : (if x - (l : Int) < 0 then (-1 : Int) else x - l) = -1 := if_pos hb
        rw [hif]
        clear hr hif hc
        go_wp2
        go_ret
        exact ⟨by rw [HR.out]; rfl, rfl⟩
      · have hr : Hid (szR (x - l) (Ls.drop (t + 1)) = szT left Ls) := by show _ = _; rw [← HX.out, HDR.out, if_neg hb]
        have hif : (if x - (l : Int) < 0 then (-1 : Int) else x - l) = x - l := if_neg hb
        rw [hif]
        clear hif hc
        go_wp2
        go_round
        case rel => exact ⟨t + 1, x - l, by omega, by go_num, rfl, by omega, by omega, hr⟩
        case measure => simp [intOf]; omega
    · obtain rfl : t = n := by omega
      have e2 : Ls.drop t = [] := List.drop_eq_nil_of_le (by have := HNL.out; omega)
      have hr : Hid (szT left Ls = x) := by show _ = _; rw [← HX.out, e2]; rfl
      go_wp2
      go_ret
      exact ⟨by rw [hr.out]; rfl, rfl⟩
end Go.Proofs.Ytckppfgooflooaa
