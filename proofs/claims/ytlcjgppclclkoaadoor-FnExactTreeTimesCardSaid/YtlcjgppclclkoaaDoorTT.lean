/-
  Sv.
-/
import Derived.WalkKit
import Derived.Deep.QuietTactic
import Derived.BigQuiet
import Derived.Outline
import Derived.Sort.Walk0
import Derived.Test.YtlcjgppclclkoaaDoorM0
namespace Go.Proofs.YtlcjgppclclkoaaDoor
set_option maxRecDepth 100000
set_option linter.unusedVariables false
set_option linter.unusedSimpArgs false
set_option linter.unusedSectionVars false

/-! Slices of strings in memory; the laws' own small functions on them and on trees: copies, sizes, equality. -/
section
open Go.RowKit

theorem beq_str (s t : ByteArray) : (s.toList == t.toList) = decide (s = t) := by
  rw [ByteArray.toList_eq, ByteArray.toList_eq]
  by_cases h : s = t
  · subst h; simp
  · rw [decide_eq_false h]
    rw [beq_eq_false_iff_ne]
    exact fun e => h (ByteArray.ext (Array.ext' e))
def svL (ss : List ByteArray) : List Value := ss.map Value.string
theorem svL_length (ss : List ByteArray) : (svL ss).length = ss.length := by simp [svL]
theorem svL_get (ss : List ByteArray) (k : Nat) : (svL ss)[k]? = (ss[k]?).map Value.string := by simp [svL]
/-- a slice value that reads as a list of strings -/
def RS (w : World) (A : Option Addr) (n : Nat) (ss : List ByteArray) : Prop := ss.length = n ∧ Reads w w.heap.size 1 A n (svL ss)
section
variable {w w' : World} {A : Option Addr} {n : Nat} {ss : List ByteArray}
theorem RS.len (h : RS w A n ss) : ss.length = n := h.1
theorem RS.below (h : RS w A n ss) (hb : Below w.heap.size w w') : RS w' A n ss := ⟨h.1, (h.2.below hb).more hb.size⟩
theorem RS.at_ (h : RS w A n ss) {k : Nat} (hk : k < n) : ∃ (ad : Addr) (s : ByteArray), A = some ad ∧ ad.block < w.heap.size ∧ ss[k]? = some s ∧ w.cell? (ad.add k) = some (.string s) := by
  obtain ⟨ad, u, e, hb, hu, hc⟩ := h.2.at_ hk
  have hl := h.1
  rw [svL_get, List.getElem?_eq_getElem (by omega)] at hu
  simp at hu
  exact ⟨ad, ss[k], e, hb, List.getElem?_eq_getElem _, by rw [hc, ← hu]⟩
theorem RS.of_own {base : Nat} {e : TypeId} {c : Nat} (h : w.ownsRow base e 1 (.slice A n c) n (svL ss)) : RS w A n ss := ⟨by have := h.1; simpa [svL] using this, Reads.of_own h⟩
theorem RS.none_ : RS w none 0 [] := ⟨rfl, Reads.none_⟩
end
theorem fill_str (ss : List ByteArray) {n k : Nat} {s : ByteArray} (hk : k < n) (hn : ss.length = n) (hs : ss[k]? = some s) : (svL (ss.take k ++ List.replicate (n - k) ⟨#[]⟩)).set k (.string s) = svL (ss.take (k + 1) ++ List.replicate (n - (k + 1)) ⟨#[]⟩) := by
  unfold svL
  rw [← List.map_set]
  congr 1
  obtain ⟨d, hd⟩ : ∃ d, n - k = d + 1 := ⟨n - k - 1, by omega⟩
  have hl : (ss.take k).length = k := by simp; omega
  rw [hd, List.replicate_succ, List.set_append_right _ _ (by omega), hl, Nat.sub_self, List.set_cons_zero, List.take_add_one, hs, show n - (k + 1) = d from by omega]
  simp
theorem take_str (ss : List ByteArray) {k : Nat} {s : ByteArray} (hs : ss[k]? = some s) : ss.take (k + 1) = ss.take k ++ [s] := by rw [List.take_add_one, hs]; rfl
theorem info_strv : (Tryd.prog.info? 9).map (fun i => (i.zero, i.size, i.bytes)) = some (some (.string ⟨#[]⟩), 1, 16) := by kernel_rfl

set_option maxHeartbeats 400000 in
/-- toStringS: a copy, in a block of its own -/
theorem toStringS_any (A : Option Addr) (n c : Nat) (ss : List ByteArray) (w : World) (h : RS w A n ss) (hn : n ≤ 1048576) :
    Calls Tryd.prog 58 #[.slice A n c] w fun e w' => ∃ B : Addr, e = .returned (.slice (some B) n n) ∧ w'.ownsRow w.heap.size 9 1 (.slice (some B) n n) n (svL ss) ∧ Below w.heap.size w w' := by
  obtain ⟨i0, hi, hz0, hz1, hz2⟩ := info_parts info_strv
  have hb8 : i0.bytes * n ≤ 281474976710656 := by rw [hz2]; omega
  have hmx : n ≤ maxLen := by unfold maxLen; omega
  have HL := Lib.hid h.len
  go_enter Tryd.func58, Tryd.ntmps58
  go_wp2_with (at_make; refine wpList_make_full _ rfl _ _ _ rfl w.heap.size 9 i0 _ 1 Tryd.underlying27 hi hz0 hz1 _ _ _ _ n rfl rfl rfl rfl hb8 hmx (Nat.le_refl _) ?_; intro w1 hown hg)
  have hB1 : Below w.heap.size w w1 := (Below.refl _ _).grown hg (Nat.le_refl _) (fun k e => by cases e)
  have hr0 : w1.ownsRow w.heap.size 9 1 (.slice (some ⟨w.heap.size, 0, none⟩) n n) n (svL (ss.take 0 ++ List.replicate (n - 0) ⟨#[]⟩)) := by
    have e : (madeCells (Value.string ⟨#[]⟩).cells (n * 1)).toList = svL (ss.take 0 ++ List.replicate (n - 0) ⟨#[]⟩) := by
      show (madeCells #[Value.string ⟨#[]⟩] (n * 1)).toList = _
      rw [toList_madeCells_one]; simp [svL]
    rw [← e]; exact hown
  clear hown hg hi hz0 hz1 hz2 hb8
  go_loopw [4] (fun i wr => ∃ k : Nat, k ≤ n ∧ i = .int .i64 k ∧ wr.ownsRow w.heap.size 9 1 (.slice (some ⟨w.heap.size, 0, none⟩) n n) n (svL (ss.take k ++ List.replicate (n - k) ⟨#[]⟩)) ∧ Below w.heap.size w wr) (fun i _ => n - (intOf i).toNat)
  case atStart => exact ⟨0, Nat.zero_le _, rfl, hr0, hB1⟩
  case round =>
    obtain ⟨k, hk, rfl, hrow, hbel⟩ := hrel
    clear hr0 hB1
    by_cases hlt : k < n
    · obtain ⟨ad, s, rfl, hab, hs, hc⟩ := h.at_ hlt
      have hc' := (hbel.cell (p := ad.add k) (by rw [block_of_add]; exact hab)).trans hc
      have ho := hrow.cellAt k (by omega)
      have hf := hrow.frozenAt k
      obtain ⟨u, hu⟩ : ∃ u, (svL (ss.take k ++ List.replicate (n - k) ⟨#[]⟩))[k]? = some u := ⟨_, List.getElem?_eq_getElem (by simp [svL]; have := HL.out; omega)⟩
      rw [hu] at ho
      have hst := (hrow.stored k (.string s)).1
      rw [fill_str ss hlt HL.out hs] at hst
      have HST := Lib.hid hst
      have hbel' := hbel.setCell (p := ⟨w.heap.size, k, none⟩) (Nat.le_refl _) (.string s)
      clear hst hu hc h hs
      go_wp2
      go_roundw
      case rel => exact ⟨k + 1, by omega, by go_num, HST.out, hbel'⟩
      case measure => simp [intOf]; omega
    · obtain rfl : k = n := by omega
      go_wp2
      go_ret
      refine ⟨⟨w.heap.size, 0, none⟩, rfl, ?_, hbel⟩
      have e : ss.take k ++ List.replicate (k - k) ⟨#[]⟩ = ss := by rw [Nat.sub_self, List.replicate_zero, List.append_nil]; exact List.take_of_length_le (by have := HL.out; omega)
      rw [e] at hrow
      exact hrow

set_option maxHeartbeats 400000 in
/-- eqStringS: whether two slices read as the same list -/
theorem eqStringS_any (A B : Option Addr) (n m c d : Nat) (zs ys : List ByteArray) (w : World) (h : RS w A n zs) (h' : RS w B m ys) (hn : n ≤ 1048576) :
    Calls Tryd.prog 49 #[.slice A n c, .slice B m d] w fun e w' => e = .returned (.bool (decide (zs = ys))) ∧ Below w.heap.size w w' := by
  by_cases hnm : n = m
  · subst hnm
    have HL := Lib.hid h.len
    have HL' := Lib.hid h'.len
    go_enter Tryd.func49, Tryd.ntmps49
    go_wp2
    go_loopw [5] (fun i wr => ∃ k : Nat, k ≤ n ∧ i = .int .i64 k ∧ Hid (zs.take k = ys.take k) ∧ Below w.heap.size w wr) (fun i _ => n - (intOf i).toNat)
    case atStart => exact ⟨0, Nat.zero_le _, rfl, Lib.hid rfl, Below.refl _ _⟩
    case round =>
      obtain ⟨k, hk, rfl, HT, hbel⟩ := hrel
      by_cases hlt : k < n
      · obtain ⟨ad, s, rfl, hab, hs, hc⟩ := h.at_ hlt
        obtain ⟨ad', s', rfl, hab', hs', hc'⟩ := h'.at_ hlt
        have g := (hbel.cell (p := ad.add k) (by rw [block_of_add]; exact hab)).trans hc
        have g' := (hbel.cell (p := ad'.add k) (by rw [block_of_add]; exact hab')).trans hc'
        have HS := Lib.hid hs
        have HS' := Lib.hid hs'
        clear hc hc' h h' hs hs'
        by_cases he : s = s'
        · have ht : (s.toList == s'.toList) = true := by rw [beq_str, decide_eq_true he]
          have HE := Lib.hid he
          clear he
          go_wp2
          go_quiet (fail)
          all_goals go_wp2
          go_roundw
          case rel =>
            refine ⟨k + 1, by omega, by go_num, ?_, below_drewN hbel _⟩
            show zs.take (k + 1) = ys.take (k + 1)
            rw [take_str zs HS.out, take_str ys HS'.out, HT.out, HE.out]
          case measure => simp [intOf]; omega
        · have ht : (s.toList == s'.toList) = false := by rw [beq_str, decide_eq_false he]
          go_wp2
          go_quiet (fail)
          all_goals go_wp2
          go_ret
          refine ⟨?_, below_drewN hbel _⟩
          rw [decide_eq_false (fun e => he (by
            have h1 := HS.out
            have h2 := HS'.out
            rw [e] at h1
            exact Option.some.inj (h1.symm.trans h2)))]
          rfl
      · obtain rfl : k = n := by omega
        go_wp2
        go_ret
        refine ⟨?_, hbel⟩
        have e : zs = ys := by
          have h := HT.out
          rwa [List.take_of_length_le (by have := HL.out; omega), List.take_of_length_le (by have := HL'.out; omega)] at h
        rw [decide_eq_true e]
        rfl
  · have hb : ((n : Int) != (m : Int)) = true := by rw [bne_iff_ne]; omega
    have HL := Lib.hid h.len
    have HL' := Lib.hid h'.len
    go_enter Tryd.func49, Tryd.ntmps49
    go_wp2
    go_ret
    refine ⟨?_, Below.refl _ _⟩
    rw [decide_eq_false (fun e => hnm (by rw [← HL.out, ← HL'.out, e]))]
    rfl
end

end Go.Proofs.YtlcjgppclclkoaaDoor
