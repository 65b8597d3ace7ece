/-
  Lx.
-/
import Derived.Test.YtlfbocmcbkcfhaaDoorUE
namespace Go.Proofs.YtlfbocmcbkcfhaaDoor
set_option maxRecDepth 100000
set_option linter.unusedVariables false
set_option linter.unusedSimpArgs false
set_option linter.unusedSectionVars false

/-! spec.TreeWord, impl.TreeWord. -/
section
open Go.RowKit Go.Lib Go.Sort

/-- what TreeWord answers -/
def TreeWordOk (ss : List ByteArray) (e t : ByteArray) (b : Bool) : Prop :=
  (b = true ∧ ∃ S u, TinS ss e S u ∧ (preT S S.length []).length + e.size ≤ 24 ∧ t = txt (preT S S.length []) ++ e) ∨ (b = false ∧ (TinQ ss e → ∃ S u, TinS ss e S u ∧ ¬ (preT S S.length []).length + e.size ≤ 24) ∧ t = ⟨#[]⟩)
theorem TreeWordOk.same {ss : List ByteArray} {e t t' : ByteArray} {b b' : Bool} (h : TreeWordOk ss e t b) (h' : TreeWordOk ss e t' b') : t = t' ∧ b = b' := by
  rcases h with ⟨rfl, S, u, hT, hs, rfl⟩ | ⟨rfl, hn, rfl⟩ <;> rcases h' with ⟨rfl, S', u', hT', hs', rfl⟩ | ⟨rfl, hn', rfl⟩
  · obtain ⟨rfl, _⟩ := hT.uniq hT'; exact ⟨rfl, rfl⟩
  · obtain ⟨S', u', hT', hs'⟩ := hn' ⟨S, u, hT⟩
    obtain ⟨rfl, _⟩ := hT.uniq hT'
    exact absurd hs hs'
  · obtain ⟨S, u, hT, hs⟩ := hn ⟨S', u', hT'⟩
    obtain ⟨rfl, _⟩ := hT.uniq hT'
    exact absurd hs' hs
  · exact ⟨rfl, rfl⟩
def TreeWordPost (ss : List ByteArray) (e : ByteArray) (w : World) (e' : Ending) (w' : World) : Prop := ∃ (t : ByteArray) (b : Bool), e' = .returned (.tuple #[.string t, .bool b]) ∧ TreeWordOk ss e t b ∧ RowKit.Below w.heap.size w w'
set_option maxHeartbeats 2000000 in
theorem specWord_any (A : Option Addr) (n c : Nat) (ss : List ByteArray) (e : ByteArray) (w : World) (h : RS w A n ss) (hn : n ≤ 1048576) (hl : ∀ s ∈ ss, s.size ≤ 1048576) :
    Calls Tryd.prog 39 #[.agg #[.slice A n c, .string e]] w (TreeWordPost ss e w) := by
  have hB0 : RowKit.Below w.heap.size w (w.alloc (.cells #[.slice A n c, .string e] 25)) := (RowKit.Below.refl _ w).alloc (Nat.le_refl _) _
  have hA0 : Blk (w.alloc (.cells #[.slice A n c, .string e] 25)) w.heap.size 25 #[.slice A n c, .string e] := Blk.new w _ _
  have HF := Lib.hid (specWalk_any A n c ss e _ (h.below hB0) hn hl)
  have HB0 := Lib.hid hB0
  have HA0 := Lib.hid hA0
  have hz : w.heap.size < (w.alloc (.cells #[.slice A n c, .string e] 25)).heap.size := by simp
  clear h hB0 hl hA0
  go_enter Tryd.func39, Tryd.ntmps39
  go_wp2_with fail
  refine HF.out.mono ?_
  rintro e' w1 ⟨t, b, rfl, hb, hB⟩
  have hA1 := HA0.out.below hB hz
  have c1 : w1.cell? ⟨w.heap.size, 1, none⟩ = some (.string e) := hA1.cell 1
  have HB1 := Lib.hid (HB0.out.trans (hB.mono (Nat.le_of_lt hz)))
  clear hA1 hB HF
  rcases hb with ⟨rfl, S, u, hT, rfl⟩ | ⟨rfl, hno, rfl⟩
  · have hes : e.size ≤ 24 := by rw [hT.2.1, strOf_size]; exact hT.2.2.2.sh u hT.2.2.1
    have hps : (txt (preT S S.length [])).size = (preT S S.length []).length := txt_size _
    have hpl := preT_len0 hT.2.2.2.tre S.length [] hT.2.2.2.nil (by simp)
    have hls := hT.2.2.2.len
    by_cases hs : (preT S S.length []).length + e.size ≤ 24
    · have HOK : Hid (TreeWordOk ss e (txt (preT S S.length []) ++ e) true) := .inl ⟨rfl, S, u, hT, hs, rfl⟩
      have hsi : ¬ ((24 : Int) < ((preT S S.length []).length : Int) + (e.size : Int)) := by omega
      clear hT
      generalize (preT S S.length []).length = l at *
      generalize txt (preT S S.length []) = tx at *
      go_wp2
      go_ret2
      exact ⟨_, _, rfl, HOK.out, HB1.out⟩
    · have HOK : Hid (TreeWordOk ss e ⟨#[]⟩ false) := .inr ⟨rfl, fun _ => ⟨S, u, hT, hs⟩, rfl⟩
      have hsi : ((24 : Int) < ((preT S S.length []).length : Int) + (e.size : Int)) := by omega
      clear hT
      generalize (preT S S.length []).length = l at *
      generalize txt (preT S S.length []) = tx at *
      go_wp2
      go_ret2
      exact ⟨_, _, rfl, HOK.out, HB1.out⟩
  · have HOK : Hid (TreeWordOk ss e ⟨#[]⟩ false) := .inr ⟨rfl, fun h => absurd h hno, rfl⟩
    clear hno
    go_wp2
    go_ret2
    exact ⟨_, _, rfl, HOK.out, HB1.out⟩
set_option maxHeartbeats 2000000 in
theorem implWord_any (A : Option Addr) (n c : Nat) (ss : List ByteArray) (e : ByteArray) (w : World) (h : RS w A n ss) (hn : n ≤ 1048576) (hl : ∀ s ∈ ss, s.size ≤ 1048576) (hle : e.size ≤ 1048576) :
    Calls Tryd.prog 38 #[.agg #[.slice A n c, .string e]] w (TreeWordPost ss e w) := by
  have hB0 : RowKit.Below w.heap.size w (w.alloc (.cells #[.slice A n c, .string e] 25)) := (RowKit.Below.refl _ w).alloc (Nat.le_refl _) _
  have hA0 : Blk (w.alloc (.cells #[.slice A n c, .string e] 25)) w.heap.size 25 #[.slice A n c, .string e] := Blk.new w _ _
  have HF := Lib.hid (implWalk_any A n c ss e _ (h.below hB0) hn hl hle)
  have HB0 := Lib.hid hB0
  have HA0 := Lib.hid hA0
  have hz : w.heap.size < (w.alloc (.cells #[.slice A n c, .string e] 25)).heap.size := by simp
  clear h hB0 hl hA0
  go_enter Tryd.func38, Tryd.ntmps38
  go_wp2_with fail
  refine HF.out.mono ?_
  rintro e' w1 ⟨t, b, rfl, hb, hB⟩
  have hA1 := HA0.out.below hB hz
  have c1 : w1.cell? ⟨w.heap.size, 1, none⟩ = some (.string e) := hA1.cell 1
  have HA1 := Lib.hid hA1
  have HB1 := Lib.hid (HB0.out.trans (hB.mono (Nat.le_of_lt hz)))
  clear hA1 hB HF
  rcases hb with ⟨rfl, S, u, hT, rfl⟩ | ⟨rfl, hno, rfl⟩
  · have hes : e.size ≤ 24 := by rw [hT.2.1, strOf_size]; exact hT.2.2.2.sh u hT.2.2.1
    have hps : (txt (preT S S.length [])).size = (preT S S.length []).length := txt_size _
    have hpl := preT_len0 hT.2.2.2.tre S.length [] hT.2.2.2.nil (by simp)
    have hls := hT.2.2.2.len
    have hlz := HA1.out.lt
    have hww : wordB (txt (preT S S.length []) ++ e) = decide ((preT S S.length []).length + e.size ≤ 24) := by
      rw [hT.2.1, strOf_txt, txt_app]
      unfold wordB
      rw [txt_size, txt_list, List.all_map, List.length_append, txt_size]
      rw [(List.all_eq_true.2 fun c _ => isL_lt c : (preT S S.length [] ++ u.reverse).all (isL ∘ ltB) = true), Bool.true_and]
    have HIW := Lib.hid (isWord_any (txt (preT S S.length []) ++ e) (by rw [ByteArray.size_append, hps]; omega) w1)
    by_cases hs : (preT S S.length []).length + e.size ≤ 24
    · have HOK : Hid (TreeWordOk ss e (txt (preT S S.length []) ++ e) true) := .inl ⟨rfl, S, u, hT, hs, rfl⟩
      rw [hww, decide_eq_true hs] at HIW
      clear hT hww
      generalize (preT S S.length []).length = l at *
      generalize txt (preT S S.length []) = tx at *
      go_wp2_with fail
      refine HIW.out.mono ?_
      rintro e' w2 ⟨rfl, hb2⟩
      have c2 := ((HA1.out.below hb2 hlz).cell 1)
      simp only [List.getElem?_toArray] at c2
      have HB2 := Lib.hid (HB1.out.trans (hb2.mono (Nat.le_of_lt hlz)))
      clear hb2
      go_wp2
      go_ret2
      exact ⟨_, _, rfl, HOK.out, HB2.out⟩
    · have HOK : Hid (TreeWordOk ss e ⟨#[]⟩ false) := .inr ⟨rfl, fun _ => ⟨S, u, hT, hs⟩, rfl⟩
      rw [hww, decide_eq_false hs] at HIW
      clear hT hww
      generalize (preT S S.length []).length = l at *
      generalize txt (preT S S.length []) = tx at *
      go_wp2_with fail
      refine HIW.out.mono ?_
      rintro e' w2 ⟨rfl, hb2⟩
      have HB2 := Lib.hid (HB1.out.trans (hb2.mono (Nat.le_of_lt hlz)))
      clear hb2
      go_wp2
      go_ret2
      exact ⟨_, _, rfl, HOK.out, HB2.out⟩
  · have HOK : Hid (TreeWordOk ss e ⟨#[]⟩ false) := .inr ⟨rfl, fun h => absurd h hno, rfl⟩
    clear hno
    go_wp2
    go_ret2
    exact ⟨_, _, rfl, HOK.out, HB1.out⟩
end

end Go.Proofs.YtlfbocmcbkcfhaaDoor
