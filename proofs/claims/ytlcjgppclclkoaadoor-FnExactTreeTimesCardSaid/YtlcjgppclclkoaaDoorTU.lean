/-
  St.
-/
import Derived.Test.YtlcjgppclclkoaaDoorTT
namespace Go.Proofs.YtlcjgppclclkoaaDoor
set_option maxRecDepth 100000
set_option linter.unusedVariables false
set_option linter.unusedSimpArgs false
set_option linter.unusedSectionVars false

/-! The laws' own functions on trees: copies, sizes, equality. -/
section
open Go.RowKit

theorem own_down0 {w : World} {base base' size n : Nat} {e : TypeId} {v : Value} {xs : List Value} (h : w.ownsRow base e size v n xs) (hb : base' ≤ base) : w.ownsRow base' e size v n xs :=
  ⟨h.1, h.2.imp id fun ⟨g, cap, cur, e1, h1, r⟩ => ⟨g, cap, cur, e1, Nat.le_trans hb h1, r⟩⟩
/-- stores into two blocks of another type -/
theorem own_far4 {w : World} {base size n g g' : Nat} {e t t' : TypeId} {v : Value} {xs : List Value} {cs cs' : Array Value} (h : w.ownsRow base e size v n xs) (hg : Blk w g t cs) (hg' : Blk w g' t' cs') (hne : e ≠ t) (hne' : e ≠ t') (x y z u : Value) :
    ((((w.setCell ⟨g, 0, none⟩ x).setCell ⟨g, 1, none⟩ y).setCell ⟨g', 0, none⟩ z).setCell ⟨g', 1, none⟩ u).ownsRow base e size v n xs := by
  have n1 := own_blk_ne h hg hne
  have n2 := own_blk_ne h hg' hne'
  exact ownsRow_setCell_other (ownsRow_setCell_other (ownsRow_setCell_other (ownsRow_setCell_other h n1 x) n1 y) n2 z) n2 u

set_option maxHeartbeats 1000000 in
theorem toTree_any (A : Option Addr) (n c : Nat) (ss : List ByteArray) (s : ByteArray) (w : World) (h : RS w A n ss) (hn : n ≤ 1048576) :
    Calls Tryd.prog 25 #[.agg #[.slice A n c, .string s]] w fun e w' => ∃ B : Addr, e = .returned (.agg #[.slice (some B) n n, .string s]) ∧ w'.ownsRow w.heap.size 9 1 (.slice (some B) n n) n (svL ss) ∧ Below w.heap.size w w' := by
  have hB0 : Below w.heap.size w (((w.alloc (.cells #[.slice A n c, .string s] 36)).alloc (.cells #[.slice none 0 0, .string ⟨#[]⟩] 29)).alloc (.cells #[.slice none 0 0, .string ⟨#[]⟩] 29)) := (((Below.refl _ w).alloc (Nat.le_refl _) _).alloc (by simp) _).alloc (by simp; omega) _
  have hA0 : Blk (((w.alloc (.cells #[.slice A n c, .string s] 36)).alloc (.cells #[.slice none 0 0, .string ⟨#[]⟩] 29)).alloc (.cells #[.slice none 0 0, .string ⟨#[]⟩] 29)) w.heap.size 36 #[.slice A n c, .string s] := ((Blk.new w _ _).alloc _).alloc _
  have hA1 : Blk (((w.alloc (.cells #[.slice A n c, .string s] 36)).alloc (.cells #[.slice none 0 0, .string ⟨#[]⟩] 29)).alloc (.cells #[.slice none 0 0, .string ⟨#[]⟩] 29)) (w.heap.size + 1) 29 #[.slice none 0 0, .string ⟨#[]⟩] := by
    have := Blk.new (w.alloc (.cells #[.slice A n c, .string s] 36)) 29 #[.slice none 0 0, .string ⟨#[]⟩]
    rw [World.size_alloc] at this
    exact this.alloc _
  have hA2 : Blk (((w.alloc (.cells #[.slice A n c, .string s] 36)).alloc (.cells #[.slice none 0 0, .string ⟨#[]⟩] 29)).alloc (.cells #[.slice none 0 0, .string ⟨#[]⟩] 29)) (w.heap.size + 1 + 1) 29 #[.slice none 0 0, .string ⟨#[]⟩] := by
    have := Blk.new ((w.alloc (.cells #[.slice A n c, .string s] 36)).alloc (.cells #[.slice none 0 0, .string ⟨#[]⟩] 29)) 29 #[.slice none 0 0, .string ⟨#[]⟩]
    rw [World.size_alloc, World.size_alloc] at this
    exact this
  have hT := toStringS_any A n c ss _ (h.below hB0) hn
  have hsz : (((w.alloc (.cells #[.slice A n c, .string s] 36)).alloc (.cells #[.slice none 0 0, .string ⟨#[]⟩] 29)).alloc (.cells #[.slice none 0 0, .string ⟨#[]⟩] 29)).heap.size = w.heap.size + 1 + 1 + 1 := by simp
  rw [hsz] at hT
  have HT := Lib.hid hT
  have HB0 := Lib.hid hB0
  have HA0 := Lib.hid hA0
  have HA1 := Lib.hid hA1
  have HA2 := Lib.hid hA2
  clear hT hB0 hA0 hA1 hA2 hsz h
  go_enter Tryd.func25, Tryd.ntmps25
  go_wp2_with fail
  refine HT.out.mono ?_
  rintro e w1 ⟨B, rfl, hown, hb⟩
  have h0 := HA0.out.below hb (by omega)
  have h1 := HA1.out.below hb (by omega)
  have h2 := HA2.out.below hb (by omega)
  have hB1 := HB0.out.trans (hb.mono (by omega))
  have s1 : w1.cell? ⟨w.heap.size, 1, none⟩ = some (.string s) := h0.cell 1
  have f10 := h1.frozen 0
  have f11 := h1.frozen 1
  have f20 := h2.frozen 0
  have f21 := h2.frozen 1
  have c10 : w1.cell? ⟨w.heap.size + 1, 0, none⟩ = some (.slice none 0 0) := h1.cell 0
  have c11 : w1.cell? ⟨w.heap.size + 1, 1, none⟩ = some (.string ⟨#[]⟩) := h1.cell 1
  have c20 : w1.cell? ⟨w.heap.size + 1 + 1, 0, none⟩ = some (.slice none 0 0) := h2.cell 0
  have c21 : w1.cell? ⟨w.heap.size + 1 + 1, 1, none⟩ = some (.string ⟨#[]⟩) := h2.cell 1
  have l1 := h1.lt
  have l2 := h2.lt
  have HOWN := Lib.hid hown
  have HB1 := Lib.hid hB1
  have H1 := Lib.hid h1
  have H2 := Lib.hid h2
  clear h0 h1 h2 hB1 hown hb
  have HO := Lib.hid (own_far4 HOWN.out H2.out H1.out (by decide) (by decide) (.slice (some B) n n) (.string s) (.slice (some B) n n) (.string s))
  have HBF := Lib.hid ((((HB1.out.setCell (p := ⟨w.heap.size + 1 + 1, 0, none⟩) (by simp; omega) (.slice (some B) n n)).setCell (p := ⟨w.heap.size + 1 + 1, 1, none⟩) (by simp; omega) (.string s)).setCell (p := ⟨w.heap.size + 1, 0, none⟩) (by simp) (.slice (some B) n n)).setCell (p := ⟨w.heap.size + 1, 1, none⟩) (by simp) (.string s))
  go_wp2
  refine bodyPost_ret (v := .agg #[.slice (some B) n n, .string s]) (by simp [results, Tryd.results25, go_sem, l1, l2, c10, c11]) rfl ⟨B, rfl, own_down0 HO.out (by omega), HBF.out⟩

set_option maxHeartbeats 1000000 in
theorem eqTree_any (A B : Option Addr) (n m c d : Nat) (zs ys : List ByteArray) (s t : ByteArray) (w : World) (h : RS w A n zs) (h' : RS w B m ys) (hn : n ≤ 1048576) :
    Calls Tryd.prog 18 #[.agg #[.slice A n c, .string s], .agg #[.slice B m d, .string t]] w fun e w' => e = .returned (.bool (decide (zs = ys) && decide (s = t))) ∧ Below w.heap.size w w' := by
  have hB0 : Below w.heap.size w ((w.alloc (.cells #[.slice A n c, .string s] 29)).alloc (.cells #[.slice B m d, .string t] 29)) := ((Below.refl _ w).alloc (Nat.le_refl _) _).alloc (by simp) _
  have hA0 : Blk ((w.alloc (.cells #[.slice A n c, .string s] 29)).alloc (.cells #[.slice B m d, .string t] 29)) w.heap.size 29 #[.slice A n c, .string s] := (Blk.new w _ _).alloc _
  have hA1 : Blk ((w.alloc (.cells #[.slice A n c, .string s] 29)).alloc (.cells #[.slice B m d, .string t] 29)) (w.heap.size + 1) 29 #[.slice B m d, .string t] := by
    have := Blk.new (w.alloc (.cells #[.slice A n c, .string s] 29)) 29 #[.slice B m d, .string t]
    rwa [World.size_alloc] at this
  have hT := eqStringS_any A B n m c d zs ys _ (h.below hB0) (h'.below hB0) hn
  have hsz : ((w.alloc (.cells #[.slice A n c, .string s] 29)).alloc (.cells #[.slice B m d, .string t] 29)).heap.size = w.heap.size + 1 + 1 := by simp
  rw [hsz] at hT
  have HT := Lib.hid hT
  have HB0 := Lib.hid hB0
  have HA0 := Lib.hid hA0
  have HA1 := Lib.hid hA1
  clear hT hB0 hA0 hA1 hsz h h'
  generalize decide (zs = ys) = q at *
  have hst := beq_str s t
  generalize decide (s = t) = r at *
  go_enter Tryd.func18, Tryd.ntmps18
  go_wp2_with fail
  refine HT.out.mono ?_
  rintro e w1 ⟨rfl, hb⟩
  have h0 := HA0.out.below hb (by omega)
  have h1 := HA1.out.below hb (by omega)
  have hB1 := HB0.out.trans (hb.mono (by omega))
  have c0 : w1.cell? ⟨w.heap.size, 1, none⟩ = some (.string s) := h0.cell 1
  have c1 : w1.cell? ⟨w.heap.size + 1, 1, none⟩ = some (.string t) := h1.cell 1
  have HB1 := Lib.hid hB1
  clear h0 h1 hb hB1 HT HB0 HA0 HA1
  cases q with
  | false =>
    go_wp2
    go_ret
    exact ⟨rfl, HB1.out⟩
  | true =>
    cases r with
    | false =>
      go_wp2
      go_ret
      exact ⟨rfl, HB1.out⟩
    | true =>
      go_wp2
      go_ret
      exact ⟨rfl, HB1.out⟩

set_option maxHeartbeats 1000000 in
theorem szStringS_any (A : Option Addr) (n c : Nat) (left : Int) (ss : List ByteArray) (w : World) (h : RS w A n ss) (h0 : 0 ≤ left) (h1 : left ≤ 1048576) (hn : n ≤ maxLen) (hl : ∀ s ∈ ss, s.size ≤ maxLen) :
    Calls Tryd.prog 54 #[.slice A n c, .int .i64 left] w fun e w' => ∃ r : Int, e = .returned (.int .i64 r) ∧ -1 ≤ r ∧ r ≤ left ∧ (0 ≤ r → (n : Int) ≤ left ∧ ∀ s ∈ ss, (s.size : Int) ≤ left) ∧ w = w' := by
  have HNL := Lib.hid h.len
  unfold maxLen at hn hl
  by_cases hc : left - (n : Int) < 0
  · go_enter Tryd.func54, Tryd.ntmps54
    go_wp2
    go_ret
    exact ⟨-1, rfl, by omega, by omega, fun h => by omega, rfl⟩
  have HN := Lib.hid hl
  clear hl
  go_enter Tryd.func54, Tryd.ntmps54
  go_wp2
  go_loop [1, 5] (fun q i => ∃ (t : Nat) (x : Int), t ≤ n ∧ i = .int .i64 t ∧ q = .int .i64 x ∧ 0 ≤ x ∧ x ≤ left ∧ Hid (∀ s ∈ ss.take t, (s.size : Int) ≤ left)) (fun _ i => n - (intOf i).toNat)
  case atStart => exact ⟨0, left - n, Nat.zero_le _, rfl, by go_num, by omega, by omega, Lib.hid (by simp)⟩
  case round =>
    obtain ⟨t, x, ht, rfl, rfl, hx0, hx1, HX⟩ := hrel
    by_cases hlt : t < n
    · obtain ⟨ad, s, rfl, hab, hs, hcell⟩ := h.at_ hlt
      have hsz := HN.out s (List.mem_of_getElem? hs)
      have HS := Lib.hid hs
      clear hs h
      by_cases hb : x - (s.size : Int) < 0
      · go_wp2
        go_ret
        exact ⟨-1, rfl, by omega, by omega, fun h => by omega, rfl⟩
      · have HX2 : Hid (∀ s' ∈ ss.take (t + 1), (s'.size : Int) ≤ left) := fun s' hs' => by
          rw [take_str ss HS.out] at hs'
          rcases List.mem_append.1 hs' with h' | h'
          · exact HX.out s' h'
          · rw [List.mem_singleton.1 h']; omega
        go_wp2
        go_round
        case rel => exact ⟨t + 1, x - s.size, by omega, by go_num, by go_num, by omega, by omega, HX2⟩
        case measure => simp [intOf]; omega
    · obtain rfl : t = n := by omega
      have HX2 : Hid (∀ s' ∈ ss, (s'.size : Int) ≤ left) := fun s' hs' => HX.out s' (by rw [List.take_of_length_le (by have := HNL.out; omega)]; exact hs')
      clear h
      go_wp2
      go_ret
      exact ⟨x, rfl, by omega, hx1, fun _ => ⟨by omega, HX2.out⟩, rfl⟩
set_option maxHeartbeats 1000000 in
theorem szTree_any (A : Option Addr) (n c : Nat) (left : Int) (ss : List ByteArray) (s : ByteArray) (w : World) (h : RS w A n ss) (h0 : 0 ≤ left) (h1 : left ≤ 1048576) (hn : n ≤ maxLen) (hl : ∀ s ∈ ss, s.size ≤ maxLen) (hs : s.size ≤ maxLen) :
    Calls Tryd.prog 23 #[.agg #[.slice A n c, .string s], .int .i64 left] w fun e w' => ∃ r : Int, e = .returned (.int .i64 r) ∧ -1 ≤ r ∧ r ≤ left ∧ (0 ≤ r → (n : Int) ≤ left ∧ (s.size : Int) ≤ left ∧ ∀ s ∈ ss, (s.size : Int) ≤ left) ∧ Below w.heap.size w w' := by
  have hB0 : Below w.heap.size w (w.alloc (.cells #[.slice A n c, .string s] 36)) := (Below.refl _ w).alloc (Nat.le_refl _) _
  have hA0 : Blk (w.alloc (.cells #[.slice A n c, .string s] 36)) w.heap.size 36 #[.slice A n c, .string s] := Blk.new w _ _
  have HT := Lib.hid (szStringS_any A n c left ss _ (h.below hB0) h0 h1 hn hl)
  have HB0 := Lib.hid hB0
  have c1 := hA0.cell 1
  simp only [List.getElem?_toArray] at c1
  unfold maxLen at hn hs
  clear hB0 hA0 h hl
  go_enter Tryd.func23, Tryd.ntmps23
  go_wp2_with fail
  refine HT.out.mono ?_
  rintro e w1 ⟨r, rfl, hr0, hr1, hr2, rfl⟩
  have HR := Lib.hid hr2
  clear hr2 HT
  by_cases hb : r < 0
  · go_wp2
    go_ret
    exact ⟨-1, rfl, by omega, by omega, fun h => by omega, HB0.out⟩
  · by_cases hb2 : r - (s.size : Int) < 0
    · go_wp2
      go_ret
      exact ⟨-1, rfl, by omega, by omega, fun h => by omega, HB0.out⟩
    · go_wp2
      go_ret
      exact ⟨r - s.size, by go_num, by omega, by omega, fun _ => ⟨(HR.out (by omega)).1, by omega, (HR.out (by omega)).2⟩, HB0.out⟩
end

end Go.Proofs.YtlcjgppclclkoaaDoor
