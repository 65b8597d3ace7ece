/-
  Ab.
-/
import Derived.Test.YtkfiehndlgplgaaGreatDoorNV
import Derived.Test.YtkfiehndlgplgaaGreatDoorPB
namespace Go.Proofs.YtkfiehndlgplgaaGreatDoor
set_option maxRecDepth 100000
set_option linter.unusedVariables false
set_option linter.unusedSimpArgs false
set_option linter.unusedSectionVars false

/-! Arrows of 9 cells in rows: their cells, of one and of many; impl.arrowsOf. -/
section
open Go.RowKit Go.Maps

/-- the cells of an arrow, of arrows -/
def c9 (n : Nat) (L : List Int) : List Value := [.int .i64 (n : Int), .int .i64 (ofL L 0), .int .i64 (ofL L 1), .int .i64 (ofL L 2), .int .i64 (ofL L 3), .int .i64 (ofL L 4), .int .i64 (ofL L 5), .int .i64 (doN L : Nat), .int .i64 (raN L : Nat)]
def awc (n : Nat) (Ls : List (List Int)) : List Value := Ls.flatMap (c9 n)
theorem awc_append (n : Nat) (Ls Ms : List (List Int)) : awc n (Ls ++ Ms) = awc n Ls ++ awc n Ms := by unfold awc; simp
theorem awc_one_ (n : Nat) (L : List Int) : awc n [L] = c9 n L := by unfold awc; simp
theorem awc_len (n : Nat) (Ls : List (List Int)) : (awc n Ls).length = Ls.length * 9 := by
  induction Ls with
  | nil => rfl
  | cons L Ls ih => unfold awc at ih ⊢; rw [List.flatMap_cons, List.length_append, ih, List.length_cons]; simp [c9]; omega
theorem c9_one (n : Nat) (L : List Int) : ∀ u ∈ c9 n L, u.oneCell' = true := fun u h => by
  simp only [c9, List.mem_cons, List.not_mem_nil, or_false] at h
  rcases h with rfl | rfl | rfl | rfl | rfl | rfl | rfl | rfl | rfl <;> rfl
theorem awc_get (n : Nat) : ∀ (Ls : List (List Int)) (t : Nat) (L : List Int), Ls[t]? = some L → ∀ j, j < 9 → (awc n Ls)[t * 9 + j]? = (c9 n L)[j]?
  | [], t, L, h, j, hj => by simp at h
  | M :: Ls, 0, L, h, j, hj => by
    simp at h; subst h
    unfold awc; rw [List.flatMap_cons, List.getElem?_append_left (by simp [c9]; omega)]; simp
  | M :: Ls, t + 1, L, h, j, hj => by
    have ih := awc_get n Ls t L (by simpa using h) j hj
    unfold awc at ih ⊢
    rw [List.flatMap_cons, List.getElem?_append_right (by simp [c9]; omega), ← ih]
    congr 1; simp [c9]; omega
theorem cells9 (w : World) (t : TypeId) (a b c d e f g h i : Value) : ∀ j u, [a, b, c, d, e, f, g, h, i][j]? = some u → (w.alloc (.cells #[a, b, c, d, e, f, g, h, i] t)).cell? ((⟨w.heap.size, 0, none⟩ : Addr).add j) = some u := fun j u hu => by
  have hadd : (⟨w.heap.size, 0, none⟩ : Addr).add j = ⟨w.heap.size, j, none⟩ := by unfold Addr.add; split <;> simp_all
  rw [hadd]
  rw [(Blk.new w t _).cell j]
  simpa using hu
/-- block g holds the arrows ls -/
def Ars (W : World) (g m : Nat) (ls : List (List Int)) : Prop := ∀ t L, ls[t]? = some L → ∀ j u, (c9 m L)[j]? = some u → W.cell? ⟨g, t * 9 + j, none⟩ = some u
theorem Ars.of_own {W : World} {g m n cp lo : Nat} {ls : List (List Int)} (h : W.ownsRow lo 142 9 (.slice (some ⟨g, 0, none⟩) n cp) ls.length (awc m ls)) : Ars W g m ls := fun t L hL j u hu => by
  have ea : ∀ j, (⟨g, 0, none⟩ : Addr).add j = ⟨g, j, none⟩ := fun j => by unfold Addr.add; split <;> simp_all
  have hj : j < 9 := by
    rcases Nat.lt_or_ge j 9 with h | h
    · exact h
    · rw [List.getElem?_eq_none (by simp [c9]; omega)] at hu; cases hu
  rw [← ea]
  exact h.cells rfl _ _ ((awc_get m ls t L hL j hj).trans hu)
theorem Ars.same {W W' : World} {g m : Nat} {ls : List (List Int)} (h : Ars W g m ls) (hs : W'.heap[g]? = W.heap[g]?) : Ars W' g m ls := fun t L hL j u hu => (World.cell?_of_block hs).trans (h t L hL j u hu)
theorem Ars.all {W : World} {g m t : Nat} {ls : List (List Int)} {L : List Int} (h : Ars W g m ls) (hL : ls[t]? = some L) :
    W.cell? ⟨g, t * 9, none⟩ = some (.int .i64 (m : Int)) ∧ W.cell? ⟨g, t * 9 + 1, none⟩ = some (.int .i64 (ofL L 0)) ∧ W.cell? ⟨g, t * 9 + 2, none⟩ = some (.int .i64 (ofL L 1)) ∧ W.cell? ⟨g, t * 9 + 3, none⟩ = some (.int .i64 (ofL L 2)) ∧
    W.cell? ⟨g, t * 9 + 4, none⟩ = some (.int .i64 (ofL L 3)) ∧ W.cell? ⟨g, t * 9 + 5, none⟩ = some (.int .i64 (ofL L 4)) ∧ W.cell? ⟨g, t * 9 + 6, none⟩ = some (.int .i64 (ofL L 5)) ∧ W.cell? ⟨g, t * 9 + 7, none⟩ = some (.int .i64 (doN L : Nat)) ∧ W.cell? ⟨g, t * 9 + 8, none⟩ = some (.int .i64 (raN L : Nat)) :=
  ⟨h t L hL 0 _ rfl, h t L hL 1 _ rfl, h t L hL 2 _ rfl, h t L hL 3 _ rfl, h t L hL 4 _ rfl, h t L hL 5 _ rfl, h t L hL 6 _ rfl, h t L hL 7 _ rfl, h t L hL 8 _ rfl⟩
theorem info_arrow : (Tryz.prog.info? 142).map (fun i => (i.zero, i.size, i.bytes)) = some (some (.agg #[.int .i64 ((0 : Int)), .int .i64 ((fun _ => (0 : Int)) 0), .int .i64 ((fun _ => (0 : Int)) 1), .int .i64 ((fun _ => (0 : Int)) 2), .int .i64 ((fun _ => (0 : Int)) 3), .int .i64 ((fun _ => (0 : Int)) 4), .int .i64 ((fun _ => (0 : Int)) 5), .int .i64 ((0 : Int)), .int .i64 ((0 : Int))]), 9, 72) := by kernel_rfl
theorem cell_9_new (W : World) (n : Nat) (L : List Int) : ∀ (j : Nat) (x : Value), (c9 n L)[j]? = some x → (W.alloc (.cells #[.int .i64 ((n : Int)), .int .i64 (ofL L 0), .int .i64 (ofL L 1), .int .i64 (ofL L 2), .int .i64 (ofL L 3), .int .i64 (ofL L 4), .int .i64 (ofL L 5), .int .i64 ((doN L : Nat)), .int .i64 ((raN L : Nat))] 142)).cell? ((⟨W.heap.size, 0, none⟩ : Addr).add j) = some x := cells9 W _ _ _ _ _ _ _ _ _ _
theorem c9_of {m : Nat} {L : List Int} (hL : isC L = true) (hm : L.length = m) : domL (mv (ofL L) m) = doN L ∧ imN m (ofL L) = raN L := by
  subst hm
  refine ⟨?_, ?_⟩
  · unfold doN; rw [fk_yes hL, fT_ofL hL]
  · unfold imN raN; rw [fk_yes hL, fT_ofL hL]
theorem arrowOf_c (m : Nat) (L : List Int) (hL : isC L = true) (hm : L.length = m) (w : World) :
    Calls Tryz.prog 130 #[.agg #[.int .i64 ((m : Int)), .int .i64 (ofL L 0), .int .i64 (ofL L 1), .int .i64 (ofL L 2), .int .i64 (ofL L 3), .int .i64 (ofL L 4), .int .i64 (ofL L 5)]] w fun e w' => e = .returned (.agg #[.int .i64 ((m : Int)), .int .i64 (ofL L 0), .int .i64 (ofL L 1), .int .i64 (ofL L 2), .int .i64 (ofL L 3), .int .i64 (ofL L 4), .int .i64 (ofL L 5), .int .i64 ((doN L : Nat)), .int .i64 ((raN L : Nat))]) ∧ Below w.heap.size w w' := by
  have h6 : m ≤ 6 := by have := (isC_len hL).2; omega
  have hOk : Ok m (ofL L) := by subst hm; exact isC_Ok hL
  have h := arrowOf_any m h6 (ofL L) hOk w
  rw [(c9_of hL hm).1, (c9_of hL hm).2] at h
  exact h

set_option maxHeartbeats 2000000 in
theorem arrowsOf_any {H : Type} (b m n : Nat) (zs : List (List Int)) (hn : zs.length = n) (hn6 : n ≤ 1048576) (hz : ∀ L ∈ zs, isC L = true ∧ L.length = m) (hs : Srt zs) (w : World)
    (hown : w.ownsMap Tryz.prog 58 (plainElem (H := H) Tryz.prog 3) b n (mapP klL zs n)) :
    Calls Tryz.prog 99 #[.map (some b)] w fun e w' => ∃ v, e = .returned v ∧ w'.ownsRow w.heap.size 142 9 v zs.length (awc m zs) ∧ Below w.heap.size w w' := by
  obtain ⟨i1, hj, hj0, hj1, hj2⟩ := info_parts info_arrow
  have hch := charts_any b m n zs hn hn6 hz hs w hown
  have HN := Lib.hid hn
  have HZ := Lib.hid hz
  clear hz hs hown hn
  go_enter Tryz.func99, Tryz.ntmps99
  go_wp2_with fail
  refine hch.mono ?_
  rintro e w1 ⟨G, rfl, hrow, hb1⟩
  have hC1 : Chs w1 G m zs := Chs.of_own (by rw [HN.out]; exact hrow)
  have hG := (hrow.lt G rfl).2
  have HG1 : Hid (G < w1.heap.size) := hG
  clear hch hrow
  go_wp2
  go_loopw [3, 5, 9] (fun v _ i wr => ∃ k : Nat, k ≤ n ∧ i = .int .i64 (k : Int) ∧ wr.ownsRow w1.heap.size 142 9 v (zs.take k).length (awc m (zs.take k)) ∧ Chs wr G m zs ∧ G < wr.heap.size ∧ Below w.heap.size w wr ∧ w1.heap.size ≤ wr.heap.size) (fun _ _ i _ => n - (intOf i).toNat)
  case atStart => exact ⟨0, Nat.zero_le _, rfl, World.ownsRow_nil _ _ _ _, hC1, hG, hb1, Nat.le_refl _⟩
  case round =>
    clear hC1 hG
    obtain ⟨k, hk, rfl, hown, hC, hG, hB, hs1⟩ := hrel
    by_cases hlt : k < n
    · have hkl : k < zs.length := by have := HN.out; omega
      obtain ⟨L, hL⟩ : ∃ L, zs[k]? = some L := ⟨_, List.getElem?_eq_getElem hkl⟩
      obtain ⟨c0, c1, c2, c3, c4, c5, c6⟩ := hC.all hL
      have hB1 := hB.alloc hB.size (.cells #[.int .i64 ((m : Int)), .int .i64 (ofL L 0), .int .i64 (ofL L 1), .int .i64 (ofL L 2), .int .i64 (ofL L 3), .int .i64 (ofL L 4), .int .i64 (ofL L 5)] 58)
      have hLz := HZ.out L (List.mem_of_getElem? hL)
      have hcall := arrowOf_c m L hLz.1 hLz.2 (wr.alloc (.cells #[.int .i64 ((m : Int)), .int .i64 (ofL L 0), .int .i64 (ofL L 1), .int .i64 (ofL L 2), .int .i64 (ofL L 3), .int .i64 (ofL L 4), .int .i64 (ofL L 5)] 58))
      have hown1 := hown.alloc (.cells #[.int .i64 ((m : Int)), .int .i64 (ofL L 0), .int .i64 (ofL L 1), .int .i64 (ofL L 2), .int .i64 (ofL L 3), .int .i64 (ofL L 4), .int .i64 (ofL L 5)] 58)
      have hC2 := hC.same (Below.heap_alloc wr (.cells #[.int .i64 ((m : Int)), .int .i64 (ofL L 0), .int .i64 (ofL L 1), .int .i64 (ofL L 2), .int .i64 (ofL L 3), .int .i64 (ofL L 4), .int .i64 (ofL L 5)] 58) G hG)
      have hG2 : G < (wr.alloc (.cells #[.int .i64 ((m : Int)), .int .i64 (ofL L 0), .int .i64 (ofL L 1), .int .i64 (ofL L 2), .int .i64 (ofL L 3), .int .i64 (ofL L 4), .int .i64 (ofL L 5)] 58)).heap.size := by simp; omega
      have hs2 : w1.heap.size ≤ (wr.alloc (.cells #[.int .i64 ((m : Int)), .int .i64 (ofL L 0), .int .i64 (ofL L 1), .int .i64 (ofL L 2), .int .i64 (ofL L 3), .int .i64 (ofL L 4), .int .i64 (ofL L 5)] 58)).heap.size := by simp; omega
      have HT : Hid (zs.take (k + 1) = zs.take k ++ [L]) := by show _ = _; rw [List.take_add_one, hL]; rfl
      clear hown hC hL hLz
      go_wp2_with fail
      refine hcall.mono ?_
      rintro e w2 ⟨rfl, hb2⟩
      have hown2 := own_below hown1 hb2
      have hC3 := hC2.same (hb2.block G hG2)
      have hG3 : G < w2.heap.size := by have := hb2.size; omega
      have hs3 : w1.heap.size ≤ w2.heap.size := by have := hb2.size; omega
      have hB2 := hB1.trans (hb2.mono hB1.size)
      clear hown1 hC2 hG2 hs2 hb2 hB1 hcall
      have hfl : (zs.take k).length ≤ k := by rw [List.length_take]; omega
      have p1 : (zs.take k).length + 1 ≤ maxLen := by unfold maxLen; omega
      have p2 : ((zs.take k).length + 1) * 72 ≤ 140737488355328 := by omega
      have hrow2 := hown2.alloc (.cells #[.int .i64 ((m : Int)), .int .i64 (ofL L 0), .int .i64 (ofL L 1), .int .i64 (ofL L 2), .int .i64 (ofL L 3), .int .i64 (ofL L 4), .int .i64 (ofL L 5), .int .i64 ((doN L : Nat)), .int .i64 ((raN L : Nat))] 142)
      have hcl := cell_9_new w2 m L
      have p3 : w1.heap.size ≤ (w2.alloc (.cells #[.int .i64 ((m : Int)), .int .i64 (ofL L 0), .int .i64 (ofL L 1), .int .i64 (ofL L 2), .int .i64 (ofL L 3), .int .i64 (ofL L 4), .int .i64 (ofL L 5), .int .i64 ((doN L : Nat)), .int .i64 ((raN L : Nat))] 142)).heap.size := by simp; omega
      have hbg := Below.heap_alloc w2 (.cells #[.int .i64 ((m : Int)), .int .i64 (ofL L 0), .int .i64 (ofL L 1), .int .i64 (ofL L 2), .int .i64 (ofL L 3), .int .i64 (ofL L 4), .int .i64 (ofL L 5), .int .i64 ((doN L : Nat)), .int .i64 ((raN L : Nat))] 142) G hG3
      have hB3 := hB2.alloc hB2.size (.cells #[.int .i64 ((m : Int)), .int .i64 (ofL L 0), .int .i64 (ofL L 1), .int .i64 (ofL L 2), .int .i64 (ofL L 3), .int .i64 (ofL L 4), .int .i64 (ofL L 5), .int .i64 ((doN L : Nat)), .int .i64 ((raN L : Nat))] 142)
      have hws := hb1.size
      generalize zs.take k = Ls at *
      clear hkl hown2 hB2
      go_wp2_with (at_builtin; refine wpList_append_own _ rfl _ _ 115 rfl w1.heap.size 142 i1 (.agg #[.int .i64 ((0 : Int)), .int .i64 ((fun _ => (0 : Int)) 0), .int .i64 ((fun _ => (0 : Int)) 1), .int .i64 ((fun _ => (0 : Int)) 2), .int .i64 ((fun _ => (0 : Int)) 3), .int .i64 ((fun _ => (0 : Int)) 4), .int .i64 ((fun _ => (0 : Int)) 5), .int .i64 ((0 : Int)), .int .i64 ((0 : Int))]) 9 72 Tryz.underlying115 hj hj0 hj1 hj2 rfl (by decide) _ _ _ rfl hrow2 ⟨w2.heap.size, 0, none⟩ 1 1 (c9 m L) rfl rfl hcl (c9_one _ _) p1 p2 p3 ?_; intro v' w4 hown' hgrow _)
      have hC4 : Chs w4 G m zs := hC3.same ((hgrow.block G (by simp; omega) (fun e => by have := (hrow2.lt G e.symm).1; have := HG1.out; omega)).trans hbg)
      have hgs := hgrow.size
      go_roundw
      case rel => exact ⟨k + 1, by omega, by go_num, by rw [HT.out, List.length_append, awc_append, awc_one_]; exact hown', hC4, by simp at hgs; omega, hB3.grown hgrow (by simp; omega) (fun g e => by have := (hrow2.lt g e).1; omega), by simp at hgs; omega⟩
      case measure => simp [intOf]; omega
    · obtain rfl : k = n := by omega
      have e : zs.take k = zs := List.take_of_length_le (by have := HN.out; omega)
      rw [e] at hown
      go_wp2
      go_ret
      exact ⟨_, rfl, own_base hown hb1.size, hB⟩
theorem arrowsOf_none (w : World) : Calls Tryz.prog 99 #[.map none] w fun e w' => e = .returned (.slice none 0 0) ∧ Below w.heap.size w w' := by
  have hch := charts_none w
  go_enter Tryz.func99, Tryz.ntmps99
  go_wp2_with fail
  refine hch.mono ?_
  rintro e w1 ⟨G, rfl, hb1⟩
  go_wp2
  refine wp_loop_rounds 1 ?_
  rw [rounds_succ]
  go_wp2
  go_ret
  exact ⟨rfl, hb1⟩
end

end Go.Proofs.YtkfiehndlgplgaaGreatDoor
