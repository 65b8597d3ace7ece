/-
  Lst.
-/
import Derived.Laws.IdiomRangeMap
import Derived.Test.YtkfiehndlgplgaaGreatDoorNS
namespace Go.Proofs.YtkfiehndlgplgaaGreatDoor
set_option maxRecDepth 100000
set_option linter.unusedVariables false
set_option linter.unusedSimpArgs false
set_option linter.unusedSectionVars false

/-! impl.listsOf; (impl.semigroup).charts, part, idems of the nil map; how long parts of a semigroup are. -/
section
open Go.RowKit Go.Maps

theorem sub_le {zs ls : List (List Int)} (h : sgS zs = true) (hl : ls.length ≤ zs.length) (hm : ∀ L ∈ ls, L ∈ zs) : ls.length ≤ 400 ∧ totL ls ≤ 2400 ∧ ∀ L ∈ ls, L.length ≤ 1048576 := by
  have S := sgS_iff.1 h
  have h6 : ∀ L ∈ ls, L.length ≤ 6 := fun L hL => (isC_len (S.ch L (hm L hL)).1).2
  have h4 := S.most
  exact ⟨by omega, Nat.le_trans (totL_bound (show ls.length ≤ 400 by omega) h6) (by decide), fun L hL => by have := h6 L hL; omega⟩
theorem nil_le : ([] : List (List Int)).length ≤ 400 ∧ totL [] ≤ 2400 ∧ ∀ L ∈ ([] : List (List Int)), L.length ≤ 1048576 := ⟨by simp, by decide, fun L h => by cases h⟩
theorem idL_le (zs : List (List Int)) : (idL zs).length ≤ 400 ∧ totL (idL zs) ≤ 2400 ∧ ∀ L ∈ idL zs, L.length ≤ 1048576 := by
  unfold idL
  split
  · rename_i h; exact sub_le h (List.length_filter_le _ _) (fun L hL => (List.mem_filter.1 hL).1)
  · exact nil_le
theorem oss_nil (w : World) (lo hi : Nat) : OSS w lo hi (.slice none 0 0) [] := ⟨[], World.ownsRow_nil _ _ _ _, (fun g hg => by cases hg), Inn.nil⟩

theorem below_of_drewN {W W1 : World} (h : ∃ q, W1 = W.drewN q) : Below W.heap.size W W1 := by
  obtain ⟨q, rfl⟩ := h
  exact below_drewN (Below.refl _ _) q

set_option maxHeartbeats 2000000 in
theorem listsOf_any (m lo : Nat) (v : Value) (Ls : List (List Int)) (hLs : ∀ L ∈ Ls, isC L = true ∧ L.length = m) (hq : Ls.length ≤ 1048576) (w : World) (hown : w.ownsRow lo 58 7 v Ls.length (cwc m Ls)) :
    Calls Tryz.prog 58 #[v] w fun e w' => ∃ v', e = .returned v' ∧ OSS w' w.heap.size w'.heap.size v' Ls ∧ Below w.heap.size w w' := by
  obtain ⟨i1, hj, hj0, hj1, hj2⟩ := info_parts info_partsS
  obtain ⟨A, cp, rfl⟩ := own_shape hown
  have HZ := Lib.hid hLs
  have HOW := Lib.hid hown
  clear hLs hown
  go_enter Tryz.func58, Tryz.ntmps58
  go_wp2
  go_loopw [3, 8] (fun v i wr => ∃ t : Nat, t ≤ Ls.length ∧ i = .int .i64 (t : Int) ∧ OSS wr w.heap.size wr.heap.size v (Ls.take t) ∧ Below w.heap.size w wr) (fun _ i _ => Ls.length - (intOf i).toNat)
  case atStart => exact ⟨0, Nat.zero_le _, rfl, oss_nil _ _ _, Below.refl _ _⟩
  case round =>
    obtain ⟨t, ht, rfl, hO, hbr⟩ := hrel
    by_cases hlt : t < Ls.length
    · obtain ⟨L, hL⟩ : ∃ L, Ls[t]? = some L := ⟨_, List.getElem?_eq_getElem hlt⟩
      have hLz := HZ.out L (List.mem_of_getElem? hL)
      have hr1 := own_below HOW.out hbr
      obtain ⟨g1, cp1, hv, _, hg1⟩ := hr1.form (by omega)
      injection hv with hv1 _ hv3
      subst hv1
      have hC1 : Chs wr g1 m Ls := Chs.of_own hr1
      obtain ⟨c0, c1, c2, c3, c4, c5, c6⟩ := hC1.all hL
      have hm6 : m ≤ 6 := by have := (isC_len hLz.1).2; omega
      have HLL : Hid (L.length = m) := hLz.2
      have HT : Hid (Ls.take (t + 1) = Ls.take t ++ [L]) := by show _ = _; rw [List.take_add_one, hL]; rfl
      have HTL : Hid ((Ls.take t).length = t) := by show _ = _; rw [List.length_take]; omega
      have hsb := hbr.size
      clear hL hLz hr1 hC1 hv3
      go_wp2_with fail
      refine (list_any m hm6 (ofL L) _).mono ?_
      rintro e w3 ⟨B, rfl, hown, hb3⟩
      have hbw : Below wr.heap.size wr w3 := ((Below.refl _ wr).alloc (Nat.le_refl _) _).trans (hb3.mono (by simp))
      have hlt' : LT m (ofL L) = L := by rw [← HLL.out]; exact LT_ofL rfl
      rw [hlt', World.size_alloc] at hown
      have hown2 : w3.ownsRow (wr.heap.size + 1) 3 1 (.slice (some B) m m) L.length (ivs L) := by rw [HLL.out]; exact hown
      obtain ⟨vs, hrow0, hvb, hinn0⟩ := hO
      have hrow3 := own_below hrow0 hbw
      have hinn3 := (hinn0.below hbw).more (Nat.le_refl _) hbw.size
      have hu : OI w3 w.heap.size w3.heap.size (.slice (some B) m m) L := OI.of (own_base hown2 (by omega))
      have hap : ∀ (i : Nat) (u' : Value), vs[i]? = some u' → ∀ q : Nat, u'.ownBlock = some q → (Value.slice (some B) m m).ownBlock = some q → False := fun i u' hi q e1 e2 => by
        have h1 := hinn0.lt hi e1
        have h2 := hown.lt q e2
        omega
      have hbr3 : Below w.heap.size w w3 := hbr.trans (hbw.mono hbr.size)
      have p1 : (Ls.take t).length + 1 ≤ maxLen := by rw [HTL.out]; unfold maxLen; omega
      have p2 : ((Ls.take t).length + 1) * 24 ≤ 140737488355328 := by rw [HTL.out]; omega
      have p3 : ∀ o : Obj, w.heap.size ≤ (w3.alloc o).heap.size := fun o => by have := hbr3.size; simp; omega
      clear hinn0 hrow0 hown hown2 hb3 hbw c0 c1 c2 c3 c4 c5 c6 hlt'
      go_wp2_with (at_builtin; refine wpList_append_own _ rfl _ _ 23 rfl w.heap.size 24 i1 (.slice none 0 0) 1 24 Tryz.underlying23 hj hj0 hj1 hj2 rfl (by decide) _ _ _ rfl (hrow3.alloc _) ⟨w3.heap.size, 0, none⟩ 1 1 [.slice (some B) m m] rfl rfl (cell_one_new _ _ _) (by simp [Value.oneCell']) p1 p2 (p3 _) ?_; intro v' w4 hown' hgrow _; have hO4 := OSS.app hrow3 hinn3 hu hap hown' hgrow; have hB4 := below_app hbr3 hrow3 (Nat.le_refl _) hgrow; clear hown' hgrow hrow3 hinn3 hu hap)
      go_roundw
      case rel => exact ⟨t + 1, by omega, by go_num, by rw [HT.out]; exact hO4, hB4⟩
      case measure => simp [intOf]; omega
    · have HE : Hid (Ls.take t = Ls) := List.take_of_length_le (by omega)
      obtain rfl : t = Ls.length := by omega
      go_wp2
      go_ret
      exact ⟨_, rfl, by rw [HE.out] at hO; exact hO, hbr⟩
set_option maxHeartbeats 1000000 in
theorem charts_none (w : World) :
    Calls Tryz.prog 82 #[.map none] w fun e w' => ∃ G, e = .returned (.slice (some ⟨G, 0, none⟩) 0 0) ∧ Below w.heap.size w w' := by
  obtain ⟨i1, hj, hj0, hj1, hj2⟩ := info_parts info_chart7
  have hlen : ∀ ty, (Builtin.len_ #[48] ty #[.map none]).run Tryz.prog w = .ok (.int .i64 0) w := fun ty => Maps.len_nil Tryz.underlying48 ty
  have hb8 : i1.bytes * 0 ≤ 281474976710656 := by omega
  have hrgW : ∀ W : World, (Instr.range 48 (.map none)).run Tryz.prog W = _ := fun W => run_range_nilMap (P := Tryz.prog) W 48 58 3 Tryz.underlying48
  have HNX : Hid (∀ (W : World) ty, (Instr.next (.pointer (some ⟨W.heap.size, 0, none⟩)) false ty).run Tryz.prog (W.alloc (.mapIter none 0 #[] 0)) = _) := fun W ty => run_next_nilMap (P := Tryz.prog) W ty 0 0 #[]
  go_enter Tryz.func82, Tryz.ntmps82
  go_wp2_with (first
    | (at_make; refine wpList_make_full _ rfl _ _ _ rfl w.heap.size 58 i1 _ 7 Tryz.underlying65 hj hj0 hj1 _ _ _ _ 0 rfl rfl rfl rfl hb8 (by unfold maxLen; omega) (Nat.le_refl _) ?_; intro w1 hrow hg; have hrg := hrgW w1; have hnx := HNX.out w1)
    | go_in)
  refine wp_loop_rounds 1 ?_
  rw [rounds_succ]
  go_wp2
  go_ret
  exact ⟨_, rfl, ((Below.refl _ _).grown hg (Nat.le_refl _) (fun k e => by cases e)).alloc (by have := hg.size; exact this) _⟩
set_option maxHeartbeats 1000000 in
theorem part_none (f : Value) (hf : f.oneCell' = true) (w : World) :
    Calls Tryz.prog 105 #[.map none, f] w fun e w' => e = .returned (.slice none 0 0) ∧ Below w.heap.size w w' := by
  have hch := charts_none w
  go_enter Tryz.func105, Tryz.ntmps105
  go_wp2_with fail
  refine hch.mono ?_
  rintro e w1 ⟨G, rfl, hb1⟩
  go_wp2
  refine wp_loop_rounds 1 ?_
  rw [rounds_succ]
  go_wp2
  go_ret
  exact ⟨rfl, hb1⟩
theorem idems_none (w : World) : Calls Tryz.prog 60 #[.map none] w fun e w' => e = .returned (.slice none 0 0) ∧ Below w.heap.size w w' := by
  have hpt := part_none (.func (.func 57) #[] #[]) rfl w
  go_enter Tryz.func60, Tryz.ntmps60
  go_wp2_with fail
  refine hpt.mono ?_
  rintro e w1 ⟨rfl, hb⟩
  go_wp2
  go_ret
  exact ⟨rfl, hb⟩
set_option maxHeartbeats 1000000 in
theorem implIdems_any (A : Option Addr) (n c : Nat) (zs : List (List Int)) (w : World) (h : RSS w A n zs) (hg : EtAt w) :
    Calls Tryz.prog 21 #[.slice A n c] w fun e w' => ∃ v, e = .returned (.tuple #[v, .bool (sgS zs)]) ∧ OSS w' w.heap.size w'.heap.size v (idL zs) ∧ Below w.heap.size w w' := by
  have hsg := told_any A n c zs w h hg
  clear h hg
  go_enter Tryz.func21, Tryz.ntmps21
  go_wp2_with fail
  refine hsg.mono ?_
  rintro e w1 ⟨v, rfl, hy, hno, hb⟩
  have hs1 := hb.size
  cases hS : sgS zs
  · obtain rfl := hno hS
    have HSX := Lib.hid hS
    have HI : Hid (idL zs = []) := by show _ = _; unfold idL; rw [hS]; rfl
    clear hy hno hsg hS
    go_wp2_with fail
    refine (idems_none w1).mono ?_
    rintro e w2 ⟨rfl, hb2⟩
    have hB2 := hb.trans (hb2.mono hb.size)
    go_wp2_with fail
    refine (listsOf_any 0 0 (.slice none 0 0) [] (fun L h => by cases h) (by simp) w2 (World.ownsRow_nil _ _ _ _)).mono ?_
    rintro e w3 ⟨v', rfl, hO, hb3⟩
    have hs2 := hB2.size
    go_wp2
    go_ret2
    exact ⟨_, by rw [HSX.out]; rfl, by rw [HI.out]; exact hO.more hs2 (Nat.le_refl _), hB2.trans (hb3.mono hs2)⟩
  · obtain ⟨b, rfl, hbl, hown⟩ := hy hS
    have HSX := Lib.hid hS
    have S := sgS_iff.1 hS
    have hid := idems_any b (ent zs 0).length zs.length zs rfl (by have := S.most; omega) S.ch S.srt w1 hown
    have HI : Hid (idL zs = zs.filter idB) := by show _ = _; unfold idL; rw [hS]; rfl
    have HZ : Hid (∀ L ∈ zs.filter idB, isC L = true ∧ L.length = (ent zs 0).length) := fun L hL => S.ch L (List.mem_filter.1 hL).1
    have hle : (zs.filter idB).length ≤ 1048576 := Nat.le_trans (List.length_filter_le _ _) (by have := S.most; omega)
    clear hy hno hsg S hS
    go_wp2_with fail
    refine hid.mono ?_
    rintro e w2 ⟨v, rfl, ho, hb2⟩
    have hB2 := hb.trans (hb2.mono hb.size)
    clear hid hown
    go_wp2_with fail
    refine (listsOf_any (ent zs 0).length w1.heap.size v (zs.filter idB) HZ.out hle w2 ho).mono ?_
    rintro e w3 ⟨v', rfl, hO, hb3⟩
    have hs2 := hB2.size
    go_wp2
    go_ret2
    exact ⟨_, by rw [HSX.out]; rfl, by rw [HI.out]; exact hO.more hs2 (Nat.le_refl _), hB2.trans (hb3.mono hs2)⟩
end

end Go.Proofs.YtkfiehndlgplgaaGreatDoor
