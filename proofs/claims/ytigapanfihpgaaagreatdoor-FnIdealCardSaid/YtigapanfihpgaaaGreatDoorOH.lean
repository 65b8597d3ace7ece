/-
  IdS.
-/
import Derived.Test.YtigapanfihpgaaaGreatDoorOA
import Derived.Test.YtigapanfihpgaaaGreatDoorOF
namespace Go.Proofs.YtigapanfihpgaaaGreatDoor
set_option maxRecDepth 100000
set_option linter.unusedVariables false
set_option linter.unusedSimpArgs false
set_option linter.unusedSectionVars false

/-! spec.SemigroupIdeal. -/
section
open Go.RowKit

theorem srt_inj {zs : List (List Int)} (hs : Srt zs) {i j : Nat} (hi : i < zs.length) (hj : j < zs.length) (h : ent zs i = ent zs j) : i = j := by
  rcases Nat.lt_trichotomy i j with h1 | h1 | h1
  · have := hs i j h1 hj; rw [h, lexB_irrefl] at this; cases this
  · exact h1
  · have := hs j i h1 hi; rw [h, lexB_irrefl] at this; cases this
/-- the charts of D are marked -/
def mkD (zs D : List (List Int)) : List Value := bvs (zs.map (fun L => decide (L ∈ D)))
theorem mkD_len (zs D : List (List Int)) : (mkD zs D).length = zs.length := by simp [mkD, bvs]
theorem mkD_nil : ∀ zs : List (List Int), mkD zs [] = List.replicate zs.length (Value.bool false)
  | [] => rfl
  | L :: zs => by
    have := mkD_nil zs
    unfold mkD bvs at this ⊢
    rw [List.map_cons, List.map_cons, this, List.length_cons, List.replicate_succ]
    simp
theorem mark_set {zs D : List (List Int)} (hs : Srt zs) {q : Nat} (hq : q < zs.length) {X : List Int} (he : ent zs q = X) : (mkD zs D).set q (.bool true) = mkD zs (X :: D) := by
  apply List.ext_getElem?
  intro j
  have hg : ∀ D', (mkD zs D')[j]? = zs[j]?.map (fun L => Value.bool (decide (L ∈ D'))) := fun D' => by unfold mkD bvs; rw [List.getElem?_map, List.getElem?_map, Option.map_map]; rfl
  by_cases hj : j = q
  · subst hj
    rw [List.getElem?_set_self (by rw [mkD_len]; exact hq), hg, List.getElem?_eq_getElem hq]
    have : zs[j] = X := by rw [← he]; unfold ent; rw [List.getElem?_eq_getElem hq]; rfl
    simp [this]
  · rw [List.getElem?_set_ne (fun e => hj e.symm), hg, hg]
    by_cases hl : j < zs.length
    · rw [List.getElem?_eq_getElem hl]
      have hne : zs[j] ≠ X := fun e => by
        have h1 : ent zs j = zs[j] := by unfold ent; rw [List.getElem?_eq_getElem hl]; rfl
        exact hj (srt_inj hs hl hq (by rw [h1, he]; exact e))
      simp [hne]
    · rw [List.getElem?_eq_none (by omega)]; rfl
/-- some of what the least ideal holds: for the first i charts all of it -/
structure Idm (zs : List (List Int)) (f : List Int) (D : List (List Int)) (i : Nat) : Prop where
  sound : ∀ L ∈ D, idlP zs f L
  self : f ∈ D
  l : ∀ j, j < i → tiL (ent zs j) f ∈ D
  r : ∀ j, j < i → tiL f (ent zs j) ∈ D
  b : ∀ j, j < i → ∀ t, t < zs.length → tiL (tiL (ent zs j) f) (ent zs t) ∈ D
structure Idn (zs : List (List Int)) (f : List Int) (D : List (List Int)) (i k : Nat) : Prop where
  m : Idm zs f D i
  l : tiL (ent zs i) f ∈ D
  r : tiL f (ent zs i) ∈ D
  b : ∀ t, t < k → tiL (tiL (ent zs i) f) (ent zs t) ∈ D
theorem Idm.cons {zs : List (List Int)} {f : List Int} {D : List (List Int)} {i : Nat} {X : List Int} (h : Idm zs f D i) (hX : idlP zs f X) : Idm zs f (X :: D) i :=
  ⟨fun L hL => by rcases List.mem_cons.1 hL with rfl | h'; exact hX; exact h.sound L h', List.mem_cons_of_mem _ h.self, fun j hj => List.mem_cons_of_mem _ (h.l j hj), fun j hj => List.mem_cons_of_mem _ (h.r j hj), fun j hj t ht => List.mem_cons_of_mem _ (h.b j hj t ht)⟩
theorem Idn.next {zs : List (List Int)} {f : List Int} {D : List (List Int)} {i : Nat} (h : Idn zs f D i zs.length) : Idm zs f D (i + 1) := by
  refine ⟨h.m.sound, h.m.self, fun j hj => ?_, fun j hj => ?_, fun j hj t ht => ?_⟩
  · rcases Nat.lt_or_eq_of_le (Nat.le_of_lt_succ hj) with h' | rfl
    · exact h.m.l j h'
    · exact h.l
  · rcases Nat.lt_or_eq_of_le (Nat.le_of_lt_succ hj) with h' | rfl
    · exact h.m.r j h'
    · exact h.r
  · rcases Nat.lt_or_eq_of_le (Nat.le_of_lt_succ hj) with h' | rfl
    · exact h.m.b j h' t ht
    · exact h.b t ht
theorem Idn.step {zs : List (List Int)} {f : List Int} {D : List (List Int)} {i k : Nat} (h : Idn zs f D i k) (hX : idlP zs f (tiL (tiL (ent zs i) f) (ent zs k))) : Idn zs f (tiL (tiL (ent zs i) f) (ent zs k) :: D) i (k + 1) := by
  refine ⟨h.m.cons hX, List.mem_cons_of_mem _ h.l, List.mem_cons_of_mem _ h.r, fun t ht => ?_⟩
  rcases Nat.lt_or_eq_of_le (Nat.le_of_lt_succ ht) with h' | rfl
  · exact List.mem_cons_of_mem _ (h.b t h')
  · exact List.mem_cons_self
theorem Idm.whole {zs : List (List Int)} {f : List Int} {D : List (List Int)} (h : Idm zs f D zs.length) : mkD zs D = bvs (zs.map (idlB zs f)) := by
  unfold mkD
  congr 1
  refine List.map_congr_left fun L _ => ?_
  rw [Bool.eq_iff_iff, decide_eq_true_eq, idlB_iff]
  refine ⟨h.sound L, ?_⟩
  rintro (rfl | ⟨x, hx, rfl⟩ | ⟨x, hx, rfl⟩ | ⟨x, hx, y, hy, rfl⟩)
  · exact h.self
  · obtain ⟨j, hj, rfl⟩ := mem_ent hx; exact h.l j hj
  · obtain ⟨j, hj, rfl⟩ := mem_ent hx; exact h.r j hj
  · obtain ⟨j, hj, rfl⟩ := mem_ent hx
    obtain ⟨t, ht, rfl⟩ := mem_ent hy
    exact h.b j hj t ht

/-- a chart of the list: where it stands -/
theorem fnd_mem {zs : List (List Int)} (hs : Srt zs) {X : List Int} (h : X ∈ zs) : ∃ q, q < zs.length ∧ ent zs q = X ∧ fndI zs X = (q : Int) := by
  obtain ⟨q, hq, he⟩ := mem_ent h
  exact ⟨q, hq, he, fndI_at hs hq he⟩
theorem mkD_store {w : World} {base g n cp q : Nat} {zs D : List (List Int)} {X : List Int} (h : w.ownsRow base 4 1 (.slice (some ⟨g, 0, none⟩) n cp) n (mkD zs D)) (hs : Srt zs) (hn : zs.length = n) (hq : q < zs.length) (he : ent zs q = X) :
    (∃ u, w.cell? ⟨g, q, none⟩ = some u) ∧ w.frozen? ⟨g, q, none⟩ = false ∧ (w.setCell ⟨g, q, none⟩ (.bool true)).ownsRow base 4 1 (.slice (some ⟨g, 0, none⟩) n cp) n (mkD zs (X :: D)) ∧ w.grownBy (w.setCell ⟨g, q, none⟩ (.bool true)) (some g) := by
  have ho := h.cellAt q (by omega)
  have hst := h.stored q (.bool true)
  rw [mark_set hs hq he] at hst
  exact ⟨⟨_, ho.trans (List.getElem?_eq_getElem (by rw [mkD_len]; exact hq))⟩, h.frozenAt q, hst.1, hst.2⟩

set_option maxHeartbeats 8000000 in
theorem specIdeal_any (A B : Option Addr) (n c m d : Nat) (zs : List (List Int)) (f : List Int) (w : World) (h : RSS w A n zs) (h' : RI w B m f) (hn : n ≤ 1048576) (hl : ∀ L ∈ zs, L.length ≤ 1048576) :
    Calls Tryz.prog 31 #[.slice A n c, .slice B m d] w fun e w' => ∃ v, e = .returned (.tuple #[v, .bool (swhB zs f)]) ∧ OSS w' w.heap.size w'.heap.size v (idlL zs f) ∧ Below w.heap.size w w' := by
  have hsg := specSg_any A n c zs w h hn hl
  cases hS : sgS zs
  · have HB : Hid (swhB zs f = false) := by show _ = _; unfold swhB; rw [hS]; rfl
    have HI : Hid (idlL zs f = []) := by show _ = _; unfold idlL; rw [HB.out]; rfl
    rw [hS] at hsg
    clear hS h hl h'
    go_enter Tryz.func31, Tryz.ntmps31
    go_wp2_with fail
    refine hsg.mono ?_
    rintro e w1 ⟨rfl, hb⟩
    have hL0 : (w1.alloc (.cells #[] 28)).ownsRow w.heap.size 28 1 (.slice (some ⟨w1.heap.size, 0, none⟩) 0 0) 0 [] := World.ownsRow_lit (base := w.heap.size) (e := 28) (size := 1) w1 #[] 0 hb.size (by simp [maxLen]) rfl
    have hB := hb.alloc hb.size (.cells #[] 28)
    go_wp2
    go_ret2
    exact ⟨_, by rw [HB.out]; rfl, by rw [HI.out]; exact OV.oss ⟨hL0, Inn.nil⟩, hB⟩
  · have S := sgS_iff.1 hS
    have HFI := Lib.hid (fndI_iff S.srt (f := f))
    have HS : Hid (swhB zs f = decide (f ∈ zs)) := by show _ = _; unfold swhB; rw [hS, Bool.true_and]
    have HL := Lib.hid h.len
    have HR := Lib.hid h
    have HR' := Lib.hid h'
    have HLL := Lib.hid hl
    rw [hS] at hsg
    by_cases hm : f ∈ zs
    · have HB : Hid (swhB zs f = true) := HS.out.trans (decide_eq_true hm)
      have HI : Hid (idlL zs f = zs.filter (idlB zs f)) := by show _ = _; unfold idlL; rw [HB.out]; rfl
      obtain ⟨q0, hq0, he0, hf0⟩ := fnd_mem S.srt hm
      have HF0 := Lib.hid hf0
      have hq0n : q0 < n := by have := HL.out; omega
      have hd0 : decide ((q0 : Int) < 0) = false := decide_eq_false (by omega)
      have HSG := Lib.hid S
      have HFM : Hid (f ∈ zs) := hm
      obtain rfl := h'.len
      obtain ⟨i0, hi, hz0, hz1, hz2⟩ := info_parts info_bool
      have hb8 : i0.bytes * n ≤ 281474976710656 := by rw [hz2]; omega
      have hmx : n ≤ maxLen := by unfold maxLen; omega
      clear hS h hl h' hm S hf0
      go_enter Tryz.func31, Tryz.ntmps31
      go_wp2_with fail
      refine hsg.mono ?_
      rintro e w1 ⟨rfl, hb⟩
      clear hsg
      go_wp2_with fail
      refine (l3Find_any _ _ _ _ _ _ zs f _ (HR.out.below hb) (HR'.out.below hb) hn HLL.out).mono ?_
      rintro e w2 ⟨rfl, hd2⟩
      rw [HF0.out]
      have hB2 := hb.trans ((below_of_drewN hd2).mono hb.size)
      have hs2 := hB2.size
      clear hd2 hb
      go_wp2_with (at_make; refine wpList_make_full _ rfl _ _ _ rfl w2.heap.size 4 i0 _ 1 Tryz.underlying49 hi hz0 hz1 _ _ _ _ n rfl rfl rfl rfl hb8 hmx (Nat.le_refl _) ?_; intro w3 hown hg)
      have hB3 : Below w.heap.size w w3 := hB2.grown hg hs2 (fun k e => by cases e)
      have hr0 : w3.ownsRow w2.heap.size 4 1 (.slice (some ⟨w2.heap.size, 0, none⟩) n n) n (mkD zs []) := by
        have e : (madeCells (Value.bool false).cells (n * 1)).toList = mkD zs [] := by
          show (madeCells #[Value.bool false] (n * 1)).toList = _
          rw [toList_madeCells_one, mkD_nil, HL.out, Nat.mul_one]
        rw [← e]; exact hown
      clear hown hg hi hz0 hz1 hz2 hb8 hB2
      generalize w2.heap.size = G at *
      refine (l3Find_any _ _ _ _ _ _ zs f _ (HR.out.below hB3) (HR'.out.below hB3) hn HLL.out).mono ?_
      rintro e w4 ⟨rfl, hd4⟩
      rw [HF0.out]
      have hb4 := below_of_drewN hd4
      have hB4 := hB3.trans (hb4.mono hB3.size)
      obtain ⟨⟨u0, hu0⟩, hz0, hst0, _⟩ := mkD_store (own_below hr0 hb4) HSG.out.srt HL.out hq0 he0
      have hB5 := hB4.setCell (p := ⟨G, q0, none⟩) hs2 (.bool true)
      have HM0 : Hid (Idm zs f [f] 0) := ⟨fun L hL => by rw [List.mem_singleton.1 hL]; exact .inl rfl, by simp, fun j hj => absurd hj (Nat.not_lt_zero _), fun j hj => absurd hj (Nat.not_lt_zero _), fun j hj => absurd hj (Nat.not_lt_zero _)⟩
      clear hd4 hb4 hB3 hr0 hB4
      go_wp2
      go_loopw [7] (fun s wr => ∃ (i : Nat) (D : List (List Int)), i ≤ n ∧ s = .int .i64 (i : Int) ∧ wr.ownsRow G 4 1 (.slice (some ⟨G, 0, none⟩) n n) n (mkD zs D) ∧ Hid (Idm zs f D i) ∧ Below w.heap.size w wr) (fun s _ => n - (intOf s).toNat)
      case atStart => exact ⟨0, [f], Nat.zero_le _, rfl, hst0, HM0, hB5⟩
      case round =>
        clear hst0 HM0 hB5 hu0 hz0
        obtain ⟨i, D, hi, rfl, hrow, HI2, hbel⟩ := hrel
        have hGl := (hrow.lt G rfl).2
        by_cases hlti : i < n
        · have hil : i < zs.length := by have := HL.out; omega
          have hxm := ent_mem hil
          have HXM := Lib.hid hxm
          have hlx : (ent zs i).length = f.length := (HSG.out.ch _ hxm).2.trans (HSG.out.ch _ HFM.out).2.symm
          have HP1 := Lib.hid (sg_isP HSG.out hxm HFM.out)
          have HP2 := Lib.hid (sg_isP HSG.out HFM.out hxm)
          obtain ⟨q1, hq1, he1, hf1⟩ := fnd_mem HSG.out.srt (HSG.out.ti _ hxm _ HFM.out)
          obtain ⟨q2, hq2, he2, hf2⟩ := fnd_mem HSG.out.srt (HSG.out.ti _ HFM.out _ hxm)
          have HF1 := Lib.hid hf1
          have HF2 := Lib.hid hf2
          have HE1 := Lib.hid he1
          have HE2 := Lib.hid he2
          have hq1n : q1 < n := by have := HL.out; omega
          have hq2n : q2 < n := by have := HL.out; omega
          have HAL : Hid ((tiL (ent zs i) f).length = f.length) := (tiL_len HP1.out).trans hlx
          obtain ⟨ad, Ai, ci, rfl, hab, hci, hri⟩ := (HR.out.below hbel).at_ hlti
          have hei : zs[i]?.getD [] = ent zs i := rfl
          rw [hei, hlx] at hci hri
          have hrf := HR'.out.below hbel
          clear hei hab hf1 hf2 he1 he2 hxm
          go_wp2_with fail
          refine (l1Ti_any Ai B f.length ci d (ent zs i) f _ hri hrf HP1.out).mono ?_
          rintro e w4 ⟨v1, rfl, hown1, hb4⟩
          obtain ⟨B1, c1, rfl⟩ := own_slice hown1
          have hra := RI.of_own hown1
          have hownA := own_base hown1 (show G + 1 ≤ wr.heap.size from hGl)
          have hbel4 := hbel.trans (hb4.mono hbel.size)
          have hrow4 := own_below hrow hb4
          clear hri hrf hci hown1 hb4 hbel hrow
          go_wp2_with fail
          refine (l3Find_any _ B1 _ _ _ c1 zs (tiL (ent zs i) f) _ (HR.out.below hbel4) hra hn HLL.out).mono ?_
          rintro e w5 ⟨rfl, hd5⟩
          rw [HF1.out]
          have hb5 := below_of_drewN hd5
          have hbel5 := hbel4.trans (hb5.mono hbel4.size)
          have hownA5 := own_below hownA hb5
          obtain ⟨⟨u1, hu1⟩, hz1, hst1, hgr1⟩ := mkD_store (own_below hrow4 hb5) HSG.out.srt HL.out hq1 HE1.out
          have hbel6 := hbel5.setCell (p := ⟨G, q1, none⟩) hs2 (.bool true)
          have hownA6 := hownA5.kept hgr1 (.inr (fun e => by have := (hownA5.lt G e).1; omega))
          obtain ⟨ad2, Ai2, ci2, hea, hab2, hci2, hri2⟩ := (HR.out.below hbel6).at_ hlti
          obtain rfl := Option.some.inj hea
          have hei : zs[i]?.getD [] = ent zs i := rfl
          rw [hei, hlx] at hci2 hri2
          have hrf2 := HR'.out.below hbel6
          clear hei hab2 hea hd5 hb5 hbel4 hbel5 hownA hownA5 hra hrow4
          go_wp2_with fail
          refine (l1Ti_any B Ai2 f.length d ci2 f (ent zs i) _ hrf2 hri2 HP2.out).mono ?_
          rintro e w7 ⟨v2, rfl, hown2, hb7⟩
          obtain ⟨B2, c2, rfl⟩ := own_slice hown2
          have hrb := RI.of_own hown2
          have hbel7 := hbel6.trans (hb7.mono hbel6.size)
          have hrow7 := own_below hst1 hb7
          have hownA7 := own_below hownA6 hb7
          clear hri2 hrf2 hci2 hown2 hb7 hbel6 hst1 hgr1 hu1 hz1 hownA6
          go_wp2_with fail
          refine (l3Find_any _ B2 _ _ _ c2 zs (tiL f (ent zs i)) _ (HR.out.below hbel7) hrb hn HLL.out).mono ?_
          rintro e w8 ⟨rfl, hd8⟩
          rw [HF2.out]
          have hb8 := below_of_drewN hd8
          have hbel8 := hbel7.trans (hb8.mono hbel7.size)
          have hownA8 := own_below hownA7 hb8
          obtain ⟨⟨u2, hu2⟩, hz2, hst2, hgr2⟩ := mkD_store (own_below hrow7 hb8) HSG.out.srt HL.out hq2 HE2.out
          have hbel9 := hbel8.setCell (p := ⟨G, q2, none⟩) hs2 (.bool true)
          have hownA9 := hownA8.kept hgr2 (.inr (fun e => by have := (hownA8.lt G e).1; omega))
          have HIN : Hid (Idn zs f (tiL f (ent zs i) :: tiL (ent zs i) f :: D) i 0) :=
            ⟨(HI2.out.cons (.inr (.inl ⟨_, HXM.out, rfl⟩))).cons (.inr (.inr (.inl ⟨_, HXM.out, rfl⟩))), by simp, by simp, fun t ht => absurd ht (Nat.not_lt_zero _)⟩
          clear hd8 hb8 hbel7 hbel8 hownA7 hownA8 hrb hrow7 hgr2 HI2
          go_wp2
          go_loopw [9] (fun s wq => ∃ (k : Nat) (D2 : List (List Int)), k ≤ n ∧ s = .int .i64 (k : Int) ∧ wq.ownsRow G 4 1 (.slice (some ⟨G, 0, none⟩) n n) n (mkD zs D2) ∧ wq.ownsRow (G + 1) 3 1 (.slice B1 (tiL (ent zs i) f).length c1) (tiL (ent zs i) f).length (ivs (tiL (ent zs i) f)) ∧ Hid (Idn zs f D2 i k) ∧ Below w.heap.size w wq) (fun s _ => n - (intOf s).toNat)
          case atStart => exact ⟨0, _, Nat.zero_le _, rfl, hst2, hownA9, HIN, hbel9⟩
          case round =>
            clear hst2 hownA9 HIN hbel9 hu2 hz2
            obtain ⟨k, D2, hk, rfl, hrow, hownA, HIN, hbel⟩ := hrel
            by_cases hltk : k < n
            · have hkl : k < zs.length := by have := HL.out; omega
              have hym := ent_mem hkl
              have HAM : Hid (tiL (ent zs i) f ∈ zs) := HSG.out.ti _ HXM.out _ HFM.out
              have hly : (ent zs k).length = f.length := (HSG.out.ch _ hym).2.trans (HSG.out.ch _ HFM.out).2.symm
              have HP3 := Lib.hid (sg_isP HSG.out HAM.out hym)
              obtain ⟨q3, hq3, he3, hf3⟩ := fnd_mem HSG.out.srt (HSG.out.ti _ HAM.out _ hym)
              have HF3 := Lib.hid hf3
              have HE3 := Lib.hid he3
              have hq3n : q3 < n := by have := HL.out; omega
              have HST : Hid (Idn zs f (tiL (tiL (ent zs i) f) (ent zs k) :: D2) i (k + 1)) := HIN.out.step (.inr (.inr (.inr ⟨_, HXM.out, _, hym, rfl⟩)))
              obtain ⟨ad3, Ak, ck, hea, hab, hck, hrk⟩ := (HR.out.below hbel).at_ hltk
              obtain rfl := Option.some.inj hea
              have hek : zs[k]?.getD [] = ent zs k := rfl
              rw [hek, hly, ← HAL.out] at hck hrk
              have hra := RI.of_own hownA
              clear hek hab hea hf3 he3 hym HIN
              go_wp2_with fail
              refine (l1Ti_any B1 Ak (tiL (ent zs i) f).length c1 ck (tiL (ent zs i) f) (ent zs k) _ hra hrk HP3.out).mono ?_
              rintro e w4 ⟨v3, rfl, hown3, hb4⟩
              obtain ⟨B3, c3, rfl⟩ := own_slice hown3
              have hrc := RI.of_own hown3
              have hbel4 := hbel.trans (hb4.mono hbel.size)
              have hrow4 := own_below hrow hb4
              have hownA4 := own_below hownA hb4
              clear hra hrk hck hown3 hb4 hbel hrow hownA
              go_wp2_with fail
              refine (l3Find_any _ B3 _ _ _ c3 zs (tiL (tiL (ent zs i) f) (ent zs k)) _ (HR.out.below hbel4) hrc hn HLL.out).mono ?_
              rintro e w5 ⟨rfl, hd5⟩
              rw [HF3.out]
              have hb5 := below_of_drewN hd5
              have hbel5 := hbel4.trans (hb5.mono hbel4.size)
              have hownA5 := own_below hownA4 hb5
              obtain ⟨⟨u3, hu3⟩, hz3, hst3, hgr3⟩ := mkD_store (own_below hrow4 hb5) HSG.out.srt HL.out hq3 HE3.out
              have hbel6 := hbel5.setCell (p := ⟨G, q3, none⟩) hs2 (.bool true)
              have hownA6 := hownA5.kept hgr3 (.inr (fun e => by have := (hownA5.lt G e).1; omega))
              clear hd5 hb5 hbel4 hbel5 hownA4 hownA5 hrc hrow4 hgr3
              go_wp2
              go_roundw
              case rel => exact ⟨k + 1, _, by omega, by go_num, hst3, hownA6, HST, hbel6⟩
              case measure => simp [intOf]; omega
            · obtain rfl : k = n := by omega
              have HNX : Hid (Idm zs f D2 (i + 1)) := Idn.next (by rw [HL.out]; exact HIN.out)
              go_wp2
              go_roundw
              case rel => exact ⟨i + 1, D2, by omega, by go_num, hrow, HNX, hbel⟩
              case measure => simp [intOf]; omega
        · obtain rfl : i = n := by omega
          have hw := Idm.whole (by rw [HL.out]; exact HI2.out)
          rw [hw] at hrow
          have hCC : ∀ L ∈ zs, isC L = true := fun L hL => (HSG.out.ch L hL).1
          clear hw
          go_wp2_with fail
          refine (l3Keep_any A i c G i G zs (idlB zs f) wr (HR.out.below hbel) hn hCC hrow).mono ?_
          rintro e w5 ⟨v, rfl, ho, hb5⟩
          have hs5 := hbel.size
          have hB5 := hbel.trans (hb5.mono hs5)
          go_wp2
          go_ret2
          exact ⟨_, by rw [HB.out]; rfl, by rw [HI.out]; exact ho.more hs5 (Nat.le_refl _), hB5⟩
    · have HB : Hid (swhB zs f = false) := HS.out.trans (decide_eq_false hm)
      have HI : Hid (idlL zs f = []) := by show _ = _; unfold idlL; rw [HB.out]; rfl
      have hq0 : decide (fndI zs f < 0) = true := decide_eq_true (by have : ¬ 0 ≤ fndI zs f := fun e => hm (HFI.out.1 e); omega)
      clear hS h hl h' hm S
      go_enter Tryz.func31, Tryz.ntmps31
      go_wp2_with fail
      refine hsg.mono ?_
      rintro e w1 ⟨rfl, hb⟩
      clear hsg
      go_wp2_with fail
      refine (l3Find_any _ _ _ _ _ _ zs f _ (HR.out.below hb) (HR'.out.below hb) hn HLL.out).mono ?_
      rintro e w2 ⟨rfl, hq2⟩
      have hB2 := hb.trans ((below_of_drewN hq2).mono hb.size)
      have hs2 := hB2.size
      clear hq2 hb
      generalize fndI zs f = q at *
      have hL0 : (w2.alloc (.cells #[] 28)).ownsRow w.heap.size 28 1 (.slice (some ⟨w2.heap.size, 0, none⟩) 0 0) 0 [] := World.ownsRow_lit (base := w.heap.size) (e := 28) (size := 1) w2 #[] 0 hs2 (by simp [maxLen]) rfl
      have hB := hB2.alloc hs2 (.cells #[] 28)
      go_wp2
      go_ret2
      exact ⟨_, by rw [HB.out]; rfl, by rw [HI.out]; exact OV.oss ⟨hL0, Inn.nil⟩, hB⟩
end

end Go.Proofs.YtigapanfihpgaaaGreatDoor
