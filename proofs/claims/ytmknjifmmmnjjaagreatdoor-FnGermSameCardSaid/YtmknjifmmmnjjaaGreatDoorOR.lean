/-
  OfS.
-/
import Derived.Test.YtmknjifmmmnjjaaGreatDoorOP
namespace Go.Proofs.YtmknjifmmmnjjaaGreatDoor
set_option maxRecDepth 100000
set_option linter.unusedVariables false
set_option linter.unusedSimpArgs false
set_option linter.unusedSectionVars false

/-! spec.SemigroupOf: a list kept in order, and a queue. -/
section
open Go.RowKit

def vlen : Value → Nat
  | .slice _ n _ => n
  | _ => 0
theorem ins_get {α : Type} (l : List α) (k : Nat) (x : α) (hk : k ≤ l.length) (i : Nat) : ((l.take k ++ [x]) ++ l.drop k)[i]? = if i < k then l[i]? else if i = k then some x else l[i - 1]? := by
  have h1 : (l.take k).length = k := by rw [List.length_take]; omega
  have h2 : (l.take k ++ [x]).length = k + 1 := by simp [h1]
  by_cases a : i < k
  · rw [if_pos a, List.getElem?_append_left (by omega), List.getElem?_append_left (by omega), List.getElem?_take, if_pos a]
  · rw [if_neg a]
    by_cases b : i = k
    · rw [if_pos b, List.getElem?_append_left (by omega), List.getElem?_append_right (by omega), h1, b, Nat.sub_self]; rfl
    · rw [if_neg b, List.getElem?_append_right (by omega), h2, List.getElem?_drop]
      congr 1; omega
/-- one list more among the inner ones -/
theorem Inn.ins {w : World} {lo hi : Nat} {vs : List Value} {Ls : List (List Int)} {u : Value} {L : List Int} {k : Nat} (h : Inn w lo hi vs Ls) (hk : k ≤ vs.length) (hu : OI w lo hi u L)
    (ha : ∀ (i : Nat) (u' : Value), vs[i]? = some u' → ∀ g : Nat, u'.ownBlock = some g → u.ownBlock = some g → False) : Inn w lo hi ((vs.take k ++ [u]) ++ vs.drop k) (insAt Ls k L) := by
  have hk' : k ≤ Ls.length := by rw [← h.len]; exact hk
  refine ⟨?_, fun i x y hx hy => ?_, fun i j x x' g hij hx hx' hg hg' => ?_⟩
  · have := insAt_len (L := L) hk'
    rw [this, ← h.len]; simp; omega
  · rw [ins_get vs k u hk] at hx
    unfold insAt at hy
    rw [ins_get Ls k L hk'] at hy
    by_cases a : i < k
    · rw [if_pos a] at hx hy; exact h.own i x y hx hy
    · rw [if_neg a] at hx hy
      by_cases b : i = k
      · rw [if_pos b] at hx hy
        injection hx with hx; injection hy with hy; subst hx hy; exact hu
      · rw [if_neg b] at hx hy; exact h.own _ x y hx hy
  · rw [ins_get vs k u hk] at hx hx'
    by_cases a : i < k
    · rw [if_pos a] at hx
      by_cases a' : j < k
      · rw [if_pos a'] at hx'; exact h.apart i j x x' g hij hx hx' hg hg'
      · rw [if_neg a'] at hx'
        by_cases b' : j = k
        · rw [if_pos b'] at hx'; injection hx' with hx'; subst hx'; exact ha i x hx g hg hg'
        · rw [if_neg b'] at hx'; exact h.apart i (j - 1) x x' g (by omega) hx hx' hg hg'
    · rw [if_neg a] at hx
      by_cases b : i = k
      · rw [if_pos b] at hx; injection hx with hx; subst hx
        by_cases a' : j < k
        · rw [if_pos a'] at hx'; exact ha j x' hx' g hg' hg
        · rw [if_neg a'] at hx'
          by_cases b' : j = k
          · omega
          · rw [if_neg b'] at hx'; exact ha (j - 1) x' hx' g hg' hg
      · rw [if_neg b] at hx
        by_cases a' : j < k
        · rw [if_pos a'] at hx'; exact h.apart (i - 1) j x x' g (by omega) hx hx' hg hg'
        · rw [if_neg a'] at hx'
          by_cases b' : j = k
          · rw [if_pos b'] at hx'; injection hx' with hx'; subst hx'; exact ha (i - 1) x hx g hg hg'
          · rw [if_neg b'] at hx'; exact h.apart (i - 1) (j - 1) x x' g (by omega) hx hx' hg hg'

section
variable {w w' : World} {lo base n : Nat} {v vq : Value} {vs xs : List Value} {Ls : List (List Int)}
/-- what is kept while the queue grows -/
theorem OV.kept_q (h : OV w lo v vs Ls) (hq : Rq w base vq n xs) (hne : ∀ g, v.ownBlock = some g → vq.ownBlock ≠ some g) (hg : w.grownBy w' vq.ownBlock) : OV w' lo v vs Ls := by
  refine ⟨h.row.kept hg ?_, (h.inn.same fun i u hu g hg' => ?_).more (Nat.le_refl _) hg.size⟩
  · cases e : v.ownBlock with
    | none => exact .inl rfl
    | some g => exact .inr (fun e' => hne g e e'.symm)
  · have hl : i < vs.length := (List.getElem?_eq_some_iff.1 hu).1
    have o := h.inn.own i u _ hu (List.getElem?_eq_getElem (show i < Ls.length by rw [← h.inn.len]; exact hl))
    refine hg.block g (h.inn.lt hu hg').2.2 (fun e => ?_)
    obtain ⟨_, gq, oq, cq, cur, rfl, _, hh, _⟩ := hq
    have e2 : g = gq := by simpa [Value.ownBlock] using e
    subst e2
    exact own_blk_ne o.1 hh (by decide) hg'
theorem OV.alloc (h : OV w lo v vs Ls) (o : Obj) : OV (w.alloc o) lo v vs Ls := h.below ((Below.refl _ w).alloc (Nat.le_refl _) o)
theorem Rq.alloc (h : Rq w base v n xs) (o : Obj) : Rq (w.alloc o) base v n xs := h.below ((Below.refl _ w).alloc (Nat.le_refl _) o)
theorem Qs.alloc (h : Qs w v vs Ls) (o : Obj) : Qs (w.alloc o) v vs Ls := h.below ((Below.refl _ w).alloc (Nat.le_refl _) o)
theorem Qs.rss {A : Option Addr} {c : Nat} (h : Qs w v vs Ls) (hr : w.ownsRow base 24 1 (.slice A Ls.length c) Ls.length vs) : RSS w A Ls.length Ls := by
  refine ⟨rfl, vs, Reads.of_own hr, fun i L hL => ?_⟩
  obtain ⟨Ai, ci, h1, h2, _⟩ := h.2 i L hL
  exact ⟨Ai, ci, h1, h2⟩
/-- the queue of copies of the same rows -/
theorem Qs.other (h : Qs w v vs Ls) (hb : Below w.heap.size w w') (hl : ∀ L ∈ Ls, 0 < L.length) (hq : ∀ g, vq.ownBlock = some g → w.heap.size ≤ g) : Qs w' vq vs Ls :=
  ⟨h.1, fun i L hL => by
    obtain ⟨Ai, ci, h1, h2, _⟩ := h.2 i L hL
    refine ⟨Ai, ci, h1, h2.below hb, fun ad ha e => ?_⟩
    obtain ⟨ad', ea, hbl, _⟩ := h2.2.2 (hl L (List.mem_of_getElem? hL))
    rw [ha] at ea; injection ea with ea; subst ea
    have := hq _ e
    omega⟩
end
theorem ri_keepO {W W0 W1 : World} {A : Option Addr} {n : Nat} {zs : List Int} (hb : Below W0.heap.size W0 W1) (h : RI W A n zs) (e : W0.heap = W.heap) : RI W1 A n zs := by
  have : RI W0 A n zs := h.heap e
  exact this.below hb
theorem below_of_drewN' {W W1 : World} (h : ∃ q, W1 = W.drewN q) : Below W.heap.size W W1 := by
  obtain ⟨q, rfl⟩ := h; exact ⟨rfl, rfl, rfl, Nat.le_refl _, fun _ _ => rfl⟩
theorem qs_keep {W W0 W1 : World} {v : Value} {vs : List Value} {Ls : List (List Int)} (hb : Below W0.heap.size W0 W1) (h : Qs W v vs Ls) (e : W0.heap = W.heap) : Qs W1 v vs Ls := by
  refine ⟨h.1, fun i L hL => ?_⟩
  obtain ⟨Ai, ci, h1, h2, h3⟩ := h.2 i L hL
  exact ⟨Ai, ci, h1, ri_keepO hb h2 e, h3⟩
theorem cell_keepO {W W0 W1 : World} {p : Addr} {u : Value} (hb : Below W0.heap.size W0 W1) (h : W.cell? p = some u) (e : W0.heap = W.heap) : W1.cell? p = some u := by
  have h0 : W0.cell? p = some u := by
    have : W0.cell? p = W.cell? p := by unfold World.cell?; rw [e]
    rw [this]; exact h
  exact (hb.cell (p := p) (World.block_lt_of_cell? W0 p h0)).trans h0
theorem row_keep {W W0 W1 : World} {base size n : Nat} {e : TypeId} {v : Value} {xs : List Value} (hb : Below W0.heap.size W0 W1) (h : W.ownsRow base e size v n xs) (eh : W0.heap = W.heap) : W1.ownsRow base e size v n xs :=
  own_below (own_same h (fun g _ => by rw [eh])) hb

theorem oss_lit (w w1 : World) (h : Below w.heap.size w w1) : OSS (w1.alloc (.cells #[] 24)) w.heap.size (w1.alloc (.cells #[] 24)).heap.size (.slice (some ⟨w1.heap.size, 0, none⟩) 0 0) [] :=
  (OSS.lit0 w1).more h.size (by simp)
set_option maxHeartbeats 1000000 in
theorem specOf_no (A : Option Addr) (n c : Nat) (zs OL : List (List Int)) (OB : Bool) (hO : Ofs zs OL OB) (w : World) (h : RSS w A n zs) (hn : n ≤ 1048576) (hl : ∀ L ∈ zs, L.length ≤ 1048576) (hno : cfB zs 6 = false) :
    Calls Tryz.prog 101 #[.slice A n c] w fun e w' => ∃ v, e = .returned (.tuple #[v, .bool OB]) ∧ OSS w' w.heap.size w'.heap.size v OL ∧ Below w.heap.size w w' := by
  have HL := Lib.hid h.len
  have hch := l3Charts_any A n c zs w h hn hl
  have HF := Lib.hid (ofs_no hO (fun e => by rw [hno] at e; cases e.1))
  clear h hl
  cases hC : chB zs
  · rw [hC] at hch
    clear hC hno
    go_enter Tryz.func101, Tryz.ntmps101
    go_wp2_with fail
    refine hch.mono ?_
    rintro e w1 ⟨rfl, hq1⟩
    have hB1 : Below w.heap.size w w1 := by obtain ⟨q, rfl⟩ := hq1; exact ⟨rfl, rfl, rfl, Nat.le_refl _, fun _ _ => rfl⟩
    clear hq1 hch
    go_wp2
    go_ret2
    exact ⟨_, by rw [HF.out.2]; rfl, by rw [HF.out.1]; exact oss_lit w w1 hB1, hB1.alloc hB1.size _⟩
  · have h6 : ¬ zs.length ≤ 6 := fun h => by unfold cfB at hno; rw [hC, decide_eq_true h] at hno; cases hno
    have hd : decide ((6 : Int) < (n : Int)) = true := decide_eq_true (by have := HL.out; omega)
    have hd2 : decide ((n : Int) > 6) = true := decide_eq_true (by have := HL.out; omega)
    rw [hC] at hch
    clear hC hno
    go_enter Tryz.func101, Tryz.ntmps101
    go_wp2_with fail
    refine hch.mono ?_
    rintro e w1 ⟨rfl, hq1⟩
    have hB1 : Below w.heap.size w w1 := by obtain ⟨q, rfl⟩ := hq1; exact ⟨rfl, rfl, rfl, Nat.le_refl _, fun _ _ => rfl⟩
    clear hq1 hch
    go_wp2
    go_ret2
    exact ⟨_, by rw [HF.out.2]; rfl, by rw [HF.out.1]; exact oss_lit w w1 hB1, hB1.alloc hB1.size _⟩
theorem cellArr (w : World) (c : Array Value) (t : TypeId) : ∀ j u, c.toList[j]? = some u → (w.alloc (.cells c t)).cell? ((⟨w.heap.size, 0, none⟩ : Addr).add j) = some u := fun j u hu => by
  rw [Addr.add_mid, Nat.zero_add, World.cell?_alloc_new]
  simpa using hu
/-- a chart and itself turned, behind the others -/
theorem by_step {W w' : World} {g cc ci c1 : Nat} {aL : Addr} {A1 : Option Addr} {vs : List Value} {Bs : List (List Int)} {L : List Int} {v' : Value} (hQ : Qs W (.slice (some ⟨g, 0, none⟩) Bs.length cc) vs Bs) (hl : ∀ M ∈ Bs ++ [L, tuL L], 0 < M.length)
    (hr : RI W (some aL) L.length L) (hne : g ≠ aL.block) (ht : RI W A1 (tuL L).length (tuL L)) (hne1 : ∀ a, A1 = some a → g ≠ a.block) (o : Obj) (hg : (W.alloc o).grownBy w' (some g)) (hat : v'.ownBlock = some g ∨ v'.ownBlock = some (W.alloc o).heap.size) :
    Qs w' v' (vs ++ [.slice (some aL) L.length ci, .slice A1 (tuL L).length c1]) (Bs ++ [L, tuL L]) := by
  have h1 := (hQ.snoc (ci := ci) hr (fun ad e => by injection e with e; subst e; simp only [Value.ownBlock]; intro e'; injection e' with e'; exact hne e')).snoc (ci := c1) ht (fun ad e => by simp only [Value.ownBlock]; intro e'; injection e' with e'; exact hne1 ad e e')
  have h2 := (h1.alloc o).grown (v' := v') (w' := w') (by intro M hM; exact hl M (by simpa using hM)) hg (hat.imp id (fun e x hx => by rw [e] at hx; injection hx with hx; omega))
  simpa using h2
set_option maxHeartbeats 8000000 in
theorem specOf_yes (A : Option Addr) (n c : Nat) (zs OL : List (List Int)) (OB : Bool) (hO : Ofs zs OL OB) (w : World) (h : RSS w A n zs) (hcf : cfB zs 6 = true) :
    Calls Tryz.prog 101 #[.slice A n c] w fun e w' => ∃ v, e = .returned (.tuple #[v, .bool OB]) ∧ OSS w' w.heap.size w'.heap.size v OL ∧ Below w.heap.size w w' := by
  obtain ⟨i0, hi, hz0, hz1, hz2⟩ := info_parts info_int
  obtain ⟨i1, hj, hj0, hj1, hj2⟩ := info_parts info_ints
  have hzz : 1 ≤ zs.length ∧ zs.length ≤ 6 ∧ ∀ L ∈ zs, isC L = true ∧ L.length = (ent zs 0).length := by
    have hc := hcf
    unfold cfB at hc
    rw [Bool.and_eq_true, decide_eq_true_eq, chB_iff] at hc
    exact ⟨hc.1.1, hc.2, hc.1.2⟩
  have hcB : chB zs = true := by have hc := hcf; unfold cfB at hc; rw [Bool.and_eq_true] at hc; exact hc.1
  generalize (ent zs 0).length = m at hzz
  obtain ⟨hz1', hz6, hzc⟩ := hzz
  have HZ := Lib.hid hzc
  have HL := Lib.hid h.len
  have HR := Lib.hid h
  have HO := Lib.hid hO
  have HCF := Lib.hid hcf
  have HFZ : Hid (∀ L ∈ facs zs, isC L = true ∧ L.length = m) := facs_ch hzc
  have HBL : Hid (∀ (k : Nat) (L : List Int), L ∈ byL (zs.take k) → 0 < L.length) := fun k L hL => by
    have h1 : L ∈ facs (zs.take k) := byL_mem.1 hL
    have := facs_ch (m := m) (fun L hL => hzc L (List.mem_of_mem_take hL)) L h1
    exact (isC_len this.1).1
  have hch := l3Charts_any A n c zs w h (by have := h.len; omega) (fun L hL => by have := (isC_len (hzc L hL).1).2; omega)
  rw [hcB] at hch
  have hn6 : n ≤ 6 := by have := h.len; omega
  have hn1 : 1 ≤ n := by have := h.len; omega
  have hd : decide ((6 : Int) < (n : Int)) = false := decide_eq_false (by omega)
  have hd2 : decide ((n : Int) > 6) = false := decide_eq_false (by omega)
  clear h hcf hcB hO hzc hz1' hz6
  go_enter Tryz.func101, Tryz.ntmps101
  go_wp2_with fail
  refine hch.mono ?_
  rintro e w1 ⟨rfl, hq1⟩
  have hB1 : Below w.heap.size w w1 := by obtain ⟨q, rfl⟩ := hq1; exact ⟨rfl, rfl, rfl, Nat.le_refl _, fun _ _ => rfl⟩
  clear hq1 hch
  go_wp2
  go_loopw [4, 5] (fun v i wr => ∃ (k g cc : Nat) (vs : List Value), k ≤ n ∧ i = .int .i64 (k : Int) ∧ v = .slice (some ⟨g, 0, none⟩) (byL (zs.take k)).length cc ∧ wr.ownsRow w.heap.size 24 1 v (byL (zs.take k)).length vs ∧ Qs wr v vs (byL (zs.take k)) ∧ Below w.heap.size w wr) (fun _ i _ => n - (intOf i).toNat)
  case atStart => exact ⟨0, _, _, [], Nat.zero_le _, rfl, rfl, own_base (World.ownsRow_lit (base := w1.heap.size) (e := 24) (size := 1) w1 #[] 0 (Nat.le_refl _) (by simp [maxLen]) rfl) hB1.size, ⟨rfl, fun i L h => by cases h⟩, hB1.alloc hB1.size _⟩
  case round =>
    clear hB1
    obtain ⟨k, g, cc, vs, hk, rfl, rfl, hown, hQ, hB⟩ := hrel
    by_cases hlt : k < n
    · have hkl : k < zs.length := by have := HL.out; omega
      obtain ⟨L, hL⟩ : ∃ L, zs[k]? = some L := ⟨_, List.getElem?_eq_getElem hkl⟩
      obtain ⟨ad, Ai, ci, rfl, hab, hc0, hri0⟩ := HR.out.at_ hlt
      rw [hL, Option.getD_some] at hc0 hri0
      have hLz := HZ.out L (List.mem_of_getElem? hL)
      have h6 := isC_len hLz.1
      obtain ⟨aL, rfl, haL, _⟩ := hri0.2.2 (by omega)
      have hri := hri0.below hB
      have hcc := (hB.cell (p := ad.add k) (by rw [block_of_add]; exact hab)).trans hc0
      have HT : Hid (byL (zs.take (k + 1)) = byL (zs.take k) ++ [L, tuL L]) := byL_take hL
      have HLN : Hid (∀ M ∈ byL (zs.take k) ++ [L, tuL L], 0 < M.length) := fun M hM => HBL.out (k + 1) M (by rw [HT.out]; exact hM)
      have hBl : (byL (zs.take k)).length ≤ 12 := by rw [byL_len, List.length_take]; omega
      have hgl := hown.lt g rfl
      have hs := hB.size
      have HLZ := Lib.hid hLz
      clear hLz
      generalize byL (zs.take k) = Bs at *
      have p1 : Bs.length + 2 ≤ maxLen := by unfold maxLen; omega
      have p2 : (Bs.length + 2) * 24 ≤ 140737488355328 := by omega
      have hS := Below.refl wr.heap.size wr
      have hra := hown
      have hQq := hQ
      have tok1 : True := trivial
      clear hkl hL hri0 hc0 hown hQ
      go_wp2_with fail
      go_region_held3 (fun w' => w'.cell? (ad.add k) = some (.slice (some aL) L.length ci))
        (first | assumption | go_keep)
        (first
          | (go_at_call 98
             have _t := tok1
             with_reducible refine (l1Tu_any (some aL) L.length ci L _ ?_ HLZ.out.1).mono ?_
             · exact hri.heap rfl
             rintro e w1x ⟨v1, rfl, hN1, hbx⟩
             have hcc := cell_keepO hbx hcc rfl
             have hra := row_keep hbx hra rfl
             have hQq := qs_keep hbx hQq rfl
             have hri1 := ri_keepO hbx hri rfl
             have hS := bel_keep hbx hS rfl rfl rfl rfl hS.size
             obtain ⟨A1, c1, rfl⟩ := own_slice hN1
             have hone2 : ∀ u ∈ [Value.slice (some aL) L.length ci, .slice A1 (tuL L).length c1], u.oneCell' = true := by intro u hu; simp only [List.mem_cons, List.not_mem_nil, or_false] at hu; rcases hu with rfl | rfl <;> rfl
             have hsz1 : w.heap.size ≤ (w1x.alloc (.cells #[.slice (some aL) L.length ci, .slice A1 (tuL L).length c1] 24)).heap.size := by have := hS.size; simp; omega
             clear tok1 _t hbx)
          | (refine step_app_at _ rfl _ _ 23 rfl w.heap.size 24 i1 (.slice none 0 0) 1 24 Tryz.underlying23 hj hj0 hj1 hj2 rfl (by decide) (.slice (some ⟨g, 0, none⟩) Bs.length cc) Bs.length vs rfl (hra.alloc _) ⟨w1x.heap.size, 0, none⟩ 2 2 [.slice (some aL) L.length ci, .slice A1 (tuL L).length c1] rfl rfl (cellArr w1x _ _) hone2 p1 p2 hsz1 ?_
             intro v' w' hown' hgrow _ hat
             obtain ⟨gq, cq, hvq, hgq⟩ := hown'.form (by omega)
             subst hvq
             have hcc := hgrow.cell ((World.cell?_alloc_lt w1x (.cells #[.slice (some aL) L.length ci, .slice A1 (tuL L).length c1] 24) (ad.add k) (World.block_lt_of_cell? _ _ hcc)).trans hcc) (by rw [block_of_add]; simp only [Value.ownBlock]; intro e; injection e with e; omega)
             have HG := Lib.hid hgrow
             have HA := Lib.hid hat))
      all_goals
        have hgb : ∀ x, (.slice (some ⟨g, 0, none⟩) Bs.length cc : Value).ownBlock = some x → w.heap.size ≤ x := fun x e => (hra.lt x e).1
        have hsx := hS.size
        have hQ3 := by_step (v' := .slice (some ⟨gq, 0, none⟩) (Bs.length + 2) cq) (ci := ci) (c1 := c1) hQq HLN.out hri1 (by omega) (RI.of_own hN1) (fun a e => by subst e; have := (hN1.lt a.block rfl).1; simp at this; omega) _ HG.out HA.out
        have hB4 := ((hB.trans (hS.mono hs)).alloc (show w.heap.size ≤ w1x.heap.size by omega) (.cells #[.slice (some aL) L.length ci, .slice A1 (tuL L).length c1] 24)).grown HG.out (by simp; omega) (fun x e => hgb x e)
        have HLN2 : Hid ((Bs ++ [L, tuL L]).length = Bs.length + 2) := by show _ = _; simp
        go_wp2
        go_roundw
        case rel => exact ⟨k + 1, gq, cq, _, by omega, by go_num, by rw [HT.out, HLN2.out], by rw [HT.out, HLN2.out]; exact hown', by rw [HT.out]; exact hQ3, hB4⟩
        case measure => simp [intOf]; omega
    · obtain rfl : k = n := by omega
      have HT : Hid (zs.take k = zs) := List.take_of_length_le (by rw [HL.out]; exact Nat.le_refl _)
      have HBL2 := Lib.hid (HBL.out k)
      rw [HT.out] at hown hQ HBL2
      have hBl : (byL zs).length ≤ 12 := by rw [byL_len]; have := HL.out; omega
      have HBE : Hid ((byL zs).length = 2 * k) := by show _ = _; rw [byL_len, HL.out]
      have hRb := hQ.rss hown
      have hgl := hown.lt g rfl
      have hBs : ∀ L ∈ byL zs, 0 < L.length := HBL2.out
      rw [HT.out]
      clear HBL
      generalize hB0 : (byL zs).length = nb at *
      have hW0 := hB.size
      have hE0 : ((wr.alloc (.cells #[] 24)).alloc (.cells #[] 24)).ownsRow (wr.heap.size + 1) 24 1 (.slice (some ⟨wr.heap.size + 1, 0, none⟩) 0 0) 0 [] := by
        have := World.ownsRow_lit (base := (wr.alloc (.cells #[] 24)).heap.size) (e := 24) (size := 1) (wr.alloc (.cells #[] 24)) #[] 0 (Nat.le_refl _) (by simp [maxLen]) rfl
        rwa [World.size_alloc] at this
      have hcl : ∀ j u, vs[j]? = some u → ((wr.alloc (.cells #[] 24)).alloc (.cells #[] 24)).cell? ((⟨g, 0, none⟩ : Addr).add j) = some u := ((hown.alloc _).alloc _).cells rfl
      have hvl : vs.length = nb * 1 := hown.1
      have hO0 : (wr.alloc (.cells #[] 24)).ownsRow wr.heap.size 24 1 (.slice (some ⟨wr.heap.size, 0, none⟩) 0 0) 0 [] := World.ownsRow_lit (base := wr.heap.size) (e := 24) (size := 1) wr #[] 0 (Nat.le_refl _) (by simp [maxLen]) rfl
      have q1 : 0 + nb ≤ maxLen := by unfold maxLen; omega
      have q2 : (0 + nb) * 24 ≤ 140737488355328 := by omega
      have q3 : wr.heap.size + 1 ≤ ((wr.alloc (.cells #[] 24)).alloc (.cells #[] 24)).heap.size := by simp
      go_wp2_with (first | (at_builtin
                            refine wpList_append_own_at _ rfl _ _ 23 rfl (wr.heap.size + 1) 24 i1 (.slice none 0 0) 1 24 Tryz.underlying23 hj hj0 hj1 hj2 rfl (by decide) (.slice (some ⟨wr.heap.size + 1, 0, none⟩) 0 0) 0 [] rfl hE0 ⟨g, 0, none⟩ nb cc vs rfl hvl hcl hQ.one q1 q2 q3 ?_
                            intro vq wq hown' hgrow _ hat) | go_in)
      rw [Nat.zero_add, List.nil_append] at hown'
      have hBa : Below wr.heap.size wr ((wr.alloc (.cells #[] 24)).alloc (.cells #[] 24)) := ((Below.refl _ wr).alloc (Nat.le_refl _) _).alloc (by simp) _
      have hBq : Below wr.heap.size wr wq := hBa.grown hgrow (by simp; omega) (fun x e => by have := (hE0.lt x e).1; omega)
      have hnb : 0 < nb := by have := HBE.out; omega
      obtain ⟨gq, cq, hvq, hgq, _⟩ := hown'.form hnb
      subst hvq
      have hov : OV wq wr.heap.size (.slice (some ⟨wr.heap.size, 0, none⟩) 0 0) [] [] := ⟨(hO0.alloc _).kept hgrow (.inr (by simp [Value.ownBlock])), Inn.nil⟩
      have hrq : Rq wq wr.heap.size (.slice (some ⟨gq, 0, none⟩) nb cq) (byL zs).length vs := by rw [hB0]; exact Rq.of_own (own_base hown' (by omega)) (by simp)
      have hqs : Qs wq (.slice (some ⟨gq, 0, none⟩) nb cq) vs (byL zs) := Qs.other hQ (hBq) hBs (fun x e => by simp [Value.ownBlock] at e; omega)
      have hHR := Lib.hid hRb
      have hHB := Lib.hid hB
      have hHW := Lib.hid hW0
      have HBS := Lib.hid hBs
      have hbf : Hid (Bfs zs [] (byL zs)) := bfs_start zs
      have hne0 : ∀ x, (.slice (some ⟨wr.heap.size, 0, none⟩) 0 0 : Value).ownBlock = some x → (.slice (some ⟨gq, 0, none⟩) nb cq : Value).ownBlock ≠ some x := fun x e e' => by simp [Value.ownBlock] at e e'; omega
      have hgl2 := hgl.2
      have hql : (byL zs).length ≤ 12 + 12 * 0 := by omega
      clear hE0 hcl hvl hO0 q1 q2 q3 hBa hgrow hat hown' hQ hown hRb hB hW0 hBs
      generalize hWB : wr = wb at *
      go_loopw [6, 7] (fun vo vq W => ∃ (go co : Nat) (vso vsq : List Value) (out q : List (List Int)), vo = .slice (some ⟨go, 0, none⟩) out.length co ∧ OV W wb.heap.size vo vso out ∧ Rq W wb.heap.size vq q.length vsq ∧ Qs W vq vsq q ∧ (∀ x, vo.ownBlock = some x → vq.ownBlock ≠ some x) ∧ Hid (Bfs zs out q) ∧ out.length ≤ 400 ∧ q.length ≤ 12 + 12 * out.length ∧ Below wb.heap.size wb W) (fun vo vq _ => (401 - vlen vo) * 13 + vlen vq)
      case atStart => exact ⟨_, _, [], vs, [], byL zs, rfl, hov, hrq, hqs, hne0, hbf, by simp, hql, hBq⟩
      case round =>
        clear hov hrq hqs hne0 hbf hql hBq
        obtain ⟨go, co, vso, vsq, out, q, rfl, hov, hrq, hqs, hne, HBF, ho4, hql, hBW⟩ := hrel
        have HBW := Lib.hid (hHB.out.trans (hBW.mono hHW.out))
        obtain ⟨g2, o2, c2, rfl, hg2, hg2l, hn2, hcq⟩ := hrq.form
        cases q with
        | nil =>
          have HF := Lib.hid (ofs_yes HO.out HCF.out (bfs_end HBF.out ho4))
          have HOS := Lib.hid (hov.oss.more hHW.out (Nat.le_refl _))
          clear hrq hqs hcq hne hov
          go_wp2
          go_ret2
          exact ⟨_, by rw [HF.out.2]; rfl, by rw [HF.out.1]; exact HOS.out, HBW.out⟩
        | cons f q =>
          obtain ⟨Ai, ci, hu0, hrf, hnf⟩ := hqs.2 0 f rfl
          obtain ⟨u, vsq, rfl⟩ : ∃ u r, vsq = u :: r := by cases vsq with
            | nil => simp at hu0
            | cons u r => exact ⟨u, r, rfl⟩
          have hu1 : u = .slice Ai f.length ci := by simpa using hu0
          subst hu1
          have hfc := bfs_ch HBF.out HZ.out f (.inr (by simp))
          have h6 := isC_len hfc.1
          obtain ⟨aF, rfl, haF, hcF⟩ := hrf.2.2 (show 0 < f.length by omega)
          have hqc := hcq 0 _ rfl
          rw [Addr.add_mid, Nat.add_zero] at hqc
          obtain ⟨o3, hif, hrq3⟩ := Rq.pop hrq
          have hRo : RSS wr (some ⟨go, 0, none⟩) out.length out := (RSS.of_own hov.oss).2
          have hfd := l3Find_any (some ⟨go, 0, none⟩) (some aF) out.length f.length co ci out f wr hRo hrf (by omega) (fun L hL => by have := (isC_len (bfs_ch HBF.out HZ.out L (.inl hL)).1).2; omega)
          have HFM : Hid (0 ≤ fndI out f ↔ f ∈ out) := fndI_iff HBF.out.srt
          have HQQ := Lib.hid hqs
          have HOV := Lib.hid hov
          have HRQ := Lib.hid hrq3
          have HRF := Lib.hid hrf
          have HNE := Lib.hid hne
          have hqn : q.length + 1 ≤ 12 + 12 * out.length := hql
          have hqn2 : q.length + 1 ≤ c2 := hn2
          rw [show (f :: q).length = q.length + 1 from rfl]
          have HFC := Lib.hid hfc
          have HNF := Lib.hid hnf
          clear hqs hov hrq3 hrf hu0 hcq hrq hRo hql hn2 hnf hne hfc
          generalize hfn : fndI out f = r at *
          go_wp2_with fail
          refine hfd.mono ?_
          rintro e W1 ⟨rfl, hq1⟩
          have hbW := below_of_drewN' hq1
          have hBW1 := hBW.trans (hbW.mono hBW.size)
          have hov := HOV.out.below hbW
          have hrq := HRQ.out.below hbW
          have hqs := HQQ.out.below hbW
          by_cases hr : 0 ≤ r
          · have hd0 : decide ((0 : Int) ≤ r) = true := decide_eq_true hr
            have hd1 : decide (r ≥ (0 : Int)) = true := decide_eq_true hr
            have HB2 := Lib.hid (bfs_skip HBF.out (HFM.out.1 hr))
            clear hfd hqc hif
            go_wp2
            go_roundw
            case rel => exact ⟨go, co, vso, vsq, out, q, rfl, hov, hrq, hqs.tail.val rfl, HNE.out, HB2, ho4, by omega, hBW1⟩
            case measure => simp only [vlen]; omega
          · have hd0 : decide ((0 : Int) ≤ r) = false := decide_eq_false hr
            have hd1 : decide (r ≥ (0 : Int)) = false := decide_eq_false hr
            have hL0 := own_lit0 W1
            have hrf1 := HRF.out.below hbW
            have haF1 : aF.block < W1.heap.size := by have := hbW.size; omega
            obtain ⟨_, hEq, _, hcF1⟩ := hrf1.2.2 (show 0 < f.length by omega)
            injection hEq with hEq
            subst hEq
            have hc1 : ∀ j u, (ivs f)[j]? = some u → (W1.alloc (.cells #[] 3)).cell? (aF.add j) = some u := fun j u hu => (World.cell?_alloc_lt _ _ _ (by rw [block_of_add]; exact haF1)).trans (hcF1 j u hu)
            have hone : ∀ u ∈ ivs f, u.oneCell' = true := fun u hu => by
              simp only [ivs, List.mem_map] at hu
              obtain ⟨z, _, rfl⟩ := hu
              rfl
            have q1 : 0 + f.length ≤ maxLen := by unfold maxLen; omega
            have q2 : (0 + f.length) * 8 ≤ 140737488355328 := by omega
            have q3 : W1.heap.size ≤ (W1.alloc (.cells #[] 3)).heap.size := by simp
            have hlf : (ivs f).length = f.length * 1 := by simp [ivs]
            have h6f := h6.1
            clear hfd hqc hif hcF hcF1
            go_wp2_with (at_builtin
                         refine wpList_append_own _ rfl _ _ 24 rfl W1.heap.size 3 i0 (.int .i64 0) 1 8 Tryz.underlying24 hi hz0 hz1 hz2 rfl (by decide) (.slice (some ⟨W1.heap.size, 0, none⟩) 0 0) 0 [] rfl hL0 aF f.length ci (ivs f) rfl hlf hc1 hone q1 q2 q3 ?_
                         intro v1 W2 hown1 hgrow1 _
                         have hb2 : Below W1.heap.size W1 W2 := ((Below.refl _ W1).alloc (Nat.le_refl _) _).grown hgrow1 q3 (fun k e => (hL0.lt k e).1)
                         have hown2 : W2.ownsRow W1.heap.size 3 1 v1 f.length (ivs f) := by simpa [ivs] using hown1
                         obtain ⟨gf, cf, rfl, hgf, hgfl⟩ := hown2.form h6f
                         have hov2 := hov.below hb2
                         have hri2 := RI.of_own hown2)
            refine (l3Put_any go out.length co wb.heap.size (some ⟨gf, 0, none⟩) f.length cf vso out f W2 hov2 hri2 (by omega) (fun L hL => by have := (isC_len (bfs_ch HBF.out HZ.out L (.inl hL)).1).2; omega) (by omega) (by omega)).mono ?_
            rintro e W3 ⟨v3, kk, rfl, hkk, hrow3, hdr, hla, hb3⟩
            obtain ⟨gn, cn, rfl, hgn, hgnl⟩ := hrow3.form (by omega)
            have hvl3 : vso.length = out.length := by have := hov2.row.1; omega
            have hs1 := hbW.size
            have hs2 := hb2.size
            have hs3 := hb3.size
            have hwl : wb.heap.size ≤ wr.heap.size := hBW.size
            have hNF : f ∉ out := fun h => absurd (HFM.out.2 h) (by omega)
            have HSR : Hid (Srt (insAt out kk f)) := srt_ins HBF.out.srt hNF hdr hla hkk
            have HLI : Hid ((insAt out kk f).length = out.length + 1) := insAt_len hkk
            have HIN := (hov2.inn.below hb3).more (Nat.le_refl wb.heap.size) hs3
            have hOI : OI W3 wb.heap.size W3.heap.size (.slice (some ⟨gf, 0, none⟩) f.length cf) f := (((OI.of hown2).below hb3).less (by omega)).more hs3
            have hin3 := HIN.ins (L := f) (k := kk) (by omega) hOI (fun i u' hu g' e1 e2 => by
              have h1 := (hov2.inn.lt hu e1)
              have h1' := (hov.inn.lt hu e1)
              have h2 := hown2.lt g' e2
              omega)
            have hov3 : OV W3 wb.heap.size (.slice (some ⟨gn, 0, none⟩) (out.length + 1) cn) ((vso.take kk ++ [.slice (some ⟨gf, 0, none⟩) f.length cf]) ++ vso.drop kk) (insAt out kk f) := ⟨by rw [HLI.out]; exact own_base hrow3 (by omega), hin3⟩
            have hb13 : Below W1.heap.size W1 W3 := hb2.trans (hb3.mono hs2)
            have hrq3 := hrq.below hb13
            have hqs3 := hqs.below hb13
            have hBW3 := hBW1.trans (hb13.mono hBW1.size)
            have hne3 : ∀ x, (.slice (some ⟨gn, 0, none⟩) (out.length + 1) cn : Value).ownBlock = some x → (.slice (some ⟨g2, o3, none⟩) q.length (c2 - 1) : Value).ownBlock ≠ some x := fun x e e' => by
              simp only [Value.ownBlock] at e e'
              injection e with e; injection e' with e'
              omega
            have HMM : Hid (∀ L, L ∈ insAt out kk f ↔ L = f ∨ L ∈ out) := fun L => insAt_mem
            have HBW3 := Lib.hid (hHB.out.trans (hBW3.mono hHW.out))
            clear HIN hOI hin3 hrow3 hdr hla hb3 hb2 hov2 hri2 hown2 hov hrq hqs hb13 hNF hown1 hgrow1 hL0 hrf1 hc1 hone hd0 hd1 hBW1 hBW hvl3
            by_cases h4 : 400 < out.length + 1
            · have hd2 : decide ((400 : Int) < ((out.length : Int) + 1)) = true := decide_eq_true (by omega)
              have hd3 : decide (((out.length : Int) + 1) > (400 : Int)) = true := decide_eq_true (by omega)
              have hd4 : decide ((400 : Int) < ((out.length + 1 : Nat) : Int)) = true := decide_eq_true (by omega)
              have HF := Lib.hid (ofs_no HO.out (fun h => bfs_over HBF.out HSR.out HMM.out (by rw [HLI.out]; exact h4) h.2))
              have hBl := HBW3.out.alloc HBW3.out.size (.cells #[] 24)
              clear hov3 hrq3 hqs3 hBW3
              go_wp2
              go_ret2
              exact ⟨_, by rw [HF.out.2]; rfl, by rw [HF.out.1]; exact oss_lit w W3 HBW3.out, hBl⟩
            · have hd2 : decide ((400 : Int) < ((out.length : Int) + 1)) = false := decide_eq_false (by omega)
              have hd3 : decide (((out.length : Int) + 1) > (400 : Int)) = false := decide_eq_false (by omega)
              have hd4 : decide ((400 : Int) < ((out.length + 1 : Nat) : Int)) = false := decide_eq_false (by omega)
              have HQC : Hid (∀ t, ∀ L ∈ f :: (q ++ proT zs f t), 0 < L.length) := fun t L hL => by
                have hcc : isC L = true ∧ L.length = m := by
                  rcases List.mem_cons.1 hL with e | hL
                  · rw [e]; exact HFC.out
                  · rcases List.mem_append.1 hL with hL | hL
                    · exact bfs_ch HBF.out HZ.out L (.inr (List.mem_cons_of_mem f hL))
                    · obtain ⟨d, hd, rfl⟩ := List.mem_map.1 hL
                      exact nxR_ch HZ.out f HFC.out _ ⟨d, byL_mem.1 (List.mem_of_mem_take hd), rfl⟩
                exact (isC_len hcc.1).1
              have HQ0 : Hid (q ++ proT zs f 0 = q) := by show _ = _; simp [proT]
              have HFQ := Lib.hid hqs3
              have hg2n : gn ≠ g2 := fun e => hne3 gn rfl (by rw [e]; rfl)
              generalize ((vso.take kk ++ [Value.slice (some ⟨gf, 0, none⟩) f.length cf]) ++ vso.drop kk) = vs3 at hov3
              clear hne3
              go_wp2
              clear hd2 hd3 hd4 hqs3
              go_loopw [7, 9] (fun vq iv W => ∃ (t g5 o5 c5 : Nat) (vs5 : List Value), t ≤ nb ∧ iv = .int .i64 (t : Int) ∧ vq = .slice (some ⟨g5, o5, none⟩) (q ++ proT zs f t).length c5 ∧ OV W wb.heap.size (.slice (some ⟨gn, 0, none⟩) (out.length + 1) cn) vs3 (insAt out kk f) ∧ Rq W wb.heap.size vq (q ++ proT zs f t).length vs5 ∧ Qs W vq (.slice (some aF) f.length ci :: vs5) (f :: (q ++ proT zs f t)) ∧ gn ≠ g5 ∧ Below wb.heap.size wb W) (fun _ iv _ => nb - (intOf iv).toNat)
              case atStart => exact ⟨0, g2, o3, c2 - 1, vsq, Nat.zero_le _, rfl, by rw [HQ0.out], hov3, by rw [HQ0.out]; exact hrq3, by rw [HQ0.out]; exact HFQ.out.val rfl, hg2n, hBW3⟩
              case round =>
                clear hov3 hrq3 hg2n hBW3 HFQ
                obtain ⟨t, g5, o5, c5, vs5, ht, rfl, rfl, hov, hrq, hqs, hne5, hBW⟩ := hrel
                have hpl : (q ++ proT zs f t).length ≤ q.length + t := by rw [List.length_append]; have := proT_len (zs := zs) (f := f) (k := t); omega
                by_cases hlt : t < nb
                · obtain ⟨M, hM⟩ : ∃ M, (byL zs)[t]? = some M := ⟨_, List.getElem?_eq_getElem (by omega)⟩
                  have hMz := HFZ.out M (byL_mem.1 (List.mem_of_getElem? hM))
                  obtain ⟨ad, Am, cm, hA, _, hcm, hrM⟩ := (hHR.out.below hBW).at_ hlt
                  injection hA with hA
                  subst hA
                  have hlm : M.length = f.length := hMz.2.trans HFC.out.2.symm
                  rw [hM, Option.getD_some, hlm] at hcm hrM
                  rw [Addr.add_mid, Nat.zero_add] at hcm
                  obtain ⟨Af, cf2, hfe, hrf, _⟩ := hqs.2 0 f rfl
                  have hfe2 : Value.slice (some aF) f.length ci = .slice Af f.length cf2 := by simpa using hfe
                  injection hfe2 with hf1 _ hf3
                  subst hf1 hf3
                  have hcall := l1Ti_any (some aF) Am f.length ci cm f M wr hrf hrM (isP_of HFC.out.1 hMz.1 hlm.symm)
                  have hisP := isP_of HFC.out.1 hMz.1 hlm.symm
                  have hTl : 0 < (tiL f M).length := by rw [tiL_len hisP]; exact h6.1
                  have HT : Hid (q ++ proT zs f (t + 1) = (q ++ proT zs f t) ++ [tiL f M]) := by show _ = _; rw [proT_succ hM, List.append_assoc]
                  have HLL : Hid (∀ L ∈ (f :: (q ++ proT zs f t)) ++ [tiL f M], 0 < L.length) := fun L hL => HQC.out (t + 1) L (by rw [HT.out, ← List.cons_append]; exact hL)
                  have HMM2 := Lib.hid hMz
                  have hs := hBW.size
                  clear hM hMz hrM hrf hisP hlm hfe
                  generalize q ++ proT zs f t = Q5 at *
                  have p1 : Q5.length + 1 ≤ maxLen := by unfold maxLen; omega
                  have p2 : (Q5.length + 1) * 24 ≤ 140737488355328 := by omega
                  go_wp2_with fail
                  refine hcall.mono ?_
                  rintro e W1 ⟨v1, rfl, hN1, hb1⟩
                  obtain ⟨g6, c6, rfl, hg6, _⟩ := hN1.form (by omega)
                  have hs1 := hb1.size
                  have hov1 := (hov.below hb1).alloc (.cells #[.slice (some ⟨g6, 0, none⟩) (tiL f M).length c6] 24)
                  have hrq1 := (hrq.below hb1).alloc (.cells #[.slice (some ⟨g6, 0, none⟩) (tiL f M).length c6] 24)
                  have hg5 := hrq.lt g5 rfl
                  have hqs1 := ((hqs.below hb1).snoc (ci := c6) (RI.of_own hN1) (fun ad e => by injection e with e; subst e; simp only [Value.ownBlock]; intro e'; injection e' with e'; omega)).alloc (.cells #[.slice (some ⟨g6, 0, none⟩) (tiL f M).length c6] 24)
                  have hB1 := (hBW.trans (hb1.mono hs)).alloc (by omega) (.cells #[.slice (some ⟨g6, 0, none⟩) (tiL f M).length c6] 24)
                  have hgs := hg5.1
                  have hbs : wb.heap.size ≤ (W1.alloc (.cells #[.slice (some ⟨g6, 0, none⟩) (tiL f M).length c6] 24)).heap.size := by simp; omega
                  have hone3 : ∀ u ∈ [Value.slice (some ⟨g6, 0, none⟩) (tiL f M).length c6], u.oneCell' = true := by intro u hu; rw [List.mem_singleton.1 hu]; rfl
                  clear hcall hcm hov hrq hqs hBW
                  go_wp2_with (at_builtin
                               refine wpList_append_q _ rfl _ _ 23 rfl wb.heap.size i1 (.slice none 0 0) 24 Tryz.underlying23 hj hj0 hj1 hj2 rfl (.slice (some ⟨g5, o5, none⟩) Q5.length c5) Q5.length vs5 rfl hrq1 ⟨W1.heap.size, 0, none⟩ 1 1 [.slice (some ⟨g6, 0, none⟩) (tiL f M).length c6] rfl rfl (cell_one_new _ _ _) hone3 (by decide) p1 p2 hbs ?_
                               intro v7 W7 hrq7 hgr7 hat7)
                  obtain ⟨g7, o7, c7', hv7, hg7, _⟩ := hrq7.form
                  subst hv7
                  have hov7 := hov1.kept_q hrq1 (fun x e e' => by simp only [Value.ownBlock] at e e'; injection e with e; injection e' with e'; omega) hgr7
                  have hqs7 := hqs1.grown HLL.out hgr7 hat7
                  have hB7 := hB1.grown hgr7 (by simp; omega) (fun x e => by simp only [Value.ownBlock] at e; injection e with e; omega)
                  have hne7 : gn ≠ g7 := fun e => by
                    rcases hat7 with h7 | h7
                    · simp only [Value.ownBlock] at h7; injection h7 with h7; omega
                    · have := h7 g7 rfl; simp at this
                      have := (hov1.row.lt gn rfl).2
                      simp at this; omega
                  have HQL : Hid ((Q5 ++ [tiL f M]).length = Q5.length + 1) := by show _ = _; simp
                  clear hov1 hrq1 hqs1 hB1 hgr7 hat7
                  go_wp2
                  go_roundw
                  case rel => exact ⟨t + 1, g7, o7, c7', _, by omega, by go_num, by rw [HT.out, HQL.out], hov7, by rw [HT.out, HQL.out]; exact hrq7, by rw [HT.out]; exact hqs7, hne7, hB7⟩
                  case measure => simp [intOf]; omega
                · obtain rfl : t = nb := by omega
                  have HBN := Lib.hid (bfs_put HBF.out HSR.out HMM.out (k := t) (by rw [hB0]; exact Nat.le_refl _))
                  have hol : (insAt out kk f).length ≤ 400 := by rw [HLI.out]; omega
                  have hqb : (q ++ proT zs f t).length ≤ 12 + 12 * (insAt out kk f).length := by rw [HLI.out]; omega
                  go_wp2
                  go_roundw
                  case rel => exact ⟨gn, cn, vs3, vs5, insAt out kk f, q ++ proT zs f t, by rw [HLI.out], hov, hrq, hqs.tail, (fun x e e' => by simp only [Value.ownBlock] at e e'; injection e with e; injection e' with e'; omega), HBN, hol, hqb, hBW⟩
                  case measure => simp only [vlen]; omega
theorem specOf_any (A : Option Addr) (n c : Nat) (zs OL : List (List Int)) (OB : Bool) (hO : Ofs zs OL OB) (w : World) (h : RSS w A n zs) (hn : n ≤ 1048576) (hl : ∀ L ∈ zs, L.length ≤ 1048576) :
    Calls Tryz.prog 101 #[.slice A n c] w fun e w' => ∃ v, e = .returned (.tuple #[v, .bool OB]) ∧ OSS w' w.heap.size w'.heap.size v OL ∧ Below w.heap.size w w' := by
  cases hc : cfB zs 6
  · exact specOf_no A n c zs OL OB hO w h hn hl hc
  · exact specOf_yes A n c zs OL OB hO w h hc
end

end Go.Proofs.YtmknjifmmmnjjaaGreatDoor
