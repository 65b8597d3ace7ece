/-
  SS SSW Lists Obj L2A L2B L2C L2D L2E L2F L2H L2I L2K WayH.
-/
import Derived.Maps.AppendAt
import Derived.WalkKit
import Derived.Deep.QuietTactic
import Derived.BigQuiet
import Derived.Outline
import Derived.StillTailTactics
import Derived.Deep.Matrix
import Derived.Test.YtkfiehndlgplgaaGreatDoorMA
import Derived.Test.YtkfiehndlgplgaaGreatDoorMB
import Derived.Test.YtkfiehndlgplgaaGreatDoorMD
namespace Go.Proofs.YtkfiehndlgplgaaGreatDoor
set_option maxRecDepth 100000
set_option linter.unusedVariables false
set_option linter.unusedSimpArgs false
set_option linter.unusedSectionVars false

/-! Lists of lists in memory: a slice of slices of ints that reads as a list of lists; one whose blocks are all the call's own and apart. -/
section
open Go.RowKit

theorem info_ints : (Tryz.prog.info? 24).map (fun i => (i.zero, i.size, i.bytes)) = some (some (.slice none 0 0), 1, 24) := by kernel_rfl

/-- a slice value that is read: none of the lists is longer than it says -/
def RSS (w : World) (A : Option Addr) (n : Nat) (Ls : List (List Int)) : Prop :=
  Ls.length = n ∧ ∃ vs : List Value, Reads w w.heap.size 1 A n vs ∧ ∀ (i : Nat) (L : List Int), Ls[i]? = some L → ∃ (Ai : Option Addr) (ci : Nat), vs[i]? = some (.slice Ai L.length ci) ∧ RI w Ai L.length L
section
variable {w w' : World} {A : Option Addr} {n : Nat} {Ls : List (List Int)}
theorem RSS.len (h : RSS w A n Ls) : Ls.length = n := h.1
theorem RSS.below (h : RSS w A n Ls) (hb : Below w.heap.size w w') : RSS w' A n Ls := by
  obtain ⟨h1, vs, h2, h3⟩ := h
  refine ⟨h1, vs, (h2.below hb).more hb.size, fun i L hi => ?_⟩
  obtain ⟨Ai, ci, hv, hr⟩ := h3 i L hi
  exact ⟨Ai, ci, hv, hr.below hb⟩
theorem RSS.at_ (h : RSS w A n Ls) {k : Nat} (hk : k < n) : ∃ (ad : Addr) (Ai : Option Addr) (ci : Nat), A = some ad ∧ ad.block < w.heap.size ∧ w.cell? (ad.add k) = some (.slice Ai (Ls[k]?.getD []).length ci) ∧ RI w Ai (Ls[k]?.getD []).length (Ls[k]?.getD []) := by
  obtain ⟨h1, vs, h2, h3⟩ := h
  obtain ⟨ad, u, e, hb, hu, hc⟩ := h2.at_ hk
  obtain ⟨Ai, ci, hv, hr⟩ := h3 k _ (List.getElem?_eq_getElem (show k < Ls.length by omega))
  rw [hu] at hv
  injection hv with hv
  subst hv
  rw [List.getElem?_eq_getElem (show k < Ls.length by omega)]
  exact ⟨ad, Ai, ci, e, hb, hc, hr⟩
theorem RSS.none_ : RSS w none 0 [] := ⟨rfl, [], Reads.none_, fun i L h => by simp at h⟩
end

/-- what lies outside the blocks from lo on, below hi, stays -/
structure Btw (lo hi : Nat) (w w' : World) : Prop where
  os : w'.os = w.os
  tape : w'.tape = w.tape
  output : w'.output = w.output
  size : w.heap.size ≤ w'.heap.size
  block : ∀ k, k < w.heap.size → k < lo ∨ hi ≤ k → w'.heap[k]? = w.heap[k]?
section
variable {w w' w'' : World} {lo hi lo' hi' : Nat}
theorem Btw.refl (lo hi : Nat) (w : World) : Btw lo hi w w := ⟨rfl, rfl, rfl, Nat.le_refl _, fun _ _ _ => rfl⟩
theorem Btw.trans (h : Btw lo hi w w') (k : Btw lo hi w' w'') : Btw lo hi w w'' :=
  ⟨k.os.trans h.os, k.tape.trans h.tape, k.output.trans h.output, Nat.le_trans h.size k.size, fun i hi' ho => (k.block i (by have := h.size; omega) ho).trans (h.block i hi' ho)⟩
theorem Btw.wide (h : Btw lo hi w w') (h1 : lo' ≤ lo) (h2 : hi ≤ hi') : Btw lo' hi' w w' := ⟨h.os, h.tape, h.output, h.size, fun k hk ho => h.block k hk (by omega)⟩
theorem Btw.below (h : Btw lo hi w w') {B : Nat} (hB : B ≤ lo) (hs : B ≤ w.heap.size) : Below B w w' := ⟨h.os, h.tape, h.output, h.size, fun k hk => h.block k (by omega) (.inl (by omega))⟩
theorem Btw.drew (h : Btw lo hi w w') : Btw lo hi w w'.drew := ⟨h.os, h.tape, h.output, h.size, h.block⟩
theorem Btw.grown (h : Btw lo hi w w') {row : Option Nat} (hg : w'.grownBy w'' row) (hr : ∀ g, row = some g → lo ≤ g ∧ g < hi) : Btw lo hi w w'' :=
  h.trans ⟨hg.os, hg.tape, hg.output, hg.size, fun k hk ho => hg.block k hk (fun e => by have := hr k e.symm; omega)⟩
end

theorem own_same {w w' : World} {base size n : Nat} {e : TypeId} {v : Value} {xs : List Value} (h : w.ownsRow base e size v n xs) (hs : ∀ g, v.ownBlock = some g → w'.heap[g]? = w.heap[g]?) : w'.ownsRow base e size v n xs := by
  refine ⟨h.1, ?_⟩
  rcases h.2 with h2 | ⟨g, cap, cur, rfl, hb, hh, hr⟩
  · exact .inl h2
  · exact .inr ⟨g, cap, cur, rfl, hb, by rw [hs g rfl]; exact hh, hr⟩

/-- a list of ints whose block lies from lo on, below hi -/
def OI (w : World) (lo hi : Nat) (v : Value) (zs : List Int) : Prop := w.ownsRow lo 3 1 v zs.length (ivs zs) ∧ ∀ g, v.ownBlock = some g → g < hi
section
variable {w w' : World} {lo hi lo' hi' : Nat} {v : Value} {zs : List Int}
theorem OI.same (h : OI w lo hi v zs) (hs : ∀ g, v.ownBlock = some g → w'.heap[g]? = w.heap[g]?) : OI w' lo hi v zs := ⟨own_same h.1 hs, h.2⟩
theorem OI.below (h : OI w lo hi v zs) (hb : Below w.heap.size w w') : OI w' lo hi v zs := h.same fun g hg => hb.block g (h.1.lt g hg).2
theorem OI.more (h : OI w lo hi v zs) (hh : hi ≤ hi') : OI w lo hi' v zs := ⟨h.1, fun g hg => by have := h.2 g hg; omega⟩
theorem own_base {base base' size n : Nat} {e : TypeId} {xs : List Value} (h : w.ownsRow base e size v n xs) (hb : base' ≤ base) : w.ownsRow base' e size v n xs := by
  refine ⟨h.1, ?_⟩
  rcases h.2 with h2 | ⟨g, cap, cur, rfl, h3, hr⟩
  · exact .inl h2
  · exact .inr ⟨g, cap, cur, rfl, by omega, hr⟩
theorem OI.less (h : OI w lo hi v zs) (hh : lo' ≤ lo) : OI w lo' hi v zs := ⟨own_base h.1 hh, h.2⟩
theorem OI.of {base : Nat} (h : w.ownsRow base 3 1 v zs.length (ivs zs)) : OI w base w.heap.size v zs := ⟨h, fun g hg => (h.lt g hg).2⟩
theorem OI.btw (h : OI w lo hi v zs) (hb : Btw lo' hi' w w') (ha : hi ≤ lo' ∨ hi' ≤ lo) : OI w' lo hi v zs :=
  h.same fun g hg => hb.block g (h.1.lt g hg).2 (by have := h.1.lt g hg; have := h.2 g hg; omega)
theorem OI.slice (h : OI w lo hi v zs) : ∃ A c, v = .slice A zs.length c := own_slice h.1
end

/-- the inner lists: each a block of its own -/
structure Inn (w : World) (lo hi : Nat) (vs : List Value) (Ls : List (List Int)) : Prop where
  len : vs.length = Ls.length
  own : ∀ (i : Nat) (u : Value) (L : List Int), vs[i]? = some u → Ls[i]? = some L → OI w lo hi u L
  apart : ∀ (i j : Nat) (u u' : Value) (g : Nat), i ≠ j → vs[i]? = some u → vs[j]? = some u' → u.ownBlock = some g → u'.ownBlock = some g → False

/-- a list of lists whose blocks are all owned and apart, from lo on, below hi -/
def OSS (w : World) (lo hi : Nat) (v : Value) (Ls : List (List Int)) : Prop :=
  ∃ vs, w.ownsRow lo 24 1 v Ls.length vs ∧ (∀ g, v.ownBlock = some g → g < hi) ∧ Inn w lo hi vs Ls

section
variable {w w' : World} {lo hi lo' hi' : Nat} {v : Value} {vs : List Value} {Ls : List (List Int)}
theorem Inn.nil : Inn w lo hi [] [] := ⟨rfl, fun i u L h => by simp at h, fun i j u u' g _ h => by simp at h⟩
theorem Inn.lt (h : Inn w lo hi vs Ls) {i : Nat} {u : Value} (hu : vs[i]? = some u) {g : Nat} (hg : u.ownBlock = some g) : lo ≤ g ∧ g < hi ∧ g < w.heap.size := by
  have hl : i < vs.length := (List.getElem?_eq_some_iff.1 hu).1
  have o := h.own i u _ hu (List.getElem?_eq_getElem (show i < Ls.length by rw [← h.len]; exact hl))
  have := o.1.lt g hg
  exact ⟨this.1, o.2 g hg, this.2⟩
theorem Inn.same (h : Inn w lo hi vs Ls) (hs : ∀ (i : Nat) (u : Value), vs[i]? = some u → ∀ g : Nat, u.ownBlock = some g → w'.heap[g]? = w.heap[g]?) : Inn w' lo hi vs Ls :=
  ⟨h.len, fun i u L hu hL => (h.own i u L hu hL).same (hs i u hu), h.apart⟩
theorem Inn.below (h : Inn w lo hi vs Ls) (hb : Below w.heap.size w w') : Inn w' lo hi vs Ls := h.same fun _ _ hu g hg => hb.block g (h.lt hu hg).2.2
theorem Inn.more (h : Inn w lo hi vs Ls) (h1 : lo' ≤ lo) (h2 : hi ≤ hi') : Inn w lo' hi' vs Ls := ⟨h.len, fun i u L hu hL => ((h.own i u L hu hL).more h2).less h1, h.apart⟩
theorem Inn.btw (h : Inn w lo hi vs Ls) (hb : Btw lo' hi' w w') (ha : hi ≤ lo' ∨ hi' ≤ lo) : Inn w' lo hi vs Ls :=
  h.same fun _ _ hu g hg => hb.block g (h.lt hu hg).2.2 (by have := h.lt hu hg; omega)
/-- a store into a block of another type -/
theorem Inn.type {t : TypeId} {g : Nat} {cs : Array Value} (h : Inn w lo hi vs Ls) (hk : Blk w g t cs) (hne : 3 ≠ t) {i : Nat} {u : Value} (hu : vs[i]? = some u) : u.ownBlock ≠ some g := by
  have hl : i < vs.length := (List.getElem?_eq_some_iff.1 hu).1
  have o := h.own i u _ hu (List.getElem?_eq_getElem (show i < Ls.length by rw [← h.len]; exact hl))
  exact own_blk_ne o.1 hk hne
theorem Inn.snoc (h : Inn w lo hi vs Ls) {u : Value} {L : List Int} (hu : OI w lo hi u L) (ha : ∀ (i : Nat) (u' : Value), vs[i]? = some u' → ∀ g : Nat, u'.ownBlock = some g → u.ownBlock = some g → False) : Inn w lo hi (vs ++ [u]) (Ls ++ [L]) := by
  refine ⟨by simp [h.len], fun i x y hx hy => ?_, fun i j x x' g hij hx hx' hg hg' => ?_⟩
  · by_cases hi' : i < vs.length
    · rw [List.getElem?_append_left hi'] at hx
      rw [List.getElem?_append_left (by rw [← h.len]; exact hi')] at hy
      exact h.own i x y hx hy
    · have hl : i < (vs ++ [u]).length := (List.getElem?_eq_some_iff.1 hx).1
      have he : i = vs.length := by simp at hl; omega
      subst he
      rw [List.getElem?_append_right (Nat.le_refl _), Nat.sub_self] at hx
      rw [h.len, List.getElem?_append_right (Nat.le_refl _), Nat.sub_self] at hy
      simp at hx hy; subst hx hy; exact hu
  · have hl : i < (vs ++ [u]).length := (List.getElem?_eq_some_iff.1 hx).1
    have hl' : j < (vs ++ [u]).length := (List.getElem?_eq_some_iff.1 hx').1
    simp at hl hl'
    by_cases hi' : i < vs.length
    · rw [List.getElem?_append_left hi'] at hx
      by_cases hj' : j < vs.length
      · rw [List.getElem?_append_left hj'] at hx'
        exact h.apart i j x x' g hij hx hx' hg hg'
      · have he : j = vs.length := by omega
        subst he
        rw [List.getElem?_append_right (Nat.le_refl _), Nat.sub_self] at hx'
        simp at hx'; subst hx'
        exact ha i x hx g hg hg'
    · have he : i = vs.length := by omega
      subst he
      rw [List.getElem?_append_right (Nat.le_refl _), Nat.sub_self] at hx
      simp at hx; subst hx
      rw [List.getElem?_append_left (by omega)] at hx'
      exact ha j x' hx' g hg' hg
theorem Inn.set_ (h : Inn w lo hi vs Ls) {i : Nat} {u : Value} {L : List Int} (hu : vs[i]? = some u) (hL : OI w' lo hi u L) (hs : ∀ k, k < w.heap.size → u.ownBlock ≠ some k → w'.heap[k]? = w.heap[k]?) : Inn w' lo hi vs (Ls.set i L) := by
  refine ⟨by simp [h.len], fun j x y hx hy => ?_, h.apart⟩
  by_cases e : i = j
  · subst e
    rw [hu] at hx; injection hx with hx; subst hx
    have hl : i < vs.length := (List.getElem?_eq_some_iff.1 hu).1
    rw [List.getElem?_set_self (by rw [← h.len]; exact hl)] at hy
    injection hy with hy; subst hy; exact hL
  · rw [List.getElem?_set_ne e] at hy
    exact (h.own j x y hx hy).same fun g hg => hs g (h.lt hx hg).2.2 (fun e' => h.apart i j u x g e hu hx e' hg)

theorem OSS.below (h : OSS w lo hi v Ls) (hb : Below w.heap.size w w') : OSS w' lo hi v Ls := by
  obtain ⟨vs, h1, h2, h3⟩ := h
  exact ⟨vs, own_same h1 fun g hg => hb.block g (h1.lt g hg).2, h2, h3.below hb⟩
theorem OSS.more (h : OSS w lo hi v Ls) (a : lo' ≤ lo) (b : hi ≤ hi') : OSS w lo' hi' v Ls := by
  obtain ⟨vs, h1, h2, h3⟩ := h
  exact ⟨vs, own_base h1 a, fun g hg => by have := h2 g hg; omega, h3.more a b⟩
theorem OSS.btw (h : OSS w lo hi v Ls) (hb : Btw lo' hi' w w') (ha : hi ≤ lo' ∨ hi' ≤ lo) : OSS w' lo hi v Ls := by
  obtain ⟨vs, h1, h2, h3⟩ := h
  exact ⟨vs, own_same h1 fun g hg => hb.block g (h1.lt g hg).2 (by have := h1.lt g hg; have := h2 g hg; omega), h2, h3.btw hb ha⟩
theorem OSS.slice (h : OSS w lo hi v Ls) : ∃ A c, v = .slice A Ls.length c := by
  obtain ⟨vs, h1, h2, h3⟩ := h
  exact own_slice h1
theorem ri_oi {A : Option Addr} {n c : Nat} {zs : List Int} (h : OI w lo hi (.slice A n c) zs) : n = zs.length ∧ RI w A zs.length zs := by
  obtain ⟨A', c', e⟩ := h.slice
  injection e with e1 e2 e3
  subst e1 e2 e3
  exact ⟨rfl, RI.of_own h.1⟩
theorem RSS.of_own {A : Option Addr} {n c : Nat} (h : OSS w lo hi (.slice A n c) Ls) : n = Ls.length ∧ RSS w A Ls.length Ls := by
  obtain ⟨A', c', e⟩ := h.slice
  injection e with e1 e2 e3
  subst e1 e2 e3
  obtain ⟨vs, h1, h2, h3⟩ := h
  refine ⟨rfl, rfl, vs, Reads.of_own h1, fun i L hL => ?_⟩
  have hl : i < vs.length := by rw [h3.len]; exact (List.getElem?_eq_some_iff.1 hL).1
  have o := h3.own i _ L (List.getElem?_eq_getElem hl) hL
  obtain ⟨Ai, ci, e⟩ := o.slice
  refine ⟨Ai, ci, by rw [List.getElem?_eq_getElem hl, e], ?_⟩
  rw [e] at o
  exact RI.of_own o.1
/-- the empty list of lists -/
theorem OSS.lit0 (w : World) : OSS (w.alloc (.cells #[] 24)) w.heap.size (w.heap.size + 1) (.slice (some ⟨w.heap.size, 0, none⟩) 0 0) [] :=
  ⟨[], World.ownsRow_lit (base := w.heap.size) (e := 24) (size := 1) w #[] 0 (Nat.le_refl _) (by simp [maxLen]) rfl, fun g hg => by simp [Value.ownBlock] at hg; omega, Inn.nil⟩
/-- one list more, by append -/
theorem OSS.app {w1 : World} {v' u : Value} {vs : List Value} {L : List Int} (h1 : w.ownsRow lo 24 1 v Ls.length vs) (h3 : Inn w lo w.heap.size vs Ls) (hu : OI w lo w.heap.size u L)
    (ha : ∀ (i : Nat) (u' : Value), vs[i]? = some u' → ∀ g : Nat, u'.ownBlock = some g → u.ownBlock = some g → False)
    (hown' : w1.ownsRow lo 24 1 v' (Ls.length + 1) (vs ++ [u])) (hgrow : (w.alloc (.cells #[u] 24)).grownBy w1 v.ownBlock) : OSS w1 lo w1.heap.size v' (Ls ++ [L]) := by
  have hsz : w.heap.size ≤ w1.heap.size := by have := hgrow.size; simp at this; omega
  have hkeep : ∀ k, k < w.heap.size → v.ownBlock ≠ some k → w1.heap[k]? = w.heap[k]? := fun k hk hne =>
    (hgrow.block k (by simp; omega) (fun e => hne e.symm)).trans (Below.heap_alloc w _ k hk)
  have hty : ∀ (x : Value) (g : Nat) (M : List Int), OI w lo w.heap.size x M → x.ownBlock = some g → v.ownBlock ≠ some g := fun x g M hx hg he => by
    rcases h1.2 with ⟨rfl, _⟩ | ⟨g', cap, cur, rfl, _, hh, _⟩
    · simp [Value.ownBlock] at he
    · have : g' = g := by simpa [Value.ownBlock] using he
      subst this
      exact own_blk_ne hx.1 hh (by decide) hg
  have h3' := h3.snoc hu ha
  refine ⟨vs ++ [u], by rw [List.length_append]; exact hown', fun g hg => (hown'.lt g hg).2, ?_⟩
  refine (h3'.same fun i x hx g hg => ?_).more (Nat.le_refl _) hsz
  have hl : i < (vs ++ [u]).length := (List.getElem?_eq_some_iff.1 hx).1
  have o := h3'.own i x _ hx (List.getElem?_eq_getElem (show i < (Ls ++ [L]).length by rw [← h3'.len]; exact hl))
  exact hkeep g (h3'.lt hx hg).2.2 (hty x g _ o hg)
end

/-! ### marks -/
def totL : List (List Int) → Nat
  | [] => 0
  | L :: Ls => L.length + totL Ls
/-- the marks from k on, list by list -/
def mkSS (k : Nat) : List (List Int) → List (List Int)
  | [] => []
  | L :: Ls => LT L.length (mk k) :: mkSS (k + L.length) Ls
theorem mkSS_length : ∀ (k : Nat) (Ls : List (List Int)), (mkSS k Ls).length = Ls.length
  | _, [] => rfl
  | k, L :: Ls => by simp [mkSS, mkSS_length]
theorem mkSS_get : ∀ (Ls : List (List Int)) (k i : Nat), (mkSS k Ls)[i]? = (Ls[i]?).map (fun L => LT L.length (mk (k + totL (Ls.take i))))
  | [], k, i => by simp [mkSS]
  | L :: Ls, k, 0 => by simp [mkSS, totL]
  | L :: Ls, k, i + 1 => by
    simp only [mkSS, List.getElem?_cons_succ, List.take_succ_cons, totL]
    rw [mkSS_get Ls, Nat.add_assoc]
theorem totL_append : ∀ (Ls Ms : List (List Int)), totL (Ls ++ Ms) = totL Ls + totL Ms
  | [], Ms => by simp [totL]
  | L :: Ls, Ms => by simp [totL, totL_append Ls Ms]; omega
theorem totL_take (Ls : List (List Int)) {k : Nat} (hk : k < Ls.length) : totL (Ls.take (k + 1)) = totL (Ls.take k) + (Ls[k]?.getD []).length := by
  rw [List.take_succ_eq_append_getElem hk, totL_append, List.getElem?_eq_getElem hk]
  simp [totL]
theorem totL_le (Ls : List (List Int)) (k : Nat) : totL (Ls.take k) ≤ totL Ls := by
  have h := congrArg totL (List.take_append_drop k Ls)
  rw [totL_append] at h
  omega
theorem totL_mem (Ls : List (List Int)) {k : Nat} (hk : k < Ls.length) : totL (Ls.take k) + (Ls[k]?.getD []).length ≤ totL Ls := by
  rw [← totL_take Ls hk]; exact totL_le Ls _
/-- what is marked when the first i lists are -/
def mkT (k : Nat) (Ls : List (List Int)) (i : Nat) : List (List Int) := (mkSS k Ls).take i ++ Ls.drop i
theorem mkT_zero (k : Nat) (Ls : List (List Int)) : mkT k Ls 0 = Ls := by simp [mkT]
theorem mkT_all (k : Nat) (Ls : List (List Int)) : mkT k Ls Ls.length = mkSS k Ls := by
  simp only [mkT, List.drop_length, List.append_nil]
  exact List.take_of_length_le (by rw [mkSS_length]; exact Nat.le_refl _)
theorem mkT_length (k : Nat) (Ls : List (List Int)) (i : Nat) : (mkT k Ls i).length = Ls.length := by
  simp [mkT, mkSS_length]; omega
theorem mkT_get (k : Nat) (Ls : List (List Int)) {i : Nat} (hi : i < Ls.length) : (mkT k Ls i)[i]? = some (Ls[i]?.getD []) := by
  have hl : ((mkSS k Ls).take i).length = i := by simp [mkSS_length]; omega
  rw [mkT, List.getElem?_append_right (by omega), hl, Nat.sub_self, List.getElem?_drop, Nat.add_zero, List.getElem?_eq_getElem hi]
  rfl
theorem mkT_step (k : Nat) (Ls : List (List Int)) {i : Nat} (hi : i < Ls.length) : (mkT k Ls i).set i (LT (Ls[i]?.getD []).length (mk (k + totL (Ls.take i)))) = mkT k Ls (i + 1) := by
  have hl : ((mkSS k Ls).take i).length = i := by simp [mkSS_length]; omega
  have hl1 : ((mkSS k Ls).take (i + 1)).length = i + 1 := by simp [mkSS_length]; omega
  apply List.ext_getElem?
  intro j
  unfold mkT
  rw [List.getElem?_set]
  by_cases e : i = j
  · subst e
    rw [if_pos rfl, if_pos (by simp [mkSS_length]; omega), List.getElem?_append_left (by omega), List.getElem?_take_of_lt (by omega), mkSS_get, List.getElem?_eq_getElem hi]
    rfl
  · rw [if_neg e]
    by_cases h1 : j < i
    · rw [List.getElem?_append_left (by omega), List.getElem?_append_left (by omega), List.getElem?_take_of_lt h1, List.getElem?_take_of_lt (by omega)]
    · rw [List.getElem?_append_right (by omega), List.getElem?_append_right (by omega), hl, hl1, List.getElem?_drop, List.getElem?_drop]
      congr 1; omega

/-- what szIntSS leaves -/
def szR (left : Int) : List (List Int) → Int
  | [] => left
  | L :: Ls => if left - L.length < 0 then -1 else szR (left - L.length) Ls
theorem szR_nonneg : ∀ (Ls : List (List Int)) (left : Int), 0 ≤ left → 0 ≤ szR left Ls → szR left Ls = left - totL Ls
  | [], left, _, h => by simp [szR, totL]
  | L :: Ls, left, h0, h => by
    unfold szR at h ⊢
    by_cases hc : left - L.length < 0
    · rw [if_pos hc] at h; omega
    · rw [if_neg hc] at h ⊢
      rw [szR_nonneg Ls _ (by omega) h, totL]; push_cast; omega
theorem szR_min : ∀ (Ls : List (List Int)) (left : Int), 0 ≤ left → -1 ≤ szR left Ls
  | [], left, h => by simp [szR]; omega
  | L :: Ls, left, h0 => by
    unfold szR
    by_cases hc : left - L.length < 0
    · rw [if_pos hc]; omega
    · rw [if_neg hc]; exact szR_min Ls _ (by omega)
theorem szR_drop (Ls : List (List Int)) {k : Nat} (hk : k < Ls.length) (left : Int) : szR left (Ls.drop k) = if left - (Ls[k]?.getD []).length < 0 then -1 else szR (left - (Ls[k]?.getD []).length) (Ls.drop (k + 1)) := by
  rw [List.drop_eq_getElem_cons hk, List.getElem?_eq_getElem hk]; rfl
end

/-! The laws' own small functions on slices of slices of ints. -/
section
open Go.RowKit

theorem repl_set {vs : List Value} {u z : Value} {m : Nat} (h : 0 < m) : (vs ++ List.replicate m z).set vs.length u = (vs ++ [u]) ++ List.replicate (m - 1) z := by
  obtain ⟨d, rfl⟩ : ∃ d, m = d + 1 := ⟨m - 1, by omega⟩
  rw [List.set_append_right _ _ (Nat.le_refl _), Nat.sub_self, List.replicate_succ, List.set_cons_zero]
  simp
theorem take_snoc_list (Ls : List (List Int)) {k : Nat} (hk : k < Ls.length) : Ls.take (k + 1) = Ls.take k ++ [Ls[k]?.getD []] := by
  rw [List.take_succ_eq_append_getElem hk, List.getElem?_eq_getElem hk]; rfl
theorem get_len (Ls : List (List Int)) {b k : Nat} (h : ∀ L ∈ Ls, L.length ≤ b) : (Ls[k]?.getD []).length ≤ b := by
  cases e : Ls[k]? with
  | none => simp
  | some L => exact h L (List.mem_of_getElem? e)


def EqPostSS (Ls Ms : List (List Int)) (w : World) (e : Ending) (w' : World) : Prop := e = .returned (.bool (decide (Ls = Ms))) ∧ Below w.heap.size w w'
theorem eq_of_take_list {Ls Ms : List (List Int)} {n : Nat} (h1 : Ls.length = n) (h2 : Ms.length = n) (h : Ls.take n = Ms.take n) : Ls = Ms := by
  rwa [List.take_of_length_le (by omega), List.take_of_length_le (by omega)] at h






/-- what szIntSS tells -/
def szT (left : Int) (Ls : List (List Int)) : Int := if left - Ls.length < 0 then -1 else szR (left - Ls.length) Ls
theorem szT_fits {left : Int} {Ls : List (List Int)} (h0 : 0 ≤ left) (h : 0 ≤ szT left Ls) : szT left Ls = left - Ls.length - totL Ls ∧ 0 ≤ left - Ls.length - totL Ls := by
  unfold szT at h ⊢
  by_cases hc : left - (Ls.length : Int) < 0
  · rw [if_pos hc] at h; omega
  · rw [if_neg hc] at h ⊢
    have := szR_nonneg Ls _ (by omega) h
    omega

end

/-! A slice of slices of ints that came in, as the guide's opening tells it: it reads as a list of lists. -/
section
open Go.RowKit

/-- what a walk is told of a slice of slices of ints that came in -/
def IsRows (w : World) (a : Option Addr) (len : Nat) (Ls : List (List Int)) : Prop := RSS w a len Ls ∧ len ≤ maxLen ∧ ∀ L ∈ Ls, L.length ≤ maxLen
theorem isRows_none (w : World) : IsRows w none 0 [] := ⟨RSS.none_, Nat.zero_le _, fun _ h => by cases h⟩
theorem ri_cells {w : World} {A : Option Addr} {l c : Nat} {zs : List Int} (hlc : l ≤ c) (hz : zs.length = c) (h0 : A = none → c = 0) (hc : ∀ a, A = some a → ∀ i, i < c → w.cell? (a.add i) = some (.int .i64 (zs.getD i 0))) : RI w A l (zs.take l) := by
  refine ⟨by simp; omega, by simp [ivs]; omega, fun hn => ?_⟩
  cases A with
  | none => have := h0 rfl; omega
  | some x =>
    refine ⟨x, rfl, ?_, fun j u hu => ?_⟩
    · have := block_lt_of_cell (hc x rfl 0 (by omega)); rwa [block_of_add] at this
    · have hj : j < (zs.take l).length := by
        rcases Nat.lt_or_ge j (zs.take l).length with h | h
        · exact h
        · rw [List.getElem?_eq_none (by simpa [ivs] using h)] at hu; cases hu
      have hjl : j < l := by simp at hj; omega
      rw [ivs_get, List.getElem?_take_of_lt hjl] at hu
      rw [hc x rfl j (by omega), ← hu, List.getD_eq_getElem?_getD, List.getElem?_eq_getElem (by omega)]
      rfl
theorem isRows_of {w : World} {a : Addr} {len cap : Nat} {A : Nat → Option Addr} {L C : Nat → Nat} {Z : Nat → List Int} (hl : len ≤ cap) (hm : cap ≤ maxLen)
    (hr : ∀ r, r < cap → w.cell? (a.add r) = some (.slice (A r) (L r) (C r)) ∧ L r ≤ C r ∧ C r ≤ maxLen ∧ (Z r).length = C r ∧ (∀ n ∈ Z r, (Lit.int .i64 n).wf = true) ∧ (A r = none → C r = 0) ∧
      ∀ a', A r = some a' → 0 ≤ a'.block ∧ ∀ c, c < C r → w.cell? (a'.add c) = some (.int .i64 ((Z r).getD c 0))) :
    IsRows w (some a) len ((List.range len).map fun r => (Z r).take (L r)) := by
  refine ⟨⟨by simp, (List.range len).map (fun r => .slice (A r) (L r) (C r)), ⟨by simp, fun hn => ⟨a, rfl, ?_, fun j u hu => ?_⟩⟩, fun i M hi => ?_⟩, by omega, fun M hM => ?_⟩
  · have := block_lt_of_cell (hr 0 (by omega)).1; rwa [block_of_add] at this
  · have hj : j < len := by
      rcases Nat.lt_or_ge j len with h | h
      · exact h
      · rw [List.getElem?_eq_none (by simpa using h)] at hu; cases hu
    rw [List.getElem?_map, List.getElem?_range hj] at hu
    rw [(hr j (by omega)).1]; exact hu
  · have hj : i < len := by
      rcases Nat.lt_or_ge i len with h | h
      · exact h
      · rw [List.getElem?_eq_none (by simpa using h)] at hi; cases hi
    rw [List.getElem?_map, List.getElem?_range hj] at hi
    simp only [Option.map_some, Option.some.injEq] at hi
    subst hi
    obtain ⟨_, h2, _, h4, _, h6, h7⟩ := hr i (by omega)
    have hl' : ((Z i).take (L i)).length = L i := by simp; omega
    rw [hl']
    exact ⟨A i, C i, by rw [List.getElem?_map, List.getElem?_range hj]; rfl, ri_cells h2 h4 h6 (fun a' e => (h7 a' e).2)⟩
  · simp only [List.mem_map, List.mem_range] at hM
    obtain ⟨r, hr', rfl⟩ := hM
    obtain ⟨_, h2, h3, h4, _⟩ := hr r (by omega)
    simp; omega
end

/-! Objects of an exact law in intervals of blocks: small words for its walk. -/
section
open Go.RowKit

section
variable {w : World} {lo hi base n c : Nat} {A : Option Addr} {v : Value} {zs : List Int} {Ls : List (List Int)}
theorem OI.ofn (hl : zs.length = n) (h : w.ownsRow base 3 1 v n (ivs zs)) : OI w base w.heap.size v zs := by subst hl; exact OI.of h
theorem OI.form_ (h : OI w lo hi v zs) : ∃ (A : Option Addr) (n c : Nat), v = .slice A n c ∧ n = zs.length := by
  obtain ⟨A, c, e⟩ := h.slice
  exact ⟨A, _, c, e, rfl⟩
theorem OSS.form_ (h : OSS w lo hi v Ls) : ∃ (A : Option Addr) (n c : Nat), v = .slice A n c ∧ n = Ls.length := by
  obtain ⟨A, c, e⟩ := h.slice
  exact ⟨A, _, c, e, rfl⟩
theorem ri_oi_ (h : OI w lo hi (.slice A n c) zs) : RI w A n zs := by
  obtain ⟨rfl, hr⟩ := ri_oi h; exact hr
theorem rss_oss_ (h : OSS w lo hi (.slice A n c) Ls) : RSS w A n Ls := by
  obtain ⟨rfl, hr⟩ := RSS.of_own h; exact hr
theorem rss_mk {k : Nat} (h : OSS w lo hi (.slice A n c) (mkSS k Ls)) : RSS w A n (mkSS k Ls) := rss_oss_ h
theorem szT_min (left : Int) (Ls : List (List Int)) (h : 0 ≤ left) : -1 ≤ szT left Ls := by
  unfold szT
  by_cases hc : left - (Ls.length : Int) < 0
  · rw [if_pos hc]; omega
  · rw [if_neg hc]; exact szR_min Ls _ (by omega)
theorem totL_of_mem {L : List Int} : ∀ {Ls : List (List Int)}, L ∈ Ls → L.length ≤ totL Ls
  | M :: Ls, h => by
    rcases List.mem_cons.1 h with rfl | h
    · simp [totL]
    · have := totL_of_mem h; simp [totL]; omega
theorem totL_bound {Ls : List (List Int)} {a b : Nat} (h1 : Ls.length ≤ a) (h2 : ∀ L ∈ Ls, L.length ≤ b) : totL Ls ≤ a * b := by
  induction Ls generalizing a with
  | nil => simp [totL]
  | cons M Ls ih =>
    obtain ⟨a', rfl⟩ : ∃ a', a = a' + 1 := ⟨a - 1, by simp at h1; omega⟩
    have := ih (a := a') (by simp at h1; omega) (fun L hL => h2 L (List.mem_cons_of_mem _ hL))
    have := h2 M List.mem_cons_self
    simp only [totL]; rw [Nat.succ_mul]; omega
end
end

/-! spec: a way, all ways. -/
section
open Go.RowKit

/-- the length of a slice value -/
def lenOf : Value → Nat | .slice _ n _ => n | _ => 0

/-- a way under way -/
def WInv (F : Nat → Int) (n s k : Nat) : Prop := k < n ∧ 0 ≤ itF F s k ∧ (∀ i, 1 ≤ i → i ≤ k → itF F s i ≠ (s : Int)) ∧ wEnd F s n 0 = wEnd F s (n - k) k
theorem WInv.zero {F : Nat → Int} {n s : Nat} (hs : s < n) : WInv F n s 0 := ⟨by omega, it0 F s, fun i h1 h2 => by omega, rfl⟩
theorem WInv.step {F : Nat → Int} {n s k : Nat} (hF : CH n F) (hs : s < n) (h : WInv F n s k) (h0 : 0 ≤ itF F s (k + 1)) (hne : itF F s (k + 1) ≠ (s : Int)) : WInv F n s (k + 1) := by
  have hne' : ∀ i, 1 ≤ i → i ≤ k + 1 → itF F s i ≠ (s : Int) := fun i h1 h2 => by
    by_cases e : i = k + 1
    · rw [e]; exact hne
    · exact h.2.2.1 i h1 (by omega)
  have := itF_short hF hs h0 hne'
  exact ⟨by omega, h0, hne', by rw [h.2.2.2, wEnd_go h.1 ⟨h0, hne⟩]⟩
theorem WInv.stop {F : Nat → Int} {n s k : Nat} (h : WInv F n s k) (hs : ¬ (0 ≤ itF F s (k + 1) ∧ itF F s (k + 1) ≠ (s : Int))) : wayL F n s = LT (k + 1) (itF F s) := by
  unfold wayL; rw [h.2.2.2, wEnd_stop hs]

end

/-! spec: all ways of a chart, chains and cycles. -/
section
open Go.RowKit

theorem bit0_fin : ∀ (m : Fin 64) (z : Fin 6), (bits BinOp.and IntKind.i64 ((m.val : Int) / 2 ^ z.val) 1 == 0) = !m.val.testBit z.val := by decide +kernel
theorem info_partsS : (Tryz.prog.info? 24).map (fun i => (i.zero, i.size, i.bytes)) = some (some (.slice none 0 0), 1, 24) := info_ints

/-- two lists of lists, no two of whose blocks meet -/
def Two (w : World) (base : Nat) (v1 v2 : Value) (Cs Ys : List (List Int)) : Prop :=
  ∃ vs1 vs2, w.ownsRow base 24 1 v1 Cs.length vs1 ∧ w.ownsRow base 24 1 v2 Ys.length vs2 ∧ (∀ g, v1.ownBlock = some g → v2.ownBlock = some g → False) ∧ vs1.length = Cs.length ∧ Inn w base w.heap.size (vs1 ++ vs2) (Cs ++ Ys)
section
variable {w w' : World} {base : Nat} {v1 v2 v v' u : Value} {Cs Ys Ls : List (List Int)} {vs : List Value}
theorem Two.below (h : Two w base v1 v2 Cs Ys) (hb : Below w.heap.size w w') : Two w' base v1 v2 Cs Ys := by
  obtain ⟨vs1, vs2, h1, h2, h3, h4, h5⟩ := h
  exact ⟨vs1, vs2, own_below h1 hb, own_below h2 hb, h3, h4, (h5.below hb).more (Nat.le_refl _) hb.size⟩
/-- one list more among the inner ones, an outer row having grown -/
theorem inn_app {w1 : World} {n : Nat} {xs : List Value} {L : List Int} (h1 : w.ownsRow base 24 1 v n xs) (h3 : Inn w base w.heap.size vs Ls) (hu : OI w base w.heap.size u L)
    (ha : ∀ (i : Nat) (u' : Value), vs[i]? = some u' → ∀ g : Nat, u'.ownBlock = some g → u.ownBlock = some g → False)
    (hgrow : (w.alloc (.cells #[u] 24)).grownBy w1 v.ownBlock) : Inn w1 base w1.heap.size (vs ++ [u]) (Ls ++ [L]) := by
  have hsz : w.heap.size ≤ w1.heap.size := by have := hgrow.size; simp at this; omega
  have hkeep : ∀ k, k < w.heap.size → v.ownBlock ≠ some k → w1.heap[k]? = w.heap[k]? := fun k hk hne =>
    (hgrow.block k (by simp; omega) (fun e => hne e.symm)).trans (Below.heap_alloc w _ k hk)
  have hty : ∀ (x : Value) (g : Nat) (M : List Int), OI w base w.heap.size x M → x.ownBlock = some g → v.ownBlock ≠ some g := fun x g M hx hg he => by
    rcases h1.2 with ⟨rfl, _⟩ | ⟨g', cap, cur, rfl, _, hh, _⟩
    · simp [Value.ownBlock] at he
    · have : g' = g := by simpa [Value.ownBlock] using he
      subst this
      exact own_blk_ne hx.1 hh (by decide) hg
  have h3' := h3.snoc hu ha
  refine (h3'.same fun i x hx g hg => ?_).more (Nat.le_refl _) hsz
  have hl : i < (vs ++ [u]).length := (List.getElem?_eq_some_iff.1 hx).1
  have o := h3'.own i x _ hx (List.getElem?_eq_getElem (show i < (Ls ++ [L]).length by rw [← h3'.len]; exact hl))
  exact hkeep g (h3'.lt hx hg).2.2 (hty x g _ o hg)
/-- a new list is apart from all older ones -/
theorem fresh_apart {w0 : World} {b0 : Nat} {L : List Int} (h : Inn w0 base b0 vs Ls) (hw : w0.heap.size ≤ w'.heap.size) (hu : w.ownsRow w'.heap.size 3 1 u L.length (ivs L)) :
    ∀ (i : Nat) (u' : Value), vs[i]? = some u' → ∀ g : Nat, u'.ownBlock = some g → u.ownBlock = some g → False := fun i u' hi g e1 e2 => by
  have a := (h.lt hi e1).2.2
  have b := (hu.lt g e2).1
  omega
theorem Two.app1 {w1 : World} {L : List Int} {vs1 : List Value} (h1 : w.ownsRow base 24 1 v1 Cs.length vs1) (h2 : w.ownsRow base 24 1 v2 0 []) (h3 : ∀ g, v1.ownBlock = some g → v2.ownBlock = some g → False) (h4 : Inn w base w.heap.size vs1 Cs)
    (hu : OI w base w.heap.size u L) (ha : ∀ (i : Nat) (u' : Value), vs1[i]? = some u' → ∀ g : Nat, u'.ownBlock = some g → u.ownBlock = some g → False)
    (hown' : w1.ownsRow base 24 1 v' (Cs.length + 1) (vs1 ++ [u])) (hgrow : (w.alloc (.cells #[u] 24)).grownBy w1 v1.ownBlock) (hat : v'.ownBlock = v1.ownBlock ∨ v'.ownBlock = some (w.alloc (.cells #[u] 24)).heap.size) :
    Two w1 base v' v2 (Cs ++ [L]) [] := by
  have h2' : w1.ownsRow base 24 1 v2 0 [] := own_same h2 fun g hg => (hgrow.block g (by have := (h2.lt g hg).2; simp; omega) (fun e => h3 g e.symm hg)).trans (Below.heap_alloc w _ g (h2.lt g hg).2)
  refine ⟨vs1 ++ [u], [], by rw [List.length_append]; exact hown', h2', fun g e1 e2 => ?_, by have := hown'.1; simp at this ⊢; omega, ?_⟩
  · rcases hat with e | e
    · exact h3 g (by rw [← e]; exact e1) e2
    · rw [e] at e1; injection e1 with e1; have := (h2.lt g e2).2; simp at e1; omega
  · rw [List.append_nil, List.append_nil]
    exact inn_app h1 h4 hu ha hgrow
theorem Two.app2 {w1 : World} {L : List Int} {vs1 vs2 : List Value} (h1 : w.ownsRow base 24 1 v1 Cs.length vs1) (h2 : w.ownsRow base 24 1 v2 Ys.length vs2) (h3 : ∀ g, v1.ownBlock = some g → v2.ownBlock = some g → False) (hl : vs1.length = Cs.length) (h4 : Inn w base w.heap.size (vs1 ++ vs2) (Cs ++ Ys))
    (hu : OI w base w.heap.size u L) (ha : ∀ (i : Nat) (u' : Value), (vs1 ++ vs2)[i]? = some u' → ∀ g : Nat, u'.ownBlock = some g → u.ownBlock = some g → False)
    (hown' : w1.ownsRow base 24 1 v' (Ys.length + 1) (vs2 ++ [u])) (hgrow : (w.alloc (.cells #[u] 24)).grownBy w1 v2.ownBlock) (hat : v'.ownBlock = v2.ownBlock ∨ v'.ownBlock = some (w.alloc (.cells #[u] 24)).heap.size) :
    Two w1 base v1 v' Cs (Ys ++ [L]) := by
  have h1' : w1.ownsRow base 24 1 v1 Cs.length vs1 := own_same h1 fun g hg => (hgrow.block g (by have := (h1.lt g hg).2; simp; omega) (fun e => h3 g hg e.symm)).trans (Below.heap_alloc w _ g (h1.lt g hg).2)
  refine ⟨vs1, vs2 ++ [u], h1', by rw [List.length_append]; exact hown', fun g e1 e2 => ?_, hl, ?_⟩
  · rcases hat with e | e
    · exact h3 g e1 (by rw [← e]; exact e2)
    · rw [e] at e2; injection e2 with e2; have := (h1.lt g e1).2; simp at e2; omega
  · rw [← List.append_assoc, ← List.append_assoc]
    exact inn_app h2 h4 hu ha hgrow
end

theorem inn_last {w : World} {base hi : Nat} {vs : List Value} {Ls : List (List Int)} {u : Value} {L : List Int} (h : Inn w base hi (vs ++ [u]) (Ls ++ [L])) : OI w base hi u L := by
  have hl := h.len
  simp at hl
  exact h.own vs.length u L (by simp) (by rw [hl]; simp)
theorem below_app {w wr w1 : World} {base n : Nat} {v : Value} {xs : List Value} {o : Obj} (hB : Below w.heap.size w wr) (hown : wr.ownsRow base 24 1 v n xs) (hb : w.heap.size ≤ base) (hgrow : (wr.alloc o).grownBy w1 v.ownBlock) : Below w.heap.size w w1 := by
  refine (hB.alloc hB.size _).grown hgrow ?_ (fun g hg => by have := (hown.lt g hg).1; omega)
  have := hB.size; simp; omega
/-- a mask grows by a list, point by point -/
theorem orL_step {L : List Int} {m t : Nat} (ht : t < L.length) : orL m (L.take (t + 1)) = orL m (L.take t) ||| 1 <<< (L[t]?.getD 0).toNat := by rw [take_snoc_get L ht, orL_snoc]
theorem orL_take_lt {L : List Int} {m t : Nat} (hm : m < 64) (h : ∀ z ∈ L, 0 ≤ z ∧ z < 6) : orL m (L.take t) < 64 := orL_lt _ _ hm (fun z hz => h z (List.mem_of_mem_take hz))
theorem chL_le (F : Nat → Int) (n m : Nat) : ∀ k, (chL F n m k).length ≤ k
  | 0 => Nat.le_refl _
  | k + 1 => by rw [chL_succ]; have := chL_le F n m k; split <;> simp <;> omega
theorem cyL_le (F : Nat → Int) (n q : Nat) : ∀ k, (cyL F n q k).length ≤ k
  | 0 => Nat.le_refl _
  | k + 1 => by rw [cyL_succ]; have := cyL_le F n q k; split <;> simp <;> omega
theorem raN_range {zs : List Int} (h : isC zs = true) : RangeM zs.length (ofL zs) (raN zs) := fun i hi => by
  have hF := isC_CH h
  have e : raN zs = domL (mv (trn zs.length (ofL zs)) zs.length) := by
    unfold raN; rw [mvT_yes h, fk_yes h]; rfl
  rw [e, dom_bit hF.six (CH_trn hF).en zs.length (Nat.le_refl _) i, decide_eq_true hi, Bool.true_and, decide_eq_false_iff_not, NR_trn hF hi]
  exact Decidable.not_not
theorem raN_lt (zs : List Int) : raN zs < 64 := domL_lt _

end

/-! spec: powers, index, period. -/
section
open Go.RowKit

theorem one_fin : ∀ n : Fin 7, wrap64 (wrap64 (2 ^ n.val) - 1) = ((2 ^ n.val - 1 : Nat) : Int) ∧ 2 ^ n.val - 1 < 64 := by decide +kernel
theorem se_one {n : Nat} (F : Nat → Int) : LT n (seF (2 ^ n - 1)) = LT n (pwF n F 0) := LT_congr (fun j hj => by
  unfold seF pwF; rw [Nat.testBit_two_pow_sub_one, decide_eq_true hj, if_pos rfl, if_pos hj])
theorem pw_times {n k : Nat} {zs : List Int} (hF : CH n (ofL zs)) : LT n (timesL n (ofL zs) (mv (ofL (LT n (pwF n (ofL zs) k))) n)) = LT n (pwF n (ofL zs) (k + 1)) := LT_congr (fun j hj => by
  rw [mv_congr (fun i hi => ofL_pt (pwF n (ofL zs) k) hi), times_cmp hF.six (CH_pw hF k).en hj]; rfl)
theorem pw_ent {n k : Nat} {F : Nat → Int} (hF : CH n F) : Ent n (LT n (pwF n F k)) := en_LT (CH_pw hF k).en

set_option maxHeartbeats 400000 in
/-- l2Same: whether two slices read as the same list -/
theorem l2Same_any (A B : Option Addr) (n m c d : Nat) (zs ys : List Int) (w : World) (h : RI w A n zs) (h' : RI w B m ys) (hn : n ≤ 1048576) :
    Calls Tryz.prog 46 #[.slice A n c, .slice B m d] w (EqPost zs ys w) := by
  by_cases hnm : n = m
  · subst hnm
    have HL := Lib.hid h.len
    have HL' := Lib.hid h'.len
    go_enter Tryz.func46, Tryz.ntmps46
    go_wp2
    go_loopw [5] (fun i wr => ∃ k : Nat, k ≤ n ∧ i = .int .i64 k ∧ Hid (zs.take k = ys.take k) ∧ Below w.heap.size w wr) (fun i _ => n - (intOf i).toNat)
    case atStart => exact ⟨0, Nat.zero_le _, rfl, Lib.hid rfl, Below.refl _ _⟩
    case round =>
      obtain ⟨k, hk, rfl, HT, hbel⟩ := hrel
      by_cases hlt : k < n
      · obtain ⟨ad, rfl, hab, hc⟩ := h.at_ hlt
        obtain ⟨ad', rfl, hab', hc'⟩ := h'.at_ hlt
        have g := (hbel.cell (p := ad.add k) (by rw [block_of_add]; exact hab)).trans hc
        have g' := (hbel.cell (p := ad'.add k) (by rw [block_of_add]; exact hab')).trans hc'
        clear hc hc' h h'
        by_cases he : zs[k]?.getD 0 = ys[k]?.getD 0
        · have ht : ((zs[k]?.getD 0 : Int) != ys[k]?.getD 0) = false := by simp [he]
          have HE := Lib.hid he
          clear he
          go_wp2
          go_quiet (fail)
          all_goals go_wp2
          go_roundw
          case rel =>
            refine ⟨k + 1, by omega, by go_num, ?_, below_drewN hbel _⟩
            show zs.take (k + 1) = ys.take (k + 1)
            rw [take_snoc_get zs (by have := HL.out; omega), take_snoc_get ys (by have := HL'.out; omega), HT.out, HE.out]
          case measure => simp [intOf]; omega
        · have ht : ((zs[k]?.getD 0 : Int) != ys[k]?.getD 0) = true := by simp [he]
          go_wp2
          go_quiet (fail)
          all_goals go_wp2
          go_ret
          refine ⟨?_, below_drewN hbel _⟩
          rw [decide_eq_false (fun e => he (by rw [e]))]
          rfl
      · obtain rfl : k = n := by omega
        go_wp2
        go_ret
        refine ⟨?_, hbel⟩
        rw [decide_eq_true (eq_of_take HL.out HL'.out HT.out)]
        rfl
  · have hb : ((n : Int) != (m : Int)) = true := by rw [bne_iff_ne]; omega
    have HL := Lib.hid h.len
    have HL' := Lib.hid h'.len
    go_enter Tryz.func46, Tryz.ntmps46
    go_wp2
    go_ret
    refine ⟨?_, Below.refl _ _⟩
    rw [decide_eq_false (fun e => hnm (by rw [← HL.out, ← HL'.out, e]))]
    rfl


def idxL (zs : List Int) : Nat := if isC zs = true then idxF zs.length (ofL zs) else 0
def perL (zs : List Int) : Nat := if isC zs = true then perF zs.length (ofL zs) else 0
theorem rk_ofL {n k : Nat} {F : Nat → Int} (hF : CH n F) : popK (domL (mv (ofL (LT n (pwF n F k))) n)) 6 = rkF n F k := by
  rw [mv_congr (fun i hi => ofL_pt (pwF n F k) hi), rk_pw hF]
theorem rk_le6 {n k : Nat} {F : Nat → Int} (hF : CH n F) : rkF n F k ≤ 6 := by have := hF.six; rw [rk_cnt]; have := cnt_le (fun j => decide (0 ≤ itF F j k)) n; omega

end

/-! spec: period, powers, Green's relations, numbers. -/
section
open Go.RowKit

theorem LT_eq_iff {n : Nat} {F G : Nat → Int} : LT n F = LT n G ↔ ∀ j, j < n → F j = G j := by
  constructor
  · intro h j hj
    have := congrArg (fun L => ofL L j) h
    simpa only [ofL_pt _ hj] using this
  · intro h; exact LT_congr h


def powB (zs : List Int) (k : Int) : Bool := isC zs && inB k (-100) 100
def powL (zs : List Int) (k : Int) : List Int := if powB zs k = true then (if k < 0 then LT zs.length (pwF zs.length (ofL (tuL zs)) (0 - k).toNat) else LT zs.length (pwF zs.length (ofL zs) k.toNat)) else []
theorem powL_le (zs : List Int) (k : Int) : (powL zs k).length ≤ 6 := by
  unfold powL powB
  split
  · rename_i h
    have := (isC_len (Bool.and_eq_true _ _ ▸ h).1).2
    split <;> (rw [LT_length]; exact this)
  · simp


/-! ### numbers -/
/-- the loop of ChartNumber -/
def numS (n : Nat) : Nat → Nat × Nat × Nat
  | 0 => (0, 1, 1)
  | k + 1 => let s := numS n k; (s.1 + s.2.1 * s.2.1 * s.2.2, s.2.1 * (n - k) / (k + 1), s.2.2 * (k + 1))
def numN (n : Nat) : Nat := (numS n (n + 1)).1
def numL (n : Int) : Nat := if inB n 0 12 = true then numN n.toNat else 0
theorem numS_fin : ∀ (n : Fin 13) (k : Fin 14), (numS n.val k.val).1 < 4611686018427387904 ∧ (numS n.val k.val).2.1 < 1000 ∧ (numS n.val k.val).2.2 < 1000000000000 := by decide +kernel

end

/-! spec: Green's relations. -/
section
open Go.RowKit

/-- whether one of Green's relations, told by its letter, holds -/
def grL (l : List UInt8) (a b : Bool) (d : Bool) : Bool := if l = [76] then a else if l = [82] then b else if l = [72] then a && b else if l = [68] then d else false
def grB (s : ByteArray) (f g : List Int) : Bool := isP f g && grL s.toList (decide (raN f = raN g)) (decide (doN f = doN g)) (decide (popK (doN f) 6 = popK (doN g) 6))

end

/-! spec: all ways in one list. -/
section
open Go.RowKit

def chainsL (zs : List Int) : List (List Int) := if isC zs = true then chL (ofL zs) zs.length (raN zs) zs.length else []
def cyclesL (zs : List Int) : List (List Int) := if isC zs = true then cyL (ofL zs) zs.length (orSS 0 (chL (ofL zs) zs.length (raN zs) zs.length)) zs.length else []
def waysL (zs : List Int) : List (List Int) := chainsL zs ++ cyclesL zs
theorem inn_keep {w w1 : World} {base hi n : Nat} {v : Value} {xs vs : List Value} {Ls : List (List Int)} (h1 : w.ownsRow base 24 1 v n xs) (h3 : Inn w base hi vs Ls) (hgrow : w.grownBy w1 v.ownBlock) : Inn w1 base hi vs Ls := by
  refine h3.same fun i x hx g hg => hgrow.block g (h3.lt hx hg).2.2 (fun e => ?_)
  have hl : i < vs.length := (List.getElem?_eq_some_iff.1 hx).1
  have o := h3.own i x _ hx (List.getElem?_eq_getElem (show i < Ls.length by rw [← h3.len]; exact hl))
  rcases h1.2 with ⟨rfl, _⟩ | ⟨g', cap, cur, rfl, _, hh, _⟩
  · simp [Value.ownBlock] at e
  · have : g = g' := by simpa [Value.ownBlock] using e
    subst this
    exact own_blk_ne o.1 hh (by decide) hg
theorem inn_one {w : World} {base hi : Nat} {vs : List Value} {Ls : List (List Int)} (h : Inn w base hi vs Ls) : ∀ u ∈ vs, u.oneCell' = true := fun u hu => by
  obtain ⟨i, hi', e⟩ := List.getElem_of_mem hu
  have o := h.own i u _ (by rw [List.getElem?_eq_getElem hi', e]) (List.getElem?_eq_getElem (show i < Ls.length by rw [← h.len]; exact hi'))
  obtain ⟨A, c, rfl⟩ := o.slice
  simp [Value.oneCell']
theorem inn_right {w : World} {base hi : Nat} {vs us : List Value} {Ls Ms : List (List Int)} (hl : vs.length = Ls.length) (h : Inn w base hi (vs ++ us) (Ls ++ Ms)) : Inn w base hi us Ms := by
  have hlen := h.len
  simp only [List.length_append] at hlen
  refine ⟨by omega, fun i u L hu hL => h.own (vs.length + i) u L (by rw [List.getElem?_append_right (by omega)]; simpa using hu) (by rw [List.getElem?_append_right (by omega), hl]; simpa using hL), fun i j u u' g hij hu hu' => ?_⟩
  exact h.apart (vs.length + i) (vs.length + j) u u' g (by omega) (by rw [List.getElem?_append_right (by omega)]; simpa using hu) (by rw [List.getElem?_append_right (by omega)]; simpa using hu')
theorem inn_left {w : World} {base hi : Nat} {vs us : List Value} {Ls Ms : List (List Int)} (hl : vs.length = Ls.length) (h : Inn w base hi (vs ++ us) (Ls ++ Ms)) : Inn w base hi vs Ls := by
  refine ⟨hl, fun i u L hu hL => ?_, fun i j u u' g hij hu hu' => ?_⟩
  · have h1 := (List.getElem?_eq_some_iff.1 hu).1
    exact h.own i u L (by rw [List.getElem?_append_left h1]; exact hu) (by rw [List.getElem?_append_left (by omega)]; exact hL)
  · have h1 := (List.getElem?_eq_some_iff.1 hu).1
    have h2 := (List.getElem?_eq_some_iff.1 hu').1
    exact h.apart i j u u' g hij (by rw [List.getElem?_append_left h1]; exact hu) (by rw [List.getElem?_append_left h2]; exact hu')
/-- chains ahead of cycles, in one list -/
theorem two_join {w w1 : World} {base : Nat} {v1 v' : Value} {Cs Ys : List (List Int)} {vs1 vs2 : List Value} (h1 : w.ownsRow base 24 1 v1 Cs.length vs1) (h5 : Inn w base w.heap.size (vs1 ++ vs2) (Cs ++ Ys))
    (hown' : w1.ownsRow base 24 1 v' (Cs.length + Ys.length) (vs1 ++ vs2)) (hgrow : w.grownBy w1 v1.ownBlock) : OSS w1 base w1.heap.size v' (Cs ++ Ys) :=
  ⟨vs1 ++ vs2, by rw [List.length_append]; exact hown', fun g hg => (hown'.lt g hg).2, (inn_keep h1 h5 hgrow).more (Nat.le_refl _) hgrow.size⟩
theorem own_two_slice {w : World} {base n : Nat} {e : TypeId} {v : Value} {xs : List Value} (h : w.ownsRow base e 1 v n xs) (hne : v ≠ .slice none 0 0) : ∃ (g c : Nat), v = .slice (some ⟨g, 0, none⟩) n c := by
  rcases h.2 with ⟨rfl, rfl⟩ | ⟨g, cap, cur, rfl, _⟩
  · exact absurd rfl hne
  · exact ⟨_, _, rfl⟩

end

/-! spec: all charts of some points. -/
section
open Go.RowKit

/-- blocks below lo and blocks of ints stay -/
structure Fr (lo : Nat) (w w' : World) : Prop where
  os : w'.os = w.os
  tape : w'.tape = w.tape
  output : w'.output = w.output
  size : w.heap.size ≤ w'.heap.size
  block : ∀ k, k < w.heap.size → (k < lo ∨ ∃ cs, w.heap[k]? = some (.cells cs 3 (0, 0))) → w'.heap[k]? = w.heap[k]?
/-- a list of lists, its inner values told -/
structure OV (w : World) (lo : Nat) (v : Value) (vs : List Value) (Ls : List (List Int)) : Prop where
  row : w.ownsRow lo 24 1 v Ls.length vs
  inn : Inn w lo w.heap.size vs Ls
/-- block g is an inner list's -/
def InB (vs : List Value) (g : Nat) : Prop := ∃ u ∈ vs, u.ownBlock = some g
section
variable {w w' w'' : World} {lo : Nat} {v v' u : Value} {vs : List Value} {Ls : List (List Int)}
theorem Fr.refl (lo : Nat) (w : World) : Fr lo w w := ⟨rfl, rfl, rfl, Nat.le_refl _, fun _ _ _ => rfl⟩
theorem Fr.trans (h : Fr lo w w') (k : Fr lo w' w'') : Fr lo w w'' :=
  ⟨k.os.trans h.os, k.tape.trans h.tape, k.output.trans h.output, Nat.le_trans h.size k.size, fun i hi ho => by
    have h1 := h.block i hi ho
    refine (k.block i (Nat.lt_of_lt_of_le hi h.size) ?_).trans h1
    rcases ho with ho | ⟨cs, ho⟩
    · exact .inl ho
    · exact .inr ⟨cs, by rw [h1]; exact ho⟩⟩
theorem Fr.of (hb : Below w.heap.size w w') : Fr lo w w' := ⟨hb.os, hb.tape, hb.output, hb.size, fun k hk _ => hb.block k hk⟩
theorem Fr.below (h : Fr lo w w') (hl : lo ≤ w.heap.size) : Below lo w w' := ⟨h.os, h.tape, h.output, h.size, fun k hk => h.block k (by omega) (.inl hk)⟩
theorem Fr.int {base : Nat} {zs : List Int} (h : Fr lo w w') (ho : w.ownsRow base 3 1 v zs.length (ivs zs)) : w'.ownsRow base 3 1 v zs.length (ivs zs) :=
  own_same ho fun g hg => h.block g (ho.lt g hg).2 (.inr (by
    rcases ho.2 with ⟨rfl, _⟩ | ⟨g', cap, cur, rfl, _, hh, _⟩
    · simp [Value.ownBlock] at hg
    · have : g' = g := by simpa [Value.ownBlock] using hg
      subst this; exact ⟨cur, hh⟩))
theorem OV.below (h : OV w lo v vs Ls) (hb : Below w.heap.size w w') : OV w' lo v vs Ls := ⟨own_below h.row hb, (h.inn.below hb).more (Nat.le_refl _) hb.size⟩
theorem OV.oss (h : OV w lo v vs Ls) : OSS w lo w.heap.size v Ls := ⟨vs, h.row, fun g hg => (h.row.lt g hg).2, h.inn⟩
end

/-- all charts that begin so -/
def allL (n : Nat) : Nat → List Int → List (List Int)
  | 0, b => if isC b = true then [b] else []
  | d + 1, b => (List.range (n + 1)).flatMap (fun (i : Nat) => allL n d (b ++ [(i : Int) - 1]))
def preL (n d : Nat) (b : List Int) (t : Nat) : List (List Int) := (List.range t).flatMap (fun (i : Nat) => allL n d (b ++ [(i : Int) - 1]))
theorem preL_succ (n d : Nat) (b : List Int) (t : Nat) : preL n d b (t + 1) = preL n d b t ++ allL n d (b ++ [(t : Int) - 1]) := by
  unfold preL; rw [List.range_succ, List.flatMap_append]; simp
theorem allL_le (n : Nat) : ∀ (d : Nat) (b : List Int), (allL n d b).length ≤ (n + 1) ^ d
  | 0, b => by unfold allL; split <;> simp
  | d + 1, b => by
    have : ∀ t, (preL n d b t).length ≤ t * (n + 1) ^ d := fun t => by
      induction t with
      | zero => simp [preL]
      | succ t ih => rw [preL_succ, List.length_append, Nat.succ_mul]; have := allL_le n d (b ++ [(t : Int) - 1]); omega
    have := this (n + 1)
    unfold preL at this
    unfold allL
    rw [Nat.pow_succ, Nat.mul_comm]; exact this
theorem preL_le (n d : Nat) (b : List Int) : ∀ t, (preL n d b t).length ≤ t * (n + 1) ^ d
  | 0 => by simp [preL]
  | t + 1 => by rw [preL_succ, List.length_append, Nat.succ_mul]; have := allL_le n d (b ++ [(t : Int) - 1]); have := preL_le n d b t; omega


def allCL (n : Int) : List (List Int) := if inB n 1 3 = true then allL n.toNat n.toNat [] else []

end

/-! spec: the chart of some ways. -/
section
open Go.RowKit

theorem okL_app (n : Nat) (M : List Int) : ∀ (L : List Int) (m : Nat), okL n m (L ++ M) = (okL n m L && okL n (orL m L) M)
  | [], m => by simp [okL, orL]
  | y :: L, m => by simp only [List.cons_append, okL, okL_app n M L, Bool.and_assoc]; rfl
theorem okSS_app (n : Nat) (Ms : List (List Int)) : ∀ (Ls : List (List Int)) (m : Nat), okSS n m (Ls ++ Ms) = (okSS n m Ls && okSS n (orSS m Ls) Ms)
  | [], m => by simp [okSS, orSS]
  | L :: Ls, m => by simp only [List.cons_append, okSS, okSS_app n Ms Ls, Bool.and_assoc]; rfl
theorem okSS_at {n : Nat} {Ls : List (List Int)} {i : Nat} (hi : i < Ls.length) (h : (decide (Ls[i]?.getD [] ≠ []) && okL n (orSS 0 (Ls.take i)) (Ls[i]?.getD [])) = false) : okSS n 0 Ls = false := by
  have e : Ls = Ls.take (i + 1) ++ Ls.drop (i + 1) := (List.take_append_drop _ _).symm
  rw [e, okSS_app, take_snoc_list Ls hi, okSS_snoc, h]; simp
theorem okL_at {n m : Nat} {L : List Int} {k : Nat} (hk : k < L.length) (h : decide (0 ≤ L[k]?.getD 0 ∧ L[k]?.getD 0 < n ∧ (orL m (L.take k)).testBit (L[k]?.getD 0).toNat = false) = false) : okL n m L = false := by
  have e : L = L.take (k + 1) ++ L.drop (k + 1) := (List.take_append_drop _ _).symm
  rw [e, okL_app, take_snoc_get L hk, okL_snoc, h]; simp
theorem lastI_take {L : List Int} {p : Nat} (hp : p < L.length) : lastI (L.take (p + 1)) = L[p]?.getD 0 := by rw [take_snoc_get L hp]; simp [lastI]
theorem LT_up {n : Nat} (T : Nat → Int) {y : Nat} (hy : y < n) (z : Int) : (LT n T).set y z = LT n (upI T y z) := by
  rw [LT_set hy]
  refine LT_congr (fun j _ => ?_)
  unfold upI
  by_cases e : j = y
  · subst e; simp
  · have e2 : ¬ (j : Int) = (y : Int) := by omega
    simp [e, e2]
theorem keep_other {w : World} {base base' size n N cp g y : Nat} {e e' : TypeId} {v u : Value} {xs ys : List Value} (h : w.ownsRow base e size v n xs) (h' : w.ownsRow base' e' 1 (.slice (some ⟨g, 0, none⟩) N cp) N ys) (hne : e ≠ e') :
    (w.setCell ⟨g, y, none⟩ u).ownsRow base e size v n xs := by
  refine own_same h fun q hq => Below.heap_setCell _ _ _ _ (fun e => ?_)
  have e : q = g := e
  subst e
  rcases h'.2 with ⟨h1, _⟩ | ⟨g', cap, cur, h1, _, hh, _⟩
  · cases h1
  · injection h1 with h1 h2 h3
    injection h1 with h1
    injection h1 with h1 h2 h3
    subst h1
    exact own_blk_ne h hh hne hq
theorem ivs_set {L : List Int} {y : Nat} {z : Int} : (ivs L).set y (.int .i64 z) = ivs (L.set y z) := by unfold ivs; rw [← List.map_set]
theorem okSS_ent {n : Nat} : ∀ {Ls : List (List Int)} {m : Nat}, okSS n m Ls = true → ∀ L ∈ Ls, ∀ z ∈ L, 0 ≤ z ∧ z < n
  | [], m, _, L, hL => by cases hL
  | M :: Ls, m, h, L, hL => by
    unfold okSS at h
    rw [Bool.and_eq_true, Bool.and_eq_true] at h
    rcases List.mem_cons.1 hL with rfl | hL
    · intro z hz; have := (okL_nodup L m h.1.2).2 z hz; exact ⟨this.1, this.2.1⟩
    · exact okSS_ent h.2 L hL
theorem wrap_small {p : Nat} (h : p ≤ 1048576) : wrap64 (p : Int) = (p : Int) ∧ IntKind.i64.wrap (p : Int) = (p : Int) := by
  have h1 : wrap64 (p : Int) = (p : Int) := by unfold wrap64; omega
  exact ⟨h1, by rw [IntKind.wrap_i64]; omega⟩
theorem lnSS_step {Ls : List (List Int)} {t c : Nat} {T : Nat → Int} (ht : t < Ls.length) : lnSS c T (Ls.take (t + 1)) = if t < c then lnk (lnSS c T (Ls.take t)) (Ls[t]?.getD []) else cls (lnSS c T (Ls.take t)) (Ls[t]?.getD []) := by
  rw [take_snoc_list Ls ht, lnSS_snoc, List.length_take, Nat.min_eq_left (by omega)]

end

/-! How long the lists of chapter 2 are. -/
section
theorem of_lens {Ls : List (List Int)} (h : ∀ x ∈ lens Ls, 1 ≤ x ∧ x ≤ 6) : ∀ L ∈ Ls, L.length ≤ 6 := fun L hL => by
  have := h (L.length : Int) (List.mem_map.2 ⟨L, hL, rfl⟩)
  omega
theorem waysL_le (zs : List Int) : (waysL zs).length ≤ 12 ∧ totL (waysL zs) ≤ 72 ∧ ∀ L ∈ waysL zs, L.length ≤ 1048576 := by
  have key : (waysL zs).length ≤ 12 ∧ ∀ L ∈ waysL zs, L.length ≤ 6 := by
    unfold waysL chainsL cyclesL
    cases hC : isC zs
    · simp
    · have hF := isC_CH hC
      have h6 := hF.six
      simp only [if_true]
      have h1 := chL_le (ofL zs) zs.length (raN zs) zs.length
      have h2 := cyL_le (ofL zs) zs.length (orSS 0 (chL (ofL zs) zs.length (raN zs) zs.length)) zs.length
      refine ⟨by rw [List.length_append]; omega, fun L hL => ?_⟩
      rcases List.mem_append.1 hL with h | h
      · exact of_lens (chL_lens hF _ (Nat.le_refl _)) L h
      · exact of_lens (cyL_lens hF _ (Nat.le_refl _)) L h
  exact ⟨key.1, totL_bound key.1 key.2, fun L hL => by have := key.2 L hL; omega⟩
theorem wcL_le (n : Int) (Cs Ys : List (List Int)) : (wcL n Cs Ys).length ≤ 6 := by
  unfold wcL
  split
  · rename_i h
    rw [LT_length]
    unfold wcB inB at h
    simp at h; omega
  · simp
theorem allL_mem (n : Nat) : ∀ (d : Nat) (b : List Int), ∀ L ∈ allL n d b, L.length ≤ 6
  | 0, b, L, hL => by
    unfold allL at hL
    split at hL
    · rename_i h; rw [List.mem_singleton.1 hL]; exact (isC_len h).2
    · cases hL
  | d + 1, b, L, hL => by
    unfold allL at hL
    rw [List.mem_flatMap] at hL
    obtain ⟨i, _, h⟩ := hL
    exact allL_mem n d _ L h
theorem allCL_le (n : Int) : (allCL n).length ≤ 64 ∧ totL (allCL n) ≤ 384 ∧ ∀ L ∈ allCL n, L.length ≤ 1048576 := by
  have key : (allCL n).length ≤ 64 ∧ ∀ L ∈ allCL n, L.length ≤ 6 := by
    unfold allCL
    split
    · rename_i h
      unfold inB at h
      have h := of_decide_eq_true h
      obtain ⟨N, rfl⟩ := Int.eq_ofNat_of_zero_le (show 0 ≤ n by omega)
      rw [Int.toNat_natCast]
      refine ⟨Nat.le_trans (allL_le N N []) ?_, fun L hL => allL_mem N N [] L hL⟩
      have : N = 1 ∨ N = 2 ∨ N = 3 := by omega
      rcases this with rfl | rfl | rfl <;> decide
    · simp
  exact ⟨key.1, totL_bound key.1 key.2, fun L hL => by have := key.2 L hL; omega⟩
end

/-! The ways as the program finds them: one pass over first points of chains and then all points; shapes as counts; index and period of a shape. -/
section
open Go.RowKit

/-- 1: a cycle; 0: a chain -/
def kdF (F : Nat → Int) (n s : Nat) : Nat := if itF F s (wayL F n s).length = (s : Int) then 1 else 0
theorem kd_NR {n s : Nat} {F : Nat → Int} (hF : CH n F) (hs : s < n) (h : NR n F s) : kdF F n s = 0 := by
  unfold kdF; rw [if_neg]; exact fun e => h.noCyc hF hs ⟨_, (way_len hF hs).1, e⟩
theorem kd_Cyc {n s : Nat} {F : Nat → Int} (hF : CH n F) (hs : s < n) (h : Cyc F s) : kdF F n s = 1 := by
  obtain ⟨e, he, _, _, _, hend⟩ := way_spec hF hs
  unfold kdF; rw [he, LT_length, if_pos]
  exact hend.resolve_left (by have := h.pos (e + 1); omega)

abbrev KW := Nat × List Int
def lsK (acc : List KW) : List (List Int) := acc.map (·.2)
def orK (acc : List KW) : Nat := orSS 0 (lsK acc)
def stp (F : Nat → Int) (n : Nat) (acc : List KW) (s : Nat) : List KW := if (orK acc).testBit s = true then acc else acc ++ [(kdF F n s, wayL F n s)]
def goK (F : Nat → Int) (n : Nat) (L : List Nat) (acc : List KW) : List KW := L.foldl (stp F n) acc
def stA (m b : Nat) : List Nat := (List.range b).filter (fun i => !m.testBit i)
def stL (n m : Nat) : List Nat := stA m n ++ List.range n
def kwL (F : Nat → Int) (n m : Nat) : List KW := (chL F n m n).map (fun L => (0, L)) ++ (cyL F n (orSS 0 (chL F n m n)) n).map (fun L => (1, L))

theorem lsK_map (k : Nat) (Ls : List (List Int)) : lsK (Ls.map (fun L => ((k, L) : KW))) = Ls := by simp [lsK, Function.comp_def]
theorem lsK_append (a b : List KW) : lsK (a ++ b) = lsK a ++ lsK b := by simp [lsK]
theorem lsK_kw (F : Nat → Int) (n m : Nat) : lsK (kwL F n m) = chL F n m n ++ cyL F n (orSS 0 (chL F n m n)) n := by
  unfold kwL; rw [lsK_append, lsK_map, lsK_map]
theorem orSS_append (m : Nat) (Ls Ms : List (List Int)) : orSS m (Ls ++ Ms) = orSS (orSS m Ls) Ms := by simp [orSS]
theorem stA_succ (m b : Nat) : stA m (b + 1) = if m.testBit b = true then stA m b else stA m b ++ [b] := by
  unfold stA
  rw [List.range_succ, List.filter_append]
  cases h : m.testBit b <;> simp [h]
theorem goK_snoc (F : Nat → Int) (n : Nat) (L : List Nat) (s : Nat) (acc : List KW) : goK F n (L ++ [s]) acc = stp F n (goK F n L acc) s := by simp [goK]
theorem goK_append (F : Nat → Int) (n : Nat) (L M : List Nat) (acc : List KW) : goK F n (L ++ M) acc = goK F n M (goK F n L acc) := by simp [goK]

section
variable {n m : Nat} {F : Nat → Int}
theorem go_chains (hF : CH n F) (hm : RangeM n F m) : ∀ b, b ≤ n → goK F n (stA m b) [] = (chL F n m b).map (fun L => ((0, L) : KW))
  | 0, _ => rfl
  | b + 1, hb => by
    have ih := go_chains hF hm b (by omega)
    rw [stA_succ, chL_succ]
    by_cases h : m.testBit b = true
    · rw [if_pos h, if_pos h]; exact ih
    · rw [if_neg h, if_neg h, goK_snoc, ih]
      have hn : NR n F b := (hm b (by omega)).1 (by simpa using h)
      have hno : ¬ (orK ((chL F n m b).map (fun L => ((0, L) : KW)))).testBit b = true := by
        unfold orK
        rw [lsK_map, orSS_bit _ _ (fun L hL z hz => (chL_ent hF b (by omega) L hL z hz).1)]
        simp only [Nat.zero_testBit, Bool.false_eq_true, false_or]
        rintro ⟨L, hL, hz⟩
        refine occ_mem ((chL_occ hF hm (show b < n by omega) b (by omega)).2 ?_) L hL hz
        rintro ⟨s, h1, h2, h3⟩
        have := hn.only hF (by omega) h3
        omega
      unfold stp
      rw [if_neg hno, kd_NR hF (by omega) hn]
      simp
theorem go_cycles (hF : CH n F) (hm : RangeM n F m) : ∀ b, b ≤ n → goK F n (List.range b) ((chL F n m n).map (fun L => ((0, L) : KW))) = (chL F n m n).map (fun L => ((0, L) : KW)) ++ (cyL F n (orSS 0 (chL F n m n)) b).map (fun L => ((1, L) : KW))
  | 0, _ => by simp [goK, cyL]
  | b + 1, hb => by
    have ih := go_cycles hF hm b (by omega)
    rw [List.range_succ, goK_snoc, ih, cyL_succ]
    have ho : orK ((chL F n m n).map (fun L => ((0, L) : KW)) ++ (cyL F n (orSS 0 (chL F n m n)) b).map (fun L => ((1, L) : KW))) = orSS (orSS 0 (chL F n m n)) (cyL F n (orSS 0 (chL F n m n)) b) := by
      unfold orK; rw [lsK_append, lsK_map, lsK_map, orSS_append]
    unfold stp
    rw [ho]
    by_cases h : (orSS (orSS 0 (chL F n m n)) (cyL F n (orSS 0 (chL F n m n)) b)).testBit b = true
    · rw [if_pos h, if_pos h]
    · rw [if_neg h, if_neg h, kd_Cyc hF (by omega) (cyL_new hF (chL_mask hF hm) (by omega) h).1]
      simp
theorem go_all (hF : CH n F) (hm : RangeM n F m) : goK F n (stL n m) [] = kwL F n m := by
  unfold stL kwL
  rw [goK_append, go_chains hF hm n (Nat.le_refl _), go_cycles hF hm n (Nat.le_refl _)]
end

/-! ### shapes as counts -/
def cnF (acc : List KW) (k l : Nat) : Nat := acc.countP (fun x => decide (x.1 = k ∧ x.2.length = l))
theorem cn_snoc (acc : List KW) (x : KW) (k l : Nat) : cnF (acc ++ [x]) k l = cnF acc k l + (if x.1 = k ∧ x.2.length = l then 1 else 0) := by
  unfold cnF; rw [List.countP_append]; simp [List.countP_cons]
theorem cn_le (acc : List KW) (k l : Nat) : cnF acc k l ≤ acc.length := List.countP_le_length
theorem cn_map (a : Nat) (Ls : List (List Int)) (k l : Nat) : cnF (Ls.map (fun L => ((a, L) : KW))) k l = if a = k then (lens Ls).count (l : Int) else 0 := by
  induction Ls with
  | nil => simp [cnF, lens]
  | cons L Ls ih =>
    have : cnF ((L :: Ls).map (fun L => ((a, L) : KW))) k l = cnF (Ls.map (fun L => ((a, L) : KW))) k l + (if a = k ∧ L.length = l then 1 else 0) := by
      simp [cnF, List.countP_cons]
    rw [this, ih]
    have h2 : (lens (L :: Ls)).count (l : Int) = (lens Ls).count (l : Int) + (if (L.length : Int) = (l : Int) then 1 else 0) := by
      simp [lens, List.count_cons]
    rw [h2]
    by_cases ha : a = k
    · subst ha
      by_cases hl : L.length = l
      · subst hl; simp
      · have h3 : ¬ (L.length : Int) = (l : Int) := by omega
        simp only [if_true, true_and, if_neg hl, if_neg h3]
    · simp [ha]
theorem cn_append (a b : List KW) (k l : Nat) : cnF (a ++ b) k l = cnF a k l + cnF b k l := by unfold cnF; rw [List.countP_append]
theorem cn_kw (F : Nat → Int) (n m l : Nat) : cnF (kwL F n m) 0 l = (lens (chL F n m n)).count (l : Int) ∧ cnF (kwL F n m) 1 l = (lens (cyL F n (orSS 0 (chL F n m n)) n)).count (l : Int) := by
  unfold kwL; rw [cn_append, cn_append, cn_map, cn_map, cn_map, cn_map]; simp

/-- the lengths below b, sorted, by how often each comes -/
def lnC (c : Nat → Nat) : Nat → List Int
  | 0 => []
  | b + 1 => lnC c b ++ List.replicate (c b) (b : Int)
theorem lnC_mem (c : Nat → Nat) : ∀ b, ∀ x ∈ lnC c b, 0 ≤ x ∧ x < b
  | 0, x, h => by simp [lnC] at h
  | b + 1, x, h => by
    rcases List.mem_append.1 h with h | h
    · have := lnC_mem c b x h; omega
    · have := List.eq_of_mem_replicate h; omega
theorem lnC_sorted (c : Nat → Nat) : ∀ b, (lnC c b).Pairwise (· ≤ ·)
  | 0 => List.Pairwise.nil
  | b + 1 => by
    unfold lnC
    rw [List.pairwise_append]
    refine ⟨lnC_sorted c b, List.pairwise_replicate.2 (.inr (Int.le_refl _)), fun x hx y hy => ?_⟩
    have := lnC_mem c b x hx
    have := List.eq_of_mem_replicate hy
    omega
theorem lnC_count (c : Nat → Nat) (v : Int) : ∀ b : Nat, (lnC c b).count v = if 0 ≤ v ∧ v < b then c v.toNat else 0
  | 0 => by simp [lnC]; omega
  | b + 1 => by
    unfold lnC
    rw [List.count_append, lnC_count c v b, List.count_replicate]
    by_cases h : (b : Int) = v
    · rw [if_neg (show ¬ (0 ≤ v ∧ v < b) by omega), if_pos (show 0 ≤ v ∧ v < ((b + 1 : Nat) : Int) by omega)]
      subst h; simp
    · have hb : ((b : Int) == v) = false := by simpa using h
      rw [hb]
      simp only [Bool.false_eq_true, if_false, Nat.add_zero]
      by_cases h2 : 0 ≤ v ∧ v < b
      · rw [if_pos h2, if_pos (show 0 ≤ v ∧ v < ((b + 1 : Nat) : Int) by omega)]
      · rw [if_neg h2, if_neg (show ¬ (0 ≤ v ∧ v < ((b + 1 : Nat) : Int)) by omega)]
theorem lnC_srt {c : Nat → Nat} {L : List Int} (hL : ∀ x ∈ L, 1 ≤ x ∧ x ≤ 6) (hc : ∀ l, c l = L.count (l : Int)) : lnC c 7 = srt L :=
  sorted_ext (lnC_sorted c 7) (srt_sorted L) (fun v => by
    rw [lnC_count, srt_count]
    by_cases h : 0 ≤ v ∧ v < ((7 : Nat) : Int)
    · rw [if_pos h, hc, Int.toNat_of_nonneg h.1]
    · rw [if_neg h, count_out hL (by omega)])
theorem lnC_length (c : Nat → Nat) : ∀ b, (lnC c b).length = ((List.range b).map c).sum
  | 0 => rfl
  | b + 1 => by unfold lnC; rw [List.length_append, lnC_length c b, List.range_succ]; simp

/-! ### the index and the period of lengths -/
theorem srt_mem {L : List Int} {v : Int} : v ∈ srt L ↔ v ∈ L := by rw [← List.count_pos_iff, ← List.count_pos_iff, srt_count]
theorem sumI_sub_zero {k : Nat} : ∀ {L : List Int}, (∀ x ∈ L, x ≤ (k : Int)) → sumI (sub_ k) L = 0
  | [], _ => rfl
  | x :: L, h => by
    have h1 := h x List.mem_cons_self
    have ih := sumI_sub_zero (k := k) (L := L) (fun y hy => h y (List.mem_cons_of_mem _ hy))
    simp only [sumI, ih, sub_]; omega
theorem sumI_sub_mono (k : Nat) : ∀ L : List Int, sumI (sub_ (k + 1)) L ≤ sumI (sub_ k) L
  | [] => Nat.le_refl _
  | x :: L => by
    have ih := sumI_sub_mono k L
    simp only [sumI, sub_]; omega
theorem sumI_sub_lt {k : Nat} {a : Int} (ha : (k : Int) < a) : ∀ {L : List Int}, a ∈ L → sumI (sub_ (k + 1)) L < sumI (sub_ k) L
  | [], h => by cases h
  | x :: L, h => by
    have hm := sumI_sub_mono k L
    rcases List.mem_cons.1 h with h | h
    · subst h; simp only [sumI, sub_]; omega
    · have ih := sumI_sub_lt ha h
      simp only [sumI, sub_]; omega
theorem idx_max {n m : Nat} {F : Nat → Int} (hF : CH n F) (hm : RangeM n F m) {a : Nat} (ha : ∀ x ∈ lens (chL F n m n), x ≤ (a : Int)) (hx : a = 0 ∨ (a : Int) ∈ lens (chL F n m n)) : idxF n F = a := by
  have hl := chL_lens (m := m) hF n (Nat.le_refl _)
  have h6 : a ≤ 6 := by
    rcases hx with h | h
    · omega
    · have := hl _ h; omega
  refine lst_is (Nat.zero_le _) (by omega) ?_ ?_
  · refine decide_eq_true ?_
    rw [moved_shape hF hm, moved_shape hF hm, sumI_sub_zero ha, sumI_sub_zero (k := a + 1) (fun x h => by have := ha x h; omega)]
  · intro i _ hi
    refine decide_eq_false ?_
    rw [moved_shape hF hm, moved_shape hF hm]
    have := sumI_sub_lt (k := i) (a := (a : Int)) (by omega) (hx.resolve_left (by omega))
    omega

theorem sumI_per {p : Nat} : ∀ {L : List Int}, (∀ x ∈ L, 1 ≤ x) → (sumI (per_ p) L = sumI (sub_ 0) L ↔ ∀ x ∈ L, x.toNat ∣ p) ∧ sumI (per_ p) L ≤ sumI (sub_ 0) L
  | [], _ => by simp [sumI]
  | x :: L, h => by
    have h1 := h x List.mem_cons_self
    have ih := sumI_per (p := p) (L := L) (fun y hy => h y (List.mem_cons_of_mem _ hy))
    simp only [sumI, per_, sub_, List.forall_mem_cons] at ih ⊢
    by_cases hd : p % x.toNat = 0
    · rw [if_pos hd]
      refine ⟨⟨fun e => ⟨Nat.dvd_of_mod_eq_zero hd, ih.1.1 (by omega)⟩, fun e => by have := ih.1.2 e.2; omega⟩, by omega⟩
    · rw [if_neg hd]
      refine ⟨⟨fun e => absurd e (by omega), fun e => absurd (Nat.mod_eq_zero_of_dvd e.1) hd⟩, by omega⟩
theorem rk_idx {n m : Nat} {F : Nat → Int} (hF : CH n F) (hm : RangeM n F m) : rkF n F (idxF n F) = sumI (sub_ 0) (lens (cyL F n (orSS 0 (chL F n m n)) n)) := by
  have hl := chL_lens (m := m) hF n (Nat.le_refl _)
  have h := idx_spec hF
  have h0 : ∀ x ∈ lens (chL F n m n), x ≤ ((idxF n F : Nat) : Int) := fun x hx => by
    apply Classical.byContradiction
    intro hlt
    have hs := sumI_sub_lt (k := idxF n F) (a := x) (by omega) hx
    have e := h.1
    rw [moved_shape hF hm, moved_shape hF hm] at e
    omega
  rw [moved_shape hF hm, sumI_sub_zero h0, Nat.zero_add]
theorem per_lcm {n m : Nat} {F : Nat → Int} (hF : CH n F) (hm : RangeM n F m) {a : Nat} (h1 : 1 ≤ a) (h60 : a ≤ 60) (ha : ∀ x ∈ lens (cyL F n (orSS 0 (chL F n m n)) n), x.toNat ∣ a)
    (hmin : ∀ p, 1 ≤ p → (∀ x ∈ lens (cyL F n (orSS 0 (chL F n m n)) n), x.toNat ∣ p) → a ≤ p) : perF n F = a := by
  have hl : ∀ x ∈ lens (cyL F n (orSS 0 (chL F n m n)) n), 1 ≤ x := fun x hx => (cyL_lens hF n (Nat.le_refl _) x hx).1
  refine lst_is h1 (by omega) ?_ ?_
  · refine decide_eq_true ?_
    rw [home_shape hF hm h1, rk_idx hF hm]
    exact (sumI_per hl).1.2 ha
  · intro p hp hpa
    refine decide_eq_false ?_
    rw [home_shape hF hm hp, rk_idx hF hm]
    intro e
    have := hmin p hp ((sumI_per hl).1.1 e)
    omega

/-- the greatest of some lengths -/
def mxL (L : List Int) : Int := L.foldl (fun a x => if a < x then x else a) 0
theorem mx_go : ∀ (L : List Int) (a : Int), a ≤ L.foldl (fun a x => if a < x then x else a) a ∧ (∀ x ∈ L, x ≤ L.foldl (fun a x => if a < x then x else a) a) ∧ (L.foldl (fun a x => if a < x then x else a) a = a ∨ L.foldl (fun a x => if a < x then x else a) a ∈ L)
  | [], a => ⟨Int.le_refl _, by simp, .inl rfl⟩
  | x :: L, a => by
    have ih := mx_go L (if a < x then x else a)
    simp only [List.foldl_cons]
    generalize hr : L.foldl (fun a x => if a < x then x else a) (if a < x then x else a) = r at ih ⊢
    refine ⟨by have := ih.1; split at this <;> omega, fun y hy => ?_, ?_⟩
    · rcases List.mem_cons.1 hy with h | h
      · subst h; have := ih.1; split at this <;> omega
      · exact ih.2.1 y h
    · rcases ih.2.2 with h | h
      · split at h
        · exact .inr (by rw [h]; exact List.mem_cons_self)
        · exact .inl h
      · exact .inr (List.mem_cons_of_mem _ h)
theorem idx_mx {n m : Nat} {F : Nat → Int} (hF : CH n F) (hm : RangeM n F m) : mxL (shC n F m) = (idxF n F : Nat) := by
  have hl := chL_lens (m := m) hF n (Nat.le_refl _)
  have h := mx_go (shC n F m) 0
  have h0 : 0 ≤ mxL (shC n F m) := h.1
  obtain ⟨a, ha⟩ := Int.eq_ofNat_of_zero_le h0
  rw [ha]
  rw [idx_max hF hm (a := a) (fun x hx => by have := h.2.1 x (srt_mem.2 hx); unfold mxL at ha; omega) ?_]
  rcases h.2.2 with e | e
  · left; unfold mxL at ha; omega
  · right; rw [← ha]; exact srt_mem.1 e
theorem mx_take {L : List Int} {k : Nat} (hk : k < L.length) : mxL (L.take (k + 1)) = if mxL (L.take k) < L[k]?.getD 0 then L[k]?.getD 0 else mxL (L.take k) := by
  rw [take_snoc_get L hk]; unfold mxL; rw [List.foldl_append]; rfl

/-- the least common multiple of some lengths -/
def lcL (L : List Int) : Nat := L.foldl (fun a x => Nat.lcm a x.toNat) 1
theorem lcL_snoc (L : List Int) (x : Int) : lcL (L ++ [x]) = Nat.lcm (lcL L) x.toNat := by simp [lcL]
theorem lc_dvd {p : Nat} : ∀ (L : List Int) (a : Nat), L.foldl (fun a x => Nat.lcm a x.toNat) a ∣ p ↔ a ∣ p ∧ ∀ x ∈ L, x.toNat ∣ p
  | [], a => by simp
  | x :: L, a => by
    simp only [List.foldl_cons, List.forall_mem_cons]
    rw [lc_dvd L (Nat.lcm a x.toNat), Nat.lcm_dvd_iff, and_assoc]
theorem lcL_60 {L : List Int} (h : ∀ x ∈ L, 1 ≤ x ∧ x ≤ 6) : lcL L ∣ 60 := by
  refine (lc_dvd L 1).2 ⟨Nat.one_dvd _, fun x hx => ?_⟩
  have h1 := h x hx
  have : x = 1 ∨ x = 2 ∨ x = 3 ∨ x = 4 ∨ x = 5 ∨ x = 6 := by omega
  rcases this with h | h | h | h | h | h <;> subst h <;> decide
theorem per_lc {n m : Nat} {F : Nat → Int} (hF : CH n F) (hm : RangeM n F m) : lcL (shY n F m) = perF n F := by
  have hl := cyL_lens (q := orSS 0 (chL F n m n)) hF n (Nat.le_refl _)
  have hl' : ∀ x ∈ shY n F m, 1 ≤ x ∧ x ≤ 6 := fun x hx => hl x (srt_mem.1 hx)
  have h60 := lcL_60 hl'
  have hd := (lc_dvd (shY n F m) 1 (p := lcL (shY n F m))).1 (Nat.dvd_refl _)
  have hpos : 1 ≤ lcL (shY n F m) := Nat.pos_of_dvd_of_pos h60 (by omega)
  refine (per_lcm hF hm hpos (Nat.le_of_dvd (by omega) h60) (fun x hx => hd.2 x (srt_mem.2 hx)) (fun p hp hx => ?_)).symm
  exact Nat.le_of_dvd (by omega) ((lc_dvd (shY n F m) 1).2 ⟨Nat.one_dvd _, fun x h => hx x (srt_mem.1 h)⟩)
end

end Go.Proofs.YtkfiehndlgplgaaGreatDoor
