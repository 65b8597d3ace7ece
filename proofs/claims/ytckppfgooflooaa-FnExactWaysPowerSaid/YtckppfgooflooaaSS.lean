/-
  Lists of lists in memory: a slice of slices of ints that reads as a list of lists; one whose blocks are all the call's own and apart.
-/
import Derived.Test.YtckppfgooflooaaUtil
import Derived.Test.YtckppfgooflooaaMark
import Derived.Maps.AppendAt
namespace Go.Proofs.Ytckppfgooflooaa
set_option maxRecDepth 100000
open Go.RowKit

theorem info_ints : (Try.prog.info? 27).map (fun i => (i.zero, i.size, i.bytes)) = some (some (.slice none 0 0), 1, 24) := by kernel_rfl

/-- a slice value that is read: none of the lists is longer than it says -/
def RSS (w : World) (A : Option Addr) (n : Nat) (Ls : List (List Int)) : Prop :=
  Ls.length = n ∧ ∃ vs : List Value, Reads w w.heap.size 1 A n vs ∧ ∀ (i : Nat) (L : List Int), Ls[i]? = some L → ∃ (Ai : Option Addr) (ci : Nat), vs[i]? = some (.slice Ai L.length ci) ∧ RI w Ai L.length L
section
variable {w w' : World} {A : Option Addr} {n : Nat} {Ls : List (List Int)}
theorem RSS.len (h : RSS w A n Ls) : Ls.length = n := h.1
theorem RSS.below (h : RSS w A n Ls) (hb : Below w.heap.size w w') : RSS w' A n Ls := by
  obtain ⟨h1, vs, h2, h3⟩ := h
  refine ⟨h1, vs, (h2.below hb).more hb.size, fun i L hi => ?_⟩
  obtain ⟨Ai, ci, hv, hr⟩ := h3 i L hi
  exact ⟨Ai, ci, hv, hr.below hb⟩
theorem RSS.at_ (h : RSS w A n Ls) {k : Nat} (hk : k < n) : ∃ (ad : Addr) (Ai : Option Addr) (ci : Nat), A = some ad ∧ ad.block < w.heap.size ∧ w.cell? (ad.add k) = some (.slice Ai (Ls[k]?.getD []).length ci) ∧ RI w Ai (Ls[k]?.getD []).length (Ls[k]?.getD []) := by
  obtain ⟨h1, vs, h2, h3⟩ := h
  obtain ⟨ad, u, e, hb, hu, hc⟩ := h2.at_ hk
  obtain ⟨Ai, ci, hv, hr⟩ := h3 k _ (List.getElem?_eq_getElem (show k < Ls.length by omega))
  rw [hu] at hv
  injection hv with hv
  subst hv
  rw [List.getElem?_eq_getElem (show k < Ls.length by omega)]
  exact ⟨ad, Ai, ci, e, hb, hc, hr⟩
theorem RSS.none_ : RSS w none 0 [] := ⟨rfl, [], Reads.none_, fun i L h => by simp at h⟩
end

/-- what lies outside the blocks from lo on, below hi, stays -/
structure Btw (lo hi : Nat) (w w' : World) : Prop where
  os : w'.os = w.os
  tape : w'.tape = w.tape
  output : w'.output = w.output
  size : w.heap.size ≤ w'.heap.size
  block : ∀ k, k < w.heap.size → k < lo ∨ hi ≤ k → w'.heap[k]? = w.heap[k]?
section
variable {w w' w'' : World} {lo hi lo' hi' : Nat}
theorem Btw.refl (lo hi : Nat) (w : World) : Btw lo hi w w := ⟨rfl, rfl, rfl, Nat.le_refl _, fun _ _ _ => rfl⟩
theorem Btw.trans (h : Btw lo hi w w') (k : Btw lo hi w' w'') : Btw lo hi w w'' :=
  ⟨k.os.trans h.os, k.tape.trans h.tape, k.output.trans h.output, Nat.le_trans h.size k.size, fun i hi' ho => (k.block i (by have := h.size; omega) ho).trans (h.block i hi' ho)⟩
theorem Btw.wide (h : Btw lo hi w w') (h1 : lo' ≤ lo) (h2 : hi ≤ hi') : Btw lo' hi' w w' := ⟨h.os, h.tape, h.output, h.size, fun k hk ho => h.block k hk (by omega)⟩
theorem Btw.below (h : Btw lo hi w w') {B : Nat} (hB : B ≤ lo) (hs : B ≤ w.heap.size) : Below B w w' := ⟨h.os, h.tape, h.output, h.size, fun k hk => h.block k (by omega) (.inl (by omega))⟩
theorem Btw.drew (h : Btw lo hi w w') : Btw lo hi w w'.drew := ⟨h.os, h.tape, h.output, h.size, h.block⟩
theorem Btw.grown (h : Btw lo hi w w') {row : Option Nat} (hg : w'.grownBy w'' row) (hr : ∀ g, row = some g → lo ≤ g ∧ g < hi) : Btw lo hi w w'' :=
  h.trans ⟨hg.os, hg.tape, hg.output, hg.size, fun k hk ho => hg.block k hk (fun e => by have := hr k e.symm; omega)⟩
end

theorem own_same {w w' : World} {base size n : Nat} {e : TypeId} {v : Value} {xs : List Value} (h : w.ownsRow base e size v n xs) (hs : ∀ g, v.ownBlock = some g → w'.heap[g]? = w.heap[g]?) : w'.ownsRow base e size v n xs := by
  refine ⟨h.1, ?_⟩
  rcases h.2 with h2 | ⟨g, cap, cur, rfl, hb, hh, hr⟩
  · exact .inl h2
  · exact .inr ⟨g, cap, cur, rfl, hb, by rw [hs g rfl]; exact hh, hr⟩

/-- a list of ints whose block lies from lo on, below hi -/
def OI (w : World) (lo hi : Nat) (v : Value) (zs : List Int) : Prop := w.ownsRow lo 3 1 v zs.length (ivs zs) ∧ ∀ g, v.ownBlock = some g → g < hi
section
variable {w w' : World} {lo hi lo' hi' : Nat} {v : Value} {zs : List Int}
theorem OI.same (h : OI w lo hi v zs) (hs : ∀ g, v.ownBlock = some g → w'.heap[g]? = w.heap[g]?) : OI w' lo hi v zs := ⟨own_same h.1 hs, h.2⟩
theorem OI.below (h : OI w lo hi v zs) (hb : Below w.heap.size w w') : OI w' lo hi v zs := h.same fun g hg => hb.block g (h.1.lt g hg).2
theorem OI.more (h : OI w lo hi v zs) (hh : hi ≤ hi') : OI w lo hi' v zs := ⟨h.1, fun g hg => by have := h.2 g hg; omega⟩
theorem own_base {base base' size n : Nat} {e : TypeId} {xs : List Value} (h : w.ownsRow base e size v n xs) (hb : base' ≤ base) : w.ownsRow base' e size v n xs := by
  refine ⟨h.1, ?_⟩
  rcases h.2 with h2 | ⟨g, cap, cur, rfl, h3, hr⟩
  · exact .inl h2
  · exact .inr ⟨g, cap, cur, rfl, by omega, hr⟩
theorem OI.less (h : OI w lo hi v zs) (hh : lo' ≤ lo) : OI w lo' hi v zs := ⟨own_base h.1 hh, h.2⟩
theorem OI.of {base : Nat} (h : w.ownsRow base 3 1 v zs.length (ivs zs)) : OI w base w.heap.size v zs := ⟨h, fun g hg => (h.lt g hg).2⟩
theorem OI.btw (h : OI w lo hi v zs) (hb : Btw lo' hi' w w') (ha : hi ≤ lo' ∨ hi' ≤ lo) : OI w' lo hi v zs :=
  h.same fun g hg => hb.block g (h.1.lt g hg).2 (by have := h.1.lt g hg; have := h.2 g hg; omega)
theorem OI.slice (h : OI w lo hi v zs) : ∃ A c, v = .slice A zs.length c := own_slice h.1
end

/-- the inner lists: each a block of its own -/
structure Inn (w : World) (lo hi : Nat) (vs : List Value) (Ls : List (List Int)) : Prop where
  len : vs.length = Ls.length
  own : ∀ (i : Nat) (u : Value) (L : List Int), vs[i]? = some u → Ls[i]? = some L → OI w lo hi u L
  apart : ∀ (i j : Nat) (u u' : Value) (g : Nat), i ≠ j → vs[i]? = some u → vs[j]? = some u' → u.ownBlock = some g → u'.ownBlock = some g → False

/-- a list of lists whose blocks are all owned and apart, from lo on, below hi -/
def OSS (w : World) (lo hi : Nat) (v : Value) (Ls : List (List Int)) : Prop :=
  ∃ vs, w.ownsRow lo 27 1 v Ls.length vs ∧ (∀ g, v.ownBlock = some g → g < hi) ∧ Inn w lo hi vs Ls

section
variable {w w' : World} {lo hi lo' hi' : Nat} {v : Value} {vs : List Value} {Ls : List (List Int)}
theorem Inn.nil : Inn w lo hi [] [] := ⟨rfl, fun i u L h => by simp at h, fun i j u u' g _ h => by simp at h⟩
theorem Inn.lt (h : Inn w lo hi vs Ls) {i : Nat} {u : Value} (hu : vs[i]? = some u) {g : Nat} (hg : u.ownBlock = some g) : lo ≤ g ∧ g < hi ∧ g < w.heap.size := by
  have hl : i < vs.length := (List.getElem?_eq_some_iff.1 hu).1
  have o := h.own i u _ hu (List.getElem?_eq_getElem (show i < Ls.length by rw [← h.len]; exact hl))
  have := o.1.lt g hg
  exact ⟨this.1, o.2 g hg, this.2⟩
theorem Inn.same (h : Inn w lo hi vs Ls) (hs : ∀ (i : Nat) (u : Value), vs[i]? = some u → ∀ g : Nat, u.ownBlock = some g → w'.heap[g]? = w.heap[g]?) : Inn w' lo hi vs Ls :=
  ⟨h.len, fun i u L hu hL => (h.own i u L hu hL).same (hs i u hu), h.apart⟩
theorem Inn.below (h : Inn w lo hi vs Ls) (hb : Below w.heap.size w w') : Inn w' lo hi vs Ls := h.same fun _ _ hu g hg => hb.block g (h.lt hu hg).2.2
theorem Inn.more (h : Inn w lo hi vs Ls) (h1 : lo' ≤ lo) (h2 : hi ≤ hi') : Inn w lo' hi' vs Ls := ⟨h.len, fun i u L hu hL => ((h.own i u L hu hL).more h2).less h1, h.apart⟩
theorem Inn.btw (h : Inn w lo hi vs Ls) (hb : Btw lo' hi' w w') (ha : hi ≤ lo' ∨ hi' ≤ lo) : Inn w' lo hi vs Ls :=
  h.same fun _ _ hu g hg => hb.block g (h.lt hu hg).2.2 (by have := h.lt hu hg; omega)
/-- a store into a block of another type -/
theorem Inn.type {t : TypeId} {g : Nat} {cs : Array Value} (h : Inn w lo hi vs Ls) (hk : Blk w g t cs) (hne : 3 ≠ t) {i : Nat} {u : Value} (hu : vs[i]? = some u) : u.ownBlock ≠ some g := by
  have hl : i < vs.length := (List.getElem?_eq_some_iff.1 hu).1
  have o := h.own i u _ hu (List.getElem?_eq_getElem (show i < Ls.length by rw [← h.len]; exact hl))
  exact own_blk_ne o.1 hk hne
theorem Inn.snoc (h : Inn w lo hi vs Ls) {u : Value} {L : List Int} (hu : OI w lo hi u L) (ha : ∀ (i : Nat) (u' : Value), vs[i]? = some u' → ∀ g : Nat, u'.ownBlock = some g → u.ownBlock = some g → False) : Inn w lo hi (vs ++ [u]) (Ls ++ [L]) := by
  refine ⟨by simp [h.len], fun i x y hx hy => ?_, fun i j x x' g hij hx hx' hg hg' => ?_⟩
  · by_cases hi' : i < vs.length
    · rw [List.getElem?_append_left hi'] at hx
      rw [List.getElem?_append_left (by rw [← h.len]; exact hi')] at hy
      exact h.own i x y hx hy
    · have hl : i < (vs ++ [u]).length := (List.getElem?_eq_some_iff.1 hx).1
      have he : i = vs.length := by simp at hl; omega
      subst he
      rw [List.getElem?_append_right (Nat.le_refl _), Nat.sub_self] at hx
      rw [h.len, List.getElem?_append_right (Nat.le_refl _), Nat.sub_self] at hy
      simp at hx hy; subst hx hy; exact hu
  · have hl : i < (vs ++ [u]).length := (List.getElem?_eq_some_iff.1 hx).1
    have hl' : j < (vs ++ [u]).length := (List.getElem?_eq_some_iff.1 hx').1
    simp at hl hl'
    by_cases hi' : i < vs.length
    · rw [List.getElem?_append_left hi'] at hx
      by_cases hj' : j < vs.length
      · rw [List.getElem?_append_left hj'] at hx'
        exact h.apart i j x x' g hij hx hx' hg hg'
      · have he : j = vs.length := by omega
        subst he
        rw [List.getElem?_append_right (Nat.le_refl _), Nat.sub_self] at hx'
        simp at hx'; subst hx'
        exact ha i x hx g hg hg'
    · have he : i = vs.length := by omega
      subst he
      rw [List.getElem?_append_right (Nat.le_refl _), Nat.sub_self] at hx
      simp at hx; subst hx
      rw [List.getElem?_append_left (by omega)] at hx'
      exact ha j x' hx' g hg' hg
theorem Inn.set_ (h : Inn w lo hi vs Ls) {i : Nat} {u : Value} {L : List Int} (hu : vs[i]? = some u) (hL : OI w' lo hi u L) (hs : ∀ k, k < w.heap.size → u.ownBlock ≠ some k → w'.heap[k]? = w.heap[k]?) : Inn w' lo hi vs (Ls.set i L) := by
  refine ⟨by simp [h.len], fun j x y hx hy => ?_, h.apart⟩
  by_cases e : i = j
  · subst e
    rw [hu] at hx; injection hx with hx; subst hx
    have hl : i < vs.length := (List.getElem?_eq_some_iff.1 hu).1
    rw [List.getElem?_set_self (by rw [← h.len]; exact hl)] at hy
    injection hy with hy; subst hy; exact hL
  · rw [List.getElem?_set_ne e] at hy
    exact (h.own j x y hx hy).same fun g hg => hs g (h.lt hx hg).2.2 (fun e' => h.apart i j u x g e hu hx e' hg)

theorem OSS.below (h : OSS w lo hi v Ls) (hb : Below w.heap.size w w') : OSS w' lo hi v Ls := by
  obtain ⟨vs, h1, h2, h3⟩ := h
  exact ⟨vs, own_same h1 fun g hg => hb.block g (h1.lt g hg).2, h2, h3.below hb⟩
theorem OSS.more (h : OSS w lo hi v Ls) (a : lo' ≤ lo) (b : hi ≤ hi') : OSS w lo' hi' v Ls := by
  obtain ⟨vs, h1, h2, h3⟩ := h
  exact ⟨vs, own_base h1 a, fun g hg => by have := h2 g hg; omega, h3.more a b⟩
theorem OSS.btw (h : OSS w lo hi v Ls) (hb : Btw lo' hi' w w') (ha : hi ≤ lo' ∨ hi' ≤ lo) : OSS w' lo hi v Ls := by
  obtain ⟨vs, h1, h2, h3⟩ := h
  exact ⟨vs, own_same h1 fun g hg => hb.block g (h1.lt g hg).2 (by have := h1.lt g hg; have := h2 g hg; omega), h2, h3.btw hb ha⟩
theorem OSS.slice (h : OSS w lo hi v Ls) : ∃ A c, v = .slice A Ls.length c := by
  obtain ⟨vs, h1, h2, h3⟩ := h
  exact own_slice h1
theorem ri_oi {A : Option Addr} {n c : Nat} {zs : List Int} (h : OI w lo hi (.slice A n c) zs) : n = zs.length ∧ RI w A zs.length zs := by
  obtain ⟨A', c', e⟩ := h.slice
  injection e with e1 e2 e3
  subst e1 e2 e3
  exact ⟨rfl, RI.of_own h.1⟩
theorem RSS.of_own {A : Option Addr} {n c : Nat} (h : OSS w lo hi (.slice A n c) Ls) : n = Ls.length ∧ RSS w A Ls.length Ls := by
  obtain ⟨A', c', e⟩ := h.slice
  injection e with e1 e2 e3
  subst e1 e2 e3
  obtain ⟨vs, h1, h2, h3⟩ := h
  refine ⟨rfl, rfl, vs, Reads.of_own h1, fun i L hL => ?_⟩
  have hl : i < vs.length := by rw [h3.len]; exact (List.getElem?_eq_some_iff.1 hL).1
  have o := h3.own i _ L (List.getElem?_eq_getElem hl) hL
  obtain ⟨Ai, ci, e⟩ := o.slice
  refine ⟨Ai, ci, by rw [List.getElem?_eq_getElem hl, e], ?_⟩
  rw [e] at o
  exact RI.of_own o.1
/-- the empty list of lists -/
theorem OSS.lit0 (w : World) : OSS (w.alloc (.cells #[] 27)) w.heap.size (w.heap.size + 1) (.slice (some ⟨w.heap.size, 0, none⟩) 0 0) [] :=
  ⟨[], World.ownsRow_lit (base := w.heap.size) (e := 27) (size := 1) w #[] 0 (Nat.le_refl _) (by simp [maxLen]) rfl, fun g hg => by simp [Value.ownBlock] at hg; omega, Inn.nil⟩
/-- one list more, by append -/
theorem OSS.app {w1 : World} {v' u : Value} {vs : List Value} {L : List Int} (h1 : w.ownsRow lo 27 1 v Ls.length vs) (h3 : Inn w lo w.heap.size vs Ls) (hu : OI w lo w.heap.size u L)
    (ha : ∀ (i : Nat) (u' : Value), vs[i]? = some u' → ∀ g : Nat, u'.ownBlock = some g → u.ownBlock = some g → False)
    (hown' : w1.ownsRow lo 27 1 v' (Ls.length + 1) (vs ++ [u])) (hgrow : (w.alloc (.cells #[u] 27)).grownBy w1 v.ownBlock) : OSS w1 lo w1.heap.size v' (Ls ++ [L]) := by
  have hsz : w.heap.size ≤ w1.heap.size := by have := hgrow.size; simp at this; omega
  have hkeep : ∀ k, k < w.heap.size → v.ownBlock ≠ some k → w1.heap[k]? = w.heap[k]? := fun k hk hne =>
    (hgrow.block k (by simp; omega) (fun e => hne e.symm)).trans (Below.heap_alloc w _ k hk)
  have hty : ∀ (x : Value) (g : Nat) (M : List Int), OI w lo w.heap.size x M → x.ownBlock = some g → v.ownBlock ≠ some g := fun x g M hx hg he => by
    rcases h1.2 with ⟨rfl, _⟩ | ⟨g', cap, cur, rfl, _, hh, _⟩
    · simp [Value.ownBlock] at he
    · have : g' = g := by simpa [Value.ownBlock] using he
      subst this
      exact own_blk_ne hx.1 hh (by decide) hg
  have h3' := h3.snoc hu ha
  refine ⟨vs ++ [u], by rw [List.length_append]; exact hown', fun g hg => (hown'.lt g hg).2, ?_⟩
  refine (h3'.same fun i x hx g hg => ?_).more (Nat.le_refl _) hsz
  have hl : i < (vs ++ [u]).length := (List.getElem?_eq_some_iff.1 hx).1
  have o := h3'.own i x _ hx (List.getElem?_eq_getElem (show i < (Ls ++ [L]).length by rw [← h3'.len]; exact hl))
  exact hkeep g (h3'.lt hx hg).2.2 (hty x g _ o hg)
end

/-! ### marks -/
def totL : List (List Int) → Nat
  | [] => 0
  | L :: Ls => L.length + totL Ls
/-- the marks from k on, list by list -/
def mkSS (k : Nat) : List (List Int) → List (List Int)
  | [] => []
  | L :: Ls => LT L.length (mk k) :: mkSS (k + L.length) Ls
theorem mkSS_length : ∀ (k : Nat) (Ls : List (List Int)), (mkSS k Ls).length = Ls.length
  | _, [] => rfl
  | k, L :: Ls => by simp [mkSS, mkSS_length]
theorem mkSS_get : ∀ (Ls : List (List Int)) (k i : Nat), (mkSS k Ls)[i]? = (Ls[i]?).map (fun L => LT L.length (mk (k + totL (Ls.take i))))
  | [], k, i => by simp [mkSS]
  | L :: Ls, k, 0 => by simp [mkSS, totL]
  | L :: Ls, k, i + 1 => by
    simp only [mkSS, List.getElem?_cons_succ, List.take_succ_cons, totL]
    rw [mkSS_get Ls, Nat.add_assoc]
theorem totL_append : ∀ (Ls Ms : List (List Int)), totL (Ls ++ Ms) = totL Ls + totL Ms
  | [], Ms => by simp [totL]
  | L :: Ls, Ms => by simp [totL, totL_append Ls Ms]; omega
theorem totL_take (Ls : List (List Int)) {k : Nat} (hk : k < Ls.length) : totL (Ls.take (k + 1)) = totL (Ls.take k) + (Ls[k]?.getD []).length := by
  rw [List.take_succ_eq_append_getElem hk, totL_append, List.getElem?_eq_getElem hk]
  simp [totL]
theorem totL_le (Ls : List (List Int)) (k : Nat) : totL (Ls.take k) ≤ totL Ls := by
  have h := congrArg totL (List.take_append_drop k Ls)
  rw [totL_append] at h
  omega
theorem totL_mem (Ls : List (List Int)) {k : Nat} (hk : k < Ls.length) : totL (Ls.take k) + (Ls[k]?.getD []).length ≤ totL Ls := by
  rw [← totL_take Ls hk]; exact totL_le Ls _
/-- what is marked when the first i lists are -/
def mkT (k : Nat) (Ls : List (List Int)) (i : Nat) : List (List Int) := (mkSS k Ls).take i ++ Ls.drop i
theorem mkT_zero (k : Nat) (Ls : List (List Int)) : mkT k Ls 0 = Ls := by simp [mkT]
theorem mkT_all (k : Nat) (Ls : List (List Int)) : mkT k Ls Ls.length = mkSS k Ls := by
  simp only [mkT, List.drop_length, List.append_nil]
  exact List.take_of_length_le (by rw [mkSS_length]; exact Nat.le_refl _)
theorem mkT_length (k : Nat) (Ls : List (List Int)) (i : Nat) : (mkT k Ls i).length = Ls.length := by
  simp [mkT, mkSS_length]; omega
theorem mkT_get (k : Nat) (Ls : List (List Int)) {i : Nat} (hi : i < Ls.length) : (mkT k Ls i)[i]? = some (Ls[i]?.getD []) := by
  have hl : ((mkSS k Ls).take i).length = i := by simp [mkSS_length]; omega
  rw [mkT, List.getElem?_append_right (by omega), hl, Nat.sub_self, List.getElem?_drop, Nat.add_zero, List.getElem?_eq_getElem hi]
  rfl
theorem mkT_step (k : Nat) (Ls : List (List Int)) {i : Nat} (hi : i < Ls.length) : (mkT k Ls i).set i (LT (Ls[i]?.getD []).length (mk (k + totL (Ls.take i)))) = mkT k Ls (i + 1) := by
  have hl : ((mkSS k Ls).take i).length = i := by simp [mkSS_length]; omega
  have hl1 : ((mkSS k Ls).take (i + 1)).length = i + 1 := by simp [mkSS_length]; omega
  apply List.ext_getElem?
  intro j
  unfold mkT
  rw [List.getElem?_set]
  by_cases e : i = j
  · subst e
    rw [if_pos rfl, if_pos (by simp [mkSS_length]; omega), List.getElem?_append_left (by omega), List.getElem?_take_of_lt (by omega), mkSS_get, List.getElem?_eq_getElem hi]
    rfl
  · rw [if_neg e]
    by_cases h1 : j < i
    · rw [List.getElem?_append_left (by omega), List.getElem?_append_left (by omega), List.getElem?_take_of_lt h1, List.getElem?_take_of_lt (by omega)]
    · rw [List.getElem?_append_right (by omega), List.getElem?_append_right (by omega), hl, hl1, List.getElem?_drop, List.getElem?_drop]
      congr 1; omega

/-- what szIntSS leaves -/
def szR (left : Int) : List (List Int) → Int
  | [] => left
  | L :: Ls => if left - L.length < 0 then -1 else szR (left - L.length) Ls
theorem szR_nonneg : ∀ (Ls : List (List Int)) (left : Int), 0 ≤ left → 0 ≤ szR left Ls → szR left Ls = left - totL Ls
  | [], left, _, h => by simp [szR, totL]
  | L :: Ls, left, h0, h => by
    unfold szR at h ⊢
    by_cases hc : left - L.length < 0
    · rw [if_pos hc] at h; omega
    · rw [if_neg hc] at h ⊢
      rw [szR_nonneg Ls _ (by omega) h, totL]; push_cast; omega
theorem szR_min : ∀ (Ls : List (List Int)) (left : Int), 0 ≤ left → -1 ≤ szR left Ls
  | [], left, h => by simp [szR]; omega
  | L :: Ls, left, h0 => by
    unfold szR
    by_cases hc : left - L.length < 0
    · rw [if_pos hc]; omega
    · rw [if_neg hc]; exact szR_min Ls _ (by omega)
theorem szR_drop (Ls : List (List Int)) {k : Nat} (hk : k < Ls.length) (left : Int) : szR left (Ls.drop k) = if left - (Ls[k]?.getD []).length < 0 then -1 else szR (left - (Ls[k]?.getD []).length) (Ls.drop (k + 1)) := by
  rw [List.drop_eq_getElem_cons hk, List.getElem?_eq_getElem hk]; rfl
end Go.Proofs.Ytckppfgooflooaa
