/-
  DrawE.
-/
import Derived.Test.YtonoepggcgjfhaaME
import Derived.Test.YtonoepggcgjfhaaMF
namespace Go.Proofs.Ytonoepggcgjfhaa
set_option maxRecDepth 100000
set_option linter.unusedVariables false
set_option linter.unusedSimpArgs false
set_option linter.unusedSectionVars false

/-! The draw of a chart of ways: how long it is, and where it lies. -/
section
open Go.RowKit

/-- two lists of lists in new memory, the inner ones below block hi -/
def Sep (W : World) (lo hi : Nat) (v1 v2 : Value) (Cs Ys : List (List Int)) : Prop :=
  ∃ vs1 vs2, W.ownsRow lo 24 1 v1 Cs.length vs1 ∧ W.ownsRow lo 24 1 v2 Ys.length vs2 ∧ (∀ g, v1.ownBlock = some g → v2.ownBlock = some g → False) ∧ Inn W lo hi vs1 Cs ∧ Inn W lo hi vs2 Ys
section
variable {W W' w1 : World} {lo hi R : Nat} {v1 v2 v' u : Value} {Cs Ys : List (List Int)} {vs1 vs2 : List Value} {L : List Int}
theorem Sep.swap (h : Sep W lo hi v1 v2 Cs Ys) : Sep W lo hi v2 v1 Ys Cs := by
  obtain ⟨a, b, h1, h2, h3, h4, h5⟩ := h
  exact ⟨b, a, h2, h1, fun g e e' => h3 g e' e, h5, h4⟩
theorem Sep.below (h : Sep W lo hi v1 v2 Cs Ys) (hb : Below W.heap.size W W') : Sep W' lo hi v1 v2 Cs Ys := by
  obtain ⟨a, b, h1, h2, h3, h4, h5⟩ := h
  exact ⟨a, b, own_below h1 hb, own_below h2 hb, h3, h4.below hb, h5.below hb⟩
theorem Sep.rd (h : Sep W lo hi v1 v2 Cs Ys) (hg : W.grownBy W' (some R)) (hR : R < lo) : Sep W' lo hi v1 v2 Cs Ys := by
  obtain ⟨a, b, h1, h2, h3, h4, h5⟩ := h
  exact ⟨a, b, own_rd h1 hg hR, own_rd h2 hg hR, h3, h4.same fun i x hx g e => hg.block g (h4.lt hx e).2.2 (fun e' => by have := (h4.lt hx e).1; injection e' with e'; omega),
    h5.same fun i x hx g e => hg.block g (h5.lt hx e).2.2 (fun e' => by have := (h5.lt hx e).1; injection e' with e'; omega)⟩
theorem Sep.app (h1 : W.ownsRow lo 24 1 v1 Cs.length vs1) (h2 : W.ownsRow lo 24 1 v2 Ys.length vs2) (h3 : ∀ g, v1.ownBlock = some g → v2.ownBlock = some g → False) (h4 : Inn W lo hi vs1 Cs) (h5 : Inn W lo hi vs2 Ys) (hh : hi ≤ W.heap.size)
    (hu : OI W lo W.heap.size u L) (ha : ∀ g, u.ownBlock = some g → hi ≤ g)
    (hown' : w1.ownsRow lo 24 1 v' (Cs.length + 1) (vs1 ++ [u])) (hgrow : (W.alloc (.cells #[u] 24)).grownBy w1 v1.ownBlock) (hat : v'.ownBlock = v1.ownBlock ∨ v'.ownBlock = some (W.alloc (.cells #[u] 24)).heap.size) :
    Sep w1 lo w1.heap.size v' v2 (Cs ++ [L]) Ys := by
  have hsz : W.heap.size ≤ w1.heap.size := by have := hgrow.size; simp at this; omega
  refine ⟨vs1 ++ [u], vs2, by rw [List.length_append]; exact hown', ?_, ?_, ?_, ?_⟩
  · exact own_same h2 fun g hg => (hgrow.block g (by have := (h2.lt g hg).2; simp; omega) (fun e => h3 g e.symm hg)).trans (Below.heap_alloc W _ g (h2.lt g hg).2)
  · intro g e1 e2
    rcases hat with e | e
    · exact h3 g (by rw [← e]; exact e1) e2
    · rw [e] at e1; injection e1 with e1; have := (h2.lt g e2).2; simp at e1; omega
  · exact inn_app h1 (h4.more (Nat.le_refl _) hh) hu (fun i u' hi' g e1 e2 => by have := (h4.lt hi' e1).2.1; have := ha g e2; omega) hgrow
  · exact (inn_keep (h1.alloc _) (h5.below ((Below.refl _ W).alloc (Nat.le_refl _) _)) hgrow).more (Nat.le_refl _) (by omega)
theorem Sep.oss (h : Sep W lo hi v1 v2 Cs Ys) (hh : hi ≤ W.heap.size) : OSS W lo W.heap.size v1 Cs ∧ OSS W lo W.heap.size v2 Ys := by
  obtain ⟨a, b, h1, h2, h3, h4, h5⟩ := h
  exact ⟨⟨a, h1, fun g hg => (h1.lt g hg).2, h4.more (Nat.le_refl _) hh⟩, ⟨b, h2, fun g hg => (h2.lt g hg).2, h5.more (Nat.le_refl _) hh⟩⟩
theorem Sep.start (w : World) (hi : Nat) : Sep ((w.alloc (.cells #[] 24)).alloc (.cells #[] 24)) w.heap.size hi (.slice (some ⟨w.heap.size, 0, none⟩) 0 0) (.slice (some ⟨w.heap.size + 1, 0, none⟩) 0 0) [] [] := by
  have hL1 : ((w.alloc (.cells #[] 24)).alloc (.cells #[] 24)).ownsRow w.heap.size 24 1 (.slice (some ⟨w.heap.size, 0, none⟩) 0 0) 0 [] :=
    (World.ownsRow_lit (base := w.heap.size) (e := 24) (size := 1) w #[] 0 (Nat.le_refl _) (by simp [maxLen]) rfl).alloc _
  have hL2 : ((w.alloc (.cells #[] 24)).alloc (.cells #[] 24)).ownsRow w.heap.size 24 1 (.slice (some ⟨w.heap.size + 1, 0, none⟩) 0 0) 0 [] := by
    have := World.ownsRow_lit (base := w.heap.size) (e := 24) (size := 1) (w.alloc (.cells #[] 24)) #[] 0 (by simp) (by simp [maxLen]) rfl
    simpa using this
  exact ⟨[], [], hL1, hL2, fun g e1 e2 => by simp [Value.ownBlock] at e1 e2; omega, Inn.nil, Inn.nil⟩
end
theorem gb_far_ {W V w1 : World} {row : Option Nat} (h : W.grownBy V none) (k : V.grownBy w1 row) : W.grownBy w1 row :=
  ⟨k.os.trans h.os, k.tape.trans h.tape, k.output.trans h.output, Nat.le_trans h.size k.size, fun j hj hne => (k.block j (Nat.lt_of_lt_of_le hj h.size) hne).trans (h.block j hj (by simp))⟩

theorem own_ne {w : World} {base size n : Nat} {e : TypeId} {v : Value} {xs : List Value} (h : w.ownsRow base e size v (n + 1) xs) : v ≠ .slice none 0 0 := by
  rintro rfl
  rcases h.2 with ⟨_, h0⟩ | ⟨_, _, _, h1, _⟩
  · omega
  · cases h1
theorem oss_some {w : World} {lo hi : Nat} {v : Value} {Ls : List (List Int)} (h : OSS w lo hi v Ls) (hne : v ≠ .slice none 0 0) : ∃ g c : Nat, v = .slice (some ⟨g, 0, none⟩) Ls.length c := by
  obtain ⟨vs, h1, _⟩ := h
  exact own_two_slice h1 hne

/-- under way: the chains, the cycles and the way begun -/
structure DrS (u W : World) (R P m T : Nat) (v1 v2 vw : Value) (L : List Int) (Cs Ys : List (List Int)) : Prop where
  sep : Sep W u.heap.size m v1 v2 Cs Ys
  own : W.ownsRow m 3 1 vw L.length (ivs L)
  m1 : u.heap.size ≤ m
  m2 : m ≤ W.heap.size
  g : u.grownBy W (some R)
  rd : Rd W R P
  rl : R < u.heap.size
  l : L.length ≤ T
  lc : Cs.length ≤ T
  ly : Ys.length ≤ T
  mc : ∀ M ∈ Cs, M.length ≤ T
  my : ∀ M ∈ Ys, M.length ≤ T
  nc : v1 ≠ .slice none 0 0
  ny : v2 ≠ .slice none 0 0
section
variable {u W W' w1 : World} {R P P' m T : Nat} {v1 v2 vw v' : Value} {L : List Int} {Cs Ys : List (List Int)} {vs1 vs2 : List Value}
theorem DrS.pick (h : DrS u W R P m T v1 v2 vw L Cs Ys) (hg : W.grownBy W' (some R)) (hr : Rd W' R P') : DrS u W' R P' m T v1 v2 vw L Cs Ys :=
  { h with sep := h.sep.rd hg h.rl, own := own_rd h.own hg (Nat.lt_of_lt_of_le h.rl h.m1), m2 := Nat.le_trans h.m2 hg.size, g := gb_trans h.g hg, rd := hr }
theorem DrS.app (h : DrS u W R P m T v1 v2 vw L Cs Ys) {x : Int} {o : Obj} (hown' : w1.ownsRow m 3 1 v' (L.length + 1) (ivs L ++ [.int .i64 x])) (hgrow : (W.alloc o).grownBy w1 vw.ownBlock) : ∃ L', DrS u w1 R P m (T + 1) v1 v2 v' L' Cs Ys := by
  refine ⟨L ++ [x], ?_⟩
  have hlo : ∀ g, vw.ownBlock = some g → m ≤ g := fun g e => (h.own.lt g e).1
  have hga : W.grownBy w1 vw.ownBlock := gb_far_ (World.grownBy_alloc W o none) hgrow
  obtain ⟨a, b, h1, h2, h3, h4, h5⟩ := h.sep
  have hsz := hga.size
  have hm1 := h.m1
  have hty : ∀ (v : Value) (n : Nat) (xs : List Value), W.ownsRow u.heap.size 24 1 v n xs → w1.ownsRow u.heap.size 24 1 v n xs := fun v n xs hv => own_same hv fun g e => hga.block g (hv.lt g e).2 (fun e' => by
    rcases hv.2 with ⟨rfl, _⟩ | ⟨g', cap, cur, rfl, _, hh, _⟩
    · simp [Value.ownBlock] at e
    · have : g' = g := by simpa [Value.ownBlock] using e
      subst this
      exact own_blk_ne h.own hh (by decide) e'.symm)
  have hin : ∀ (vs : List Value) (Ls : List (List Int)), Inn W u.heap.size m vs Ls → Inn w1 u.heap.size m vs Ls := fun vs Ls hI => hI.same fun i x hx g e => hga.block g (hI.lt hx e).2.2 (fun e' => by have := (hI.lt hx e).2.1; have := hlo g e'.symm; omega)
  exact ⟨⟨a, b, hty _ _ _ h1, hty _ _ _ h2, h3, hin _ _ h4, hin _ _ h5⟩, by rw [List.length_append, ← ivs_snoc]; exact hown', hm1, Nat.le_trans h.m2 hsz,
    gb_far h.g hga (fun g e => by have := hlo g e; omega), h.rd.grown hga (fun g e => by have := hlo g e; have := h.rl; omega), h.rl, by have := h.l; simp; omega, by have := h.lc; omega, by have := h.ly; omega,
    fun M hM => by have := h.mc M hM; omega, fun M hM => by have := h.my M hM; omega, h.nc, h.ny⟩
theorem DrS.swap (h : DrS u W R P m T v1 v2 vw L Cs Ys) : DrS u W R P m T v2 v1 vw L Ys Cs :=
  ⟨h.sep.swap, h.own, h.m1, h.m2, h.g, h.rd, h.rl, h.l, h.ly, h.lc, h.my, h.mc, h.ny, h.nc⟩
/-- the way is put behind the chains, and a new one begun -/
theorem DrS.put (h : DrS u W R P m T v1 v2 vw L Cs Ys) (h1 : W.ownsRow u.heap.size 24 1 v1 Cs.length vs1) (h2 : W.ownsRow u.heap.size 24 1 v2 Ys.length vs2) (h3 : ∀ g, v1.ownBlock = some g → v2.ownBlock = some g → False) (h4 : Inn W u.heap.size m vs1 Cs) (h5 : Inn W u.heap.size m vs2 Ys)
    (hown' : w1.ownsRow u.heap.size 24 1 v' (Cs.length + 1) (vs1 ++ [vw])) (hgrow : (W.alloc (.cells #[vw] 24)).grownBy w1 v1.ownBlock) (hat : v'.ownBlock = v1.ownBlock ∨ v'.ownBlock = some (W.alloc (.cells #[vw] 24)).heap.size) (hne : v' ≠ .slice none 0 0) :
    DrS u (w1.alloc (.cells #[] 3)) R P w1.heap.size (T + 1) v' v2 (.slice (some ⟨w1.heap.size, 0, none⟩) 0 0) [] (Cs ++ [L]) Ys := by
  have hm := h.m1
  have hm2 := h.m2
  have hS := Sep.app h1 h2 h3 h4 h5 h.m2 ⟨own_base h.own hm, fun g e => (h.own.lt g e).2⟩ (fun g e => (h.own.lt g e).1) hown' hgrow hat
  have hlo : ∀ g, v1.ownBlock = some g → u.heap.size ≤ g := fun g e => (h1.lt g e).1
  have hga : W.grownBy w1 v1.ownBlock := gb_far_ (World.grownBy_alloc W _ none) hgrow
  have hsz := hga.size
  have hb : Below w1.heap.size w1 (w1.alloc (.cells #[] 3)) := (Below.refl _ w1).alloc (Nat.le_refl _) _
  exact ⟨hS.below hb, own_lit0 w1, by omega, by simp, gb_alloc (gb_far h.g hga hlo) _, (h.rd.grown hga (fun g e => by have := hlo g e; have := h.rl; omega)).below hb (by have := h.rl; omega), h.rl, by simp, by have := h.lc; simp; omega, by have := h.ly; omega,
    fun M hM => by
      rcases List.mem_append.1 hM with hM | hM
      · have := h.mc M hM; omega
      · have := h.l; rw [List.mem_singleton.1 hM]; omega,
    fun M hM => by have := h.my M hM; omega, hne, h.ny⟩
end

/-- what is drawn: a number of points, two lists of lists -/
def DrawnW (w : World) (e : Ending) (w' : World) : Prop := ∃ (n : Int) (v1 v2 : Value) (Cs Ys : List (List Int)), e = .returned (.tuple #[.int .i64 n, v1, v2]) ∧ 1 ≤ n ∧ n ≤ 6 ∧ Cs.length ≤ 20 ∧ Ys.length ≤ 20 ∧ (∀ L ∈ Cs, L.length ≤ 20) ∧ (∀ L ∈ Ys, L.length ≤ 20) ∧
  v1 ≠ .slice none 0 0 ∧ v2 ≠ .slice none 0 0 ∧ OSS w' w.heap.size w'.heap.size v1 Cs ∧ OSS w' w.heap.size w'.heap.size v2 Ys ∧ Below w.heap.size w w'
set_option maxHeartbeats 1000000 in
theorem drawWaysChart_any (A : Option Addr) (n c : Nat) (bs : Nat → Nat) (w : World) (h : Src w w.heap.size A n bs) (hnc : n ≤ c) (hn : n ≤ 1048576) :
    Calls Try.prog 20 #[.slice A n c] w (DrawnW w) := by
  obtain ⟨i0, hi, hz0, hz1, hz2⟩ := info_parts info_int
  obtain ⟨i1, hj, hj0, hj1, hj2⟩ := info_parts info_ints
  go_enter Try.func20, Try.ntmps20
  go_wp2_with fail
  refine (open_any _ _ _ _ _ h hnc hn).mono ?_
  rintro e w1 ⟨R, rfl, hRl, hRs, hRd, hB⟩
  clear h
  go_wp2_with fail
  refine (pick_any R 0 6 _ hRd (by omega) (by omega) (by omega)).mono ?_
  rintro e w2 ⟨v0, rfl, hv0, hRd2, hg2⟩
  have hB2 := below_gb hB (Nat.le_refl _) hg2 hRl
  have hR2 := hRd2.lt
  have hD0 : DrS w2 (((w2.alloc (.cells #[] 24)).alloc (.cells #[] 24)).alloc (.cells #[] 3)) R 1 (w2.heap.size + 1 + 1) 0 (.slice (some ⟨w2.heap.size, 0, none⟩) 0 0) (.slice (some ⟨w2.heap.size + 1, 0, none⟩) 0 0) (.slice (some ⟨w2.heap.size + 1 + 1, 0, none⟩) 0 0) [] [] [] := by
    have hl := own_lit0 ((w2.alloc (.cells #[] 24)).alloc (.cells #[] 24))
    simp only [World.size_alloc] at hl
    exact ⟨(Sep.start w2 _).below ((Below.refl _ _).alloc (Nat.le_refl _) _), hl, by omega, by simp, gb_alloc (gb_alloc (gb_alloc (gb_refl w2 _) _) _) _, ((hRd2.below ((Below.refl _ w2).alloc (Nat.le_refl _) _) hR2).below ((Below.refl _ _).alloc (Nat.le_refl _) _) (by simp; omega)).below ((Below.refl _ _).alloc (Nat.le_refl _) _) (by simp; omega), hR2, by simp, by simp, by simp, (fun M hM => absurd hM (by simp)), (fun M hM => absurd hM (by simp)), by simp, by simp⟩
  clear hB hRd hg2 hRs hRd2
  go_wp2
  go_loopw [7, 8, 9, 10] (fun v1 v2 vw i wr => ∃ (t P m T : Nat) (L : List Int) (Cs Ys : List (List Int)), t ≤ 1 + v0 ∧ i = .int .i64 (t : Int) ∧ P ≤ 2 * t + 1 ∧ T ≤ 2 * t ∧ DrS w2 wr R P m T v1 v2 vw L Cs Ys) (fun _ _ _ i _ => 1 + v0 - (intOf i).toNat)
  case atStart => exact ⟨0, 1, _, 0, [], [], [], Nat.zero_le _, rfl, by omega, by omega, hD0⟩
  case round =>
    clear hD0
    obtain ⟨t, P, m, T, L, Cs, Ys, ht, rfl, hP, hT, hD⟩ := hrel
    have hl := hD.l
    by_cases hlt : t < 1 + v0
    · have r1 : L.length + 1 ≤ maxLen := by unfold maxLen; omega
      have r2 : (L.length + 1) * 8 ≤ 140737488355328 := by omega
      have r3 : ∀ o : Obj, m ≤ (wr.alloc o).heap.size := fun o => by have := hD.m2; simp; omega
      have hP1 : P + 1 ≤ 2 * (t + 1) + 1 := by omega
      have hT1 : T + 1 ≤ 2 * (t + 1) := by omega
      by_cases hv5 : v0 = 4
      · have hne : ((1 : Int) + (v0 : Int) != 5) = false := by subst hv5; decide
        clear hv5
        go_wp2_with (at_builtin; refine wpList_append_own _ rfl _ _ 24 rfl m 3 i0 (.int .i64 0) 1 8 Try.underlying24 hi hz0 hz1 hz2 rfl (by decide) _ _ _ rfl (hD.own.alloc _) ⟨wr.heap.size, 0, none⟩ 1 1 [.int .i64 _] rfl rfl (cell_one_new _ _ _) (by simp [Value.oneCell']) r1 r2 (r3 _) ?_; intro vw' w3 hown' hgrow _; obtain ⟨L1, hD1⟩ := hD.app hown' hgrow; clear hown' hgrow hD)
        go_wp2_with fail
        refine (pick_any R P 3 _ hD1.rd (by omega) (by omega) (by omega)).mono ?_
        rintro e w4 ⟨z1, rfl, hz1', hRd4, hg4⟩
        have hD4 := hD1.pick hg4 hRd4
        clear hRd4 hg4 hD1
        rcases z1 with _ | z1
        · go_wp2_with fail
          refine (pick_any R (P + 1) 2 _ hD4.rd (by omega) (by omega) (by omega)).mono ?_
          rintro e w5 ⟨z2, rfl, hz2', hRd5, hg5⟩
          have hD5 := hD4.pick hg5 hRd5
          clear hRd5 hg5 hD4
          obtain ⟨vs1, vs2, h1, h2, h3, h4, h5⟩ := hD5.sep
          obtain ⟨Aw, cw, rfl⟩ := own_slice hD5.own
          have q1 : ∀ k, k ≤ T + 1 → k + 1 ≤ maxLen := fun k hk => by unfold maxLen; omega
          have q2 : ∀ k, k ≤ T + 1 → (k + 1) * 24 ≤ 140737488355328 := fun k hk => by omega
          have q3 : ∀ o : Obj, w2.heap.size ≤ (w5.alloc o).heap.size := fun o => by have := hD5.g.size; simp; omega
          have hP2 : P + 1 + 1 ≤ 2 * (t + 1) + 1 := by omega
          have hT2 : T + 1 + 1 ≤ 2 * (t + 1) := by omega
          rcases z2 with _ | z2
          · go_wp2_with (at_builtin; refine wpList_append_own_at _ rfl _ _ 22 rfl w2.heap.size 24 i1 (.slice none 0 0) 1 24 Try.underlying22 hj hj0 hj1 hj2 rfl (by decide) _ _ _ rfl (h1.alloc _) ⟨w5.heap.size, 0, none⟩ 1 1 [.slice Aw L1.length cw] rfl rfl (cell_one_new _ _ _) (by simp [Value.oneCell']) (q1 _ hD5.lc) (q2 _ hD5.lc) (q3 _) ?_; intro v' w6 hown' hgrow _ hat; have hD6 := hD5.put h1 h2 h3 h4 h5 hown' hgrow hat (own_ne hown'); clear hown' hgrow hat h1 h2 h3 h4 h5 hD5)
            go_roundw
            case rel => exact ⟨t + 1, _, _, _, _, _, _, by omega, by go_num, hP2, hT2, hD6⟩
            case measure => simp [intOf]; omega
          · have he2 : ((z2 : Int) + 1 == 0) = false := by simp; omega
            go_wp2_with (at_builtin; refine wpList_append_own_at _ rfl _ _ 22 rfl w2.heap.size 24 i1 (.slice none 0 0) 1 24 Try.underlying22 hj hj0 hj1 hj2 rfl (by decide) _ _ _ rfl (h2.alloc _) ⟨w5.heap.size, 0, none⟩ 1 1 [.slice Aw L1.length cw] rfl rfl (cell_one_new _ _ _) (by simp [Value.oneCell']) (q1 _ hD5.ly) (q2 _ hD5.ly) (q3 _) ?_; intro v' w6 hown' hgrow _ hat; have hD6 := (hD5.swap.put h2 h1 (fun g e e' => h3 g e' e) h5 h4 hown' hgrow hat (own_ne hown')).swap; clear hown' hgrow hat h1 h2 h3 h4 h5 hD5)
            go_roundw
            case rel => exact ⟨t + 1, _, _, _, _, _, _, by omega, by go_num, hP2, hT2, hD6⟩
            case measure => simp [intOf]; omega
        · have he1 : ((z1 : Int) + 1 == 0) = false := by simp; omega
          by_cases hend : t = v0
          · have he3 : ((t : Int) == 1 + (v0 : Int) - 1) = true := by simp; omega
            have he4 : ((t : Int) == (v0 : Int)) = true := by simp; omega
            go_wp2_with fail
            refine (pick_any R (P + 1) 2 _ hD4.rd (by omega) (by omega) (by omega)).mono ?_
            rintro e w5 ⟨z2, rfl, hz2', hRd5, hg5⟩
            have hD5 := hD4.pick hg5 hRd5
            clear hRd5 hg5 hD4
            obtain ⟨vs1, vs2, h1, h2, h3, h4, h5⟩ := hD5.sep
            obtain ⟨Aw, cw, rfl⟩ := own_slice hD5.own
            have q1 : ∀ k, k ≤ T + 1 → k + 1 ≤ maxLen := fun k hk => by unfold maxLen; omega
            have q2 : ∀ k, k ≤ T + 1 → (k + 1) * 24 ≤ 140737488355328 := fun k hk => by omega
            have q3 : ∀ o : Obj, w2.heap.size ≤ (w5.alloc o).heap.size := fun o => by have := hD5.g.size; simp; omega
            have hP2 : P + 1 + 1 ≤ 2 * (t + 1) + 1 := by omega
            have hT2 : T + 1 + 1 ≤ 2 * (t + 1) := by omega
            rcases z2 with _ | z2
            · go_wp2_with (at_builtin; refine wpList_append_own_at _ rfl _ _ 22 rfl w2.heap.size 24 i1 (.slice none 0 0) 1 24 Try.underlying22 hj hj0 hj1 hj2 rfl (by decide) _ _ _ rfl (h1.alloc _) ⟨w5.heap.size, 0, none⟩ 1 1 [.slice Aw L1.length cw] rfl rfl (cell_one_new _ _ _) (by simp [Value.oneCell']) (q1 _ hD5.lc) (q2 _ hD5.lc) (q3 _) ?_; intro v' w6 hown' hgrow _ hat; have hD6 := hD5.put h1 h2 h3 h4 h5 hown' hgrow hat (own_ne hown'); clear hown' hgrow hat h1 h2 h3 h4 h5 hD5)
              go_roundw
              case rel => exact ⟨t + 1, _, _, _, _, _, _, by omega, by go_num, hP2, hT2, hD6⟩
              case measure => simp [intOf]; omega
            · have he2 : ((z2 : Int) + 1 == 0) = false := by simp; omega
              go_wp2_with (at_builtin; refine wpList_append_own_at _ rfl _ _ 22 rfl w2.heap.size 24 i1 (.slice none 0 0) 1 24 Try.underlying22 hj hj0 hj1 hj2 rfl (by decide) _ _ _ rfl (h2.alloc _) ⟨w5.heap.size, 0, none⟩ 1 1 [.slice Aw L1.length cw] rfl rfl (cell_one_new _ _ _) (by simp [Value.oneCell']) (q1 _ hD5.ly) (q2 _ hD5.ly) (q3 _) ?_; intro v' w6 hown' hgrow _ hat; have hD6 := (hD5.swap.put h2 h1 (fun g e e' => h3 g e' e) h5 h4 hown' hgrow hat (own_ne hown')).swap; clear hown' hgrow hat h1 h2 h3 h4 h5 hD5)
              go_roundw
              case rel => exact ⟨t + 1, _, _, _, _, _, _, by omega, by go_num, hP2, hT2, hD6⟩
              case measure => simp [intOf]; omega
          · have he3 : ((t : Int) == 1 + (v0 : Int) - 1) = false := by simp; omega
            have he4 : ((t : Int) == (v0 : Int)) = false := by simp; omega
            go_wp2
            go_roundw
            case rel => exact ⟨t + 1, _, _, _, _, _, _, by omega, by go_num, hP1, hT1, hD4⟩
            case measure => simp [intOf]; omega
      · have hne : ((1 : Int) + (v0 : Int) != 5) = true := by simp; omega
        have hnz : ((1 : Int) + (v0 : Int)) ≠ 0 := by omega
        clear hv5
        go_wp2_with (at_builtin; refine wpList_append_own _ rfl _ _ 24 rfl m 3 i0 (.int .i64 0) 1 8 Try.underlying24 hi hz0 hz1 hz2 rfl (by decide) _ _ _ rfl (hD.own.alloc _) ⟨wr.heap.size, 0, none⟩ 1 1 [.int .i64 _] rfl rfl (cell_one_new _ _ _) (by simp [Value.oneCell']) r1 r2 (r3 _) ?_; intro vw' w3 hown' hgrow _; obtain ⟨L1, hD1⟩ := hD.app hown' hgrow; clear hown' hgrow hD)
        go_wp2_with fail
        refine (pick_any R P 3 _ hD1.rd (by omega) (by omega) (by omega)).mono ?_
        rintro e w4 ⟨z1, rfl, hz1', hRd4, hg4⟩
        have hD4 := hD1.pick hg4 hRd4
        clear hRd4 hg4 hD1
        rcases z1 with _ | z1
        · go_wp2_with fail
          refine (pick_any R (P + 1) 2 _ hD4.rd (by omega) (by omega) (by omega)).mono ?_
          rintro e w5 ⟨z2, rfl, hz2', hRd5, hg5⟩
          have hD5 := hD4.pick hg5 hRd5
          clear hRd5 hg5 hD4
          obtain ⟨vs1, vs2, h1, h2, h3, h4, h5⟩ := hD5.sep
          obtain ⟨Aw, cw, rfl⟩ := own_slice hD5.own
          have q1 : ∀ k, k ≤ T + 1 → k + 1 ≤ maxLen := fun k hk => by unfold maxLen; omega
          have q2 : ∀ k, k ≤ T + 1 → (k + 1) * 24 ≤ 140737488355328 := fun k hk => by omega
          have q3 : ∀ o : Obj, w2.heap.size ≤ (w5.alloc o).heap.size := fun o => by have := hD5.g.size; simp; omega
          have hP2 : P + 1 + 1 ≤ 2 * (t + 1) + 1 := by omega
          have hT2 : T + 1 + 1 ≤ 2 * (t + 1) := by omega
          rcases z2 with _ | z2
          · go_wp2_with (at_builtin; refine wpList_append_own_at _ rfl _ _ 22 rfl w2.heap.size 24 i1 (.slice none 0 0) 1 24 Try.underlying22 hj hj0 hj1 hj2 rfl (by decide) _ _ _ rfl (h1.alloc _) ⟨w5.heap.size, 0, none⟩ 1 1 [.slice Aw L1.length cw] rfl rfl (cell_one_new _ _ _) (by simp [Value.oneCell']) (q1 _ hD5.lc) (q2 _ hD5.lc) (q3 _) ?_; intro v' w6 hown' hgrow _ hat; have hD6 := hD5.put h1 h2 h3 h4 h5 hown' hgrow hat (own_ne hown'); clear hown' hgrow hat h1 h2 h3 h4 h5 hD5)
            go_roundw
            case rel => exact ⟨t + 1, _, _, _, _, _, _, by omega, by go_num, hP2, hT2, hD6⟩
            case measure => simp [intOf]; omega
          · have he2 : ((z2 : Int) + 1 == 0) = false := by simp; omega
            go_wp2_with (at_builtin; refine wpList_append_own_at _ rfl _ _ 22 rfl w2.heap.size 24 i1 (.slice none 0 0) 1 24 Try.underlying22 hj hj0 hj1 hj2 rfl (by decide) _ _ _ rfl (h2.alloc _) ⟨w5.heap.size, 0, none⟩ 1 1 [.slice Aw L1.length cw] rfl rfl (cell_one_new _ _ _) (by simp [Value.oneCell']) (q1 _ hD5.ly) (q2 _ hD5.ly) (q3 _) ?_; intro v' w6 hown' hgrow _ hat; have hD6 := (hD5.swap.put h2 h1 (fun g e e' => h3 g e' e) h5 h4 hown' hgrow hat (own_ne hown')).swap; clear hown' hgrow hat h1 h2 h3 h4 h5 hD5)
            go_roundw
            case rel => exact ⟨t + 1, _, _, _, _, _, _, by omega, by go_num, hP2, hT2, hD6⟩
            case measure => simp [intOf]; omega
        · have he1 : ((z1 : Int) + 1 == 0) = false := by simp; omega
          by_cases hend : t = v0
          · have he3 : ((t : Int) == 1 + (v0 : Int) - 1) = true := by simp; omega
            have he4 : ((t : Int) == (v0 : Int)) = true := by simp; omega
            go_wp2_with fail
            refine (pick_any R (P + 1) 2 _ hD4.rd (by omega) (by omega) (by omega)).mono ?_
            rintro e w5 ⟨z2, rfl, hz2', hRd5, hg5⟩
            have hD5 := hD4.pick hg5 hRd5
            clear hRd5 hg5 hD4
            obtain ⟨vs1, vs2, h1, h2, h3, h4, h5⟩ := hD5.sep
            obtain ⟨Aw, cw, rfl⟩ := own_slice hD5.own
            have q1 : ∀ k, k ≤ T + 1 → k + 1 ≤ maxLen := fun k hk => by unfold maxLen; omega
            have q2 : ∀ k, k ≤ T + 1 → (k + 1) * 24 ≤ 140737488355328 := fun k hk => by omega
            have q3 : ∀ o : Obj, w2.heap.size ≤ (w5.alloc o).heap.size := fun o => by have := hD5.g.size; simp; omega
            have hP2 : P + 1 + 1 ≤ 2 * (t + 1) + 1 := by omega
            have hT2 : T + 1 + 1 ≤ 2 * (t + 1) := by omega
            rcases z2 with _ | z2
            · go_wp2_with (at_builtin; refine wpList_append_own_at _ rfl _ _ 22 rfl w2.heap.size 24 i1 (.slice none 0 0) 1 24 Try.underlying22 hj hj0 hj1 hj2 rfl (by decide) _ _ _ rfl (h1.alloc _) ⟨w5.heap.size, 0, none⟩ 1 1 [.slice Aw L1.length cw] rfl rfl (cell_one_new _ _ _) (by simp [Value.oneCell']) (q1 _ hD5.lc) (q2 _ hD5.lc) (q3 _) ?_; intro v' w6 hown' hgrow _ hat; have hD6 := hD5.put h1 h2 h3 h4 h5 hown' hgrow hat (own_ne hown'); clear hown' hgrow hat h1 h2 h3 h4 h5 hD5)
              go_roundw
              case rel => exact ⟨t + 1, _, _, _, _, _, _, by omega, by go_num, hP2, hT2, hD6⟩
              case measure => simp [intOf]; omega
            · have he2 : ((z2 : Int) + 1 == 0) = false := by simp; omega
              go_wp2_with (at_builtin; refine wpList_append_own_at _ rfl _ _ 22 rfl w2.heap.size 24 i1 (.slice none 0 0) 1 24 Try.underlying22 hj hj0 hj1 hj2 rfl (by decide) _ _ _ rfl (h2.alloc _) ⟨w5.heap.size, 0, none⟩ 1 1 [.slice Aw L1.length cw] rfl rfl (cell_one_new _ _ _) (by simp [Value.oneCell']) (q1 _ hD5.ly) (q2 _ hD5.ly) (q3 _) ?_; intro v' w6 hown' hgrow _ hat; have hD6 := (hD5.swap.put h2 h1 (fun g e e' => h3 g e' e) h5 h4 hown' hgrow hat (own_ne hown')).swap; clear hown' hgrow hat h1 h2 h3 h4 h5 hD5)
              go_roundw
              case rel => exact ⟨t + 1, _, _, _, _, _, _, by omega, by go_num, hP2, hT2, hD6⟩
              case measure => simp [intOf]; omega
          · have he3 : ((t : Int) == 1 + (v0 : Int) - 1) = false := by simp; omega
            have he4 : ((t : Int) == (v0 : Int)) = false := by simp; omega
            go_wp2
            go_roundw
            case rel => exact ⟨t + 1, _, _, _, _, _, _, by omega, by go_num, hP1, hT1, hD4⟩
            case measure => simp [intOf]; omega
    · obtain rfl : t = 1 + v0 := by omega
      go_wp2_with fail
      refine (pick_any R P 24 _ hD.rd (by omega) (by omega) (by omega)).mono ?_
      rintro e w4 ⟨z1, rfl, hz1', hRd4, hg4⟩
      have hD4 := hD.pick hg4 hRd4
      have hB4 := below_gb hB2 (Nat.le_refl _) hD4.g hRl
      have hs2 := hB2.size
      have hs4 := hD4.g.size
      clear hRd4 hg4 hD
      rcases z1 with _ | z1
      · obtain ⟨vs1, vs2, h1, h2, h3, h4, h5⟩ := hD4.sep
        have hm2 := hD4.m2
        have hlc := hD4.lc
        have hbl : Below w4.heap.size w4 (w4.alloc (.cells #[.int .i64 0] 3)) := (Below.refl _ w4).alloc (Nat.le_refl _) _
        have hsz4 : (w4.alloc (.cells #[.int .i64 0] 3)).heap.size = w4.heap.size + 1 := by simp
        have hu : OI (w4.alloc (.cells #[.int .i64 0] 3)) w2.heap.size (w4.heap.size + 1) (.slice (some ⟨w4.heap.size, 0, none⟩) 1 1) [0] := ⟨World.ownsRow_lit (base := w2.heap.size) (e := 3) (size := 1) w4 #[.int .i64 0] 1 hs4 (by simp [maxLen]) rfl, fun g e => by simp [Value.ownBlock] at e; omega⟩
        have p1 : Cs.length + 1 ≤ maxLen := by unfold maxLen; omega
        have p2 : (Cs.length + 1) * 24 ≤ 140737488355328 := by omega
        have p3 : ∀ o : Obj, w2.heap.size ≤ ((w4.alloc (.cells #[.int .i64 0] 3)).alloc o).heap.size := fun o => by simp; omega
        go_wp2_with (at_builtin; refine wpList_append_own_at _ rfl _ _ 22 rfl w2.heap.size 24 i1 (.slice none 0 0) 1 24 Try.underlying22 hj hj0 hj1 hj2 rfl (by decide) _ _ _ rfl ((h1.alloc _).alloc _) ⟨w4.heap.size + 1, 0, none⟩ 1 1 [_] rfl rfl (by simpa using cell_one_new (w4.alloc (.cells #[.int .i64 0] 3)) _ _) (by simp [Value.oneCell']) p1 p2 (p3 _) ?_; intro v' w6 hown' hgrow _ hat; have hS := Sep.app (h1.alloc _) (h2.alloc _) h3 (h4.below hbl) (h5.below hbl) (by omega) (by rw [hsz4]; exact hu) (fun g e => by simp [Value.ownBlock] at e; omega) hown' hgrow hat; have hn6 := own_ne hown'; have hB6 : Below w.heap.size w w6 := ((hB4.alloc hB4.size _).alloc (by have := hB4.size; simp; omega) _).grown hgrow (by have := hB4.size; simp; omega) (fun g e => by have := (h1.lt g e).1; omega); clear hown' hgrow hat h1 h2 h3 h4 h5)
        have hO := hS.oss (Nat.le_refl _)
        go_ret3
        refine ⟨1 + (v0 : Int), _, _, Cs ++ [[0]], Ys, rfl, by omega, by omega, by simp; omega, by have := hD4.ly; omega, ?_, ?_, hn6, hD4.ny, hO.1.more hs2 (Nat.le_refl _), hO.2.more hs2 (Nat.le_refl _), hB6⟩
        · intro M hM
          rcases List.mem_append.1 hM with hM | hM
          · have := hD4.mc M hM; omega
          · rw [List.mem_singleton.1 hM]; simp
        · intro M hM; have := hD4.my M hM; omega
      · have he1 : ((z1 : Int) + 1 == 0) = false := by simp; omega
        have hO := hD4.sep.oss hD4.m2
        go_wp2
        go_ret3
        exact ⟨1 + (v0 : Int), _, _, Cs, Ys, rfl, by omega, by omega, by have := hD4.lc; omega, by have := hD4.ly; omega, fun M hM => by have := hD4.mc M hM; omega, fun M hM => by have := hD4.my M hM; omega, hD4.nc, hD4.ny, hO.1.more hs2 (Nat.le_refl _), hO.2.more hs2 (Nat.le_refl _), hB4⟩
end

end Go.Proofs.Ytonoepggcgjfhaa
