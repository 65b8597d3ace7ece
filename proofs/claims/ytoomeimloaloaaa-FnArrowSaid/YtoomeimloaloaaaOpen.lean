/-
  spec's reader of drawn bytes, opened: l6Open.
-/
import Derived.Test.YtoomeimloaloaaaPick
import Derived.Outline
namespace Go.Proofs.Ytoomeimloaloaaa
set_option maxRecDepth 100000
open Go.RowKit

/-- the bytes of a slice that came in, below block B -/
def Src (w : World) (B : Nat) (A : Option Addr) (n : Nat) (bs : Nat → Nat) : Prop := (∀ j, bs j < 256) ∧ ∀ j, j < n → ∃ ad : Addr, A = some ad ∧ ad.block < B ∧ w.cell? (ad.add j) = some (.int .u8 (bs j : Nat))
theorem Src.keep {w w' : World} {B : Nat} {A : Option Addr} {n : Nat} {bs : Nat → Nat} (h : Src w B A n bs) (hk : ∀ p : Addr, p.block < B → w'.cell? p = w.cell? p) : Src w' B A n bs :=
  ⟨h.1, fun j hj => by
    obtain ⟨ad, e, hb, hc⟩ := h.2 j hj
    exact ⟨ad, e, hb, (hk _ (by rw [block_of_add]; exact hb)).trans hc⟩⟩
theorem Src.bys {w : World} {B : Nat} {A : Option Addr} {n m : Nat} {bs : Nat → Nat} (h : Src w B A n bs) (hm : m ≤ n) (h2 : m ≤ 2000) : Bys w B A m bs := ⟨h2, h.1, fun j hj => h.2 j (by omega)⟩

def OpenPost (w : World) (e : Ending) (w' : World) : Prop := ∃ R : Nat, e = .returned (.pointer (some ⟨R, 0, none⟩)) ∧ w.heap.size ≤ R ∧ R < w'.heap.size ∧ Rd w' R 0 ∧ Below w.heap.size w w'

theorem rd_new {w : World} {A : Option Addr} {n c : Nat} {bs : Nat → Nat} (h : Bys w w.heap.size A n bs) : Rd (w.alloc (.cells #[.slice A n c, .int .i64 0] 64)) w.heap.size 0 :=
  ⟨A, n, c, bs, heap_alloc_new w _, h.keep fun p hp => World.cell?_alloc_lt w _ p hp⟩

set_option maxHeartbeats 1000000 in
theorem open_any (A : Option Addr) (n c : Nat) (bs : Nat → Nat) (w : World) (h : Src w w.heap.size A n bs) (hnc : n ≤ c) (hn : n ≤ 1048576) :
    Calls Try.prog 30 #[.slice A n c] w (OpenPost w) := by
  by_cases hbig : 2000 < n
  · have hB := h.bys (m := 2000) (by omega) (by omega)
    have HR := Lib.hid (rd_new (c := c) hB)
    clear h hB
    go_enter Try.func30, Try.ntmps30
    go_wp2
    go_ret
    exact ⟨_, rfl, Nat.le_refl _, by simp, HR.out, (Below.refl _ _).alloc (Nat.le_refl _) _⟩
  · have hB := h.bys (m := n) (by omega) (by omega)
    have HR := Lib.hid (rd_new (c := c) hB)
    clear h hB
    go_enter Try.func30, Try.ntmps30
    go_wp2
    go_ret
    exact ⟨_, rfl, Nat.le_refl _, by simp, HR.out, (Below.refl _ _).alloc (Nat.le_refl _) _⟩
theorem gb_trans {w w1 w2 : World} {row : Option Nat} (h : w.grownBy w1 row) (h2 : w1.grownBy w2 row) : w.grownBy w2 row :=
  ⟨h2.os.trans h.os, h2.tape.trans h.tape, h2.output.trans h.output, Nat.le_trans h.size h2.size, fun k hk hne => (h2.block k (Nat.lt_of_lt_of_le hk h.size) hne).trans (h.block k hk hne)⟩
theorem gb_refl (w : World) (row : Option Nat) : w.grownBy w row := ⟨rfl, rfl, rfl, Nat.le_refl _, fun _ _ _ => rfl⟩
theorem gb_drewN {w w1 : World} {row : Option Nat} (h : w.grownBy w1 row) (n : Nat) : w.grownBy (w1.drewN n) row := ⟨h.os, h.tape, h.output, h.size, h.block⟩
/-- what grows blocks behind 'w' alone -/
theorem gb_far {w wr w1 : World} {row row' : Option Nat} (h : w.grownBy wr row) (h2 : wr.grownBy w1 row') (hf : ∀ g, row' = some g → w.heap.size ≤ g) : w.grownBy w1 row :=
  ⟨h2.os.trans h.os, h2.tape.trans h.tape, h2.output.trans h.output, Nat.le_trans h.size h2.size, fun k hk hne =>
    (h2.block k (Nat.lt_of_lt_of_le hk h.size) (fun e => by have := hf k e.symm; omega)).trans (h.block k hk hne)⟩
theorem gb_below {w wr w1 : World} {row : Option Nat} (h : w.grownBy wr row) (h2 : Below wr.heap.size wr w1) : w.grownBy w1 row :=
  gb_far (row' := none) h ⟨h2.os, h2.tape, h2.output, h2.size, fun k hk _ => h2.block k hk⟩ (fun _ e => by cases e)
theorem gb_alloc {w wr : World} {row : Option Nat} (h : w.grownBy wr row) (o : Obj) : w.grownBy (wr.alloc o) row :=
  gb_far (row' := none) h (World.grownBy_alloc _ _ _) (fun _ e => by cases e)
theorem Rd.lt {w : World} {R p : Nat} (h : Rd w R p) : R < w.heap.size := by
  obtain ⟨A, n, c, bs, e, _⟩ := h
  rcases Nat.lt_or_ge R w.heap.size with hlt | hge
  · exact hlt
  · rw [Array.getElem?_eq_none hge] at e; cases e
theorem Rd.grown {w w1 : World} {R p : Nat} {row : Option Nat} (h : Rd w R p) (hg : w.grownBy w1 row) (hf : ∀ g, row = some g → R < g) : Rd w1 R p := by
  have hl := h.lt
  obtain ⟨A, n, c, bs, e, hb⟩ := h
  have hk : ∀ k, k ≤ R → w1.heap[k]? = w.heap[k]? := fun k hk => hg.block k (by omega) (fun e => by have := hf k e.symm; omega)
  exact ⟨A, n, c, bs, (hk R (Nat.le_refl _)).trans e, hb.keep (fun q hq => World.cell?_of_block (hk _ (by omega)))⟩
theorem Rd.below {w w1 : World} {R p B : Nat} (h : Rd w R p) (hb : Below B w w1) (hR : R < B) : Rd w1 R p := by
  obtain ⟨A, n, c, bs, e, hy⟩ := h
  exact ⟨A, n, c, bs, (hb.block R hR).trans e, hy.keep (fun q hq => World.cell?_of_block (hb.block _ (by omega)))⟩
theorem own_rd {w w1 : World} {base size n R : Nat} {e : TypeId} {v : Value} {xs : List Value} (h : w.ownsRow base e size v n xs) (hg : w.grownBy w1 (some R)) (hR : R < base) : w1.ownsRow base e size v n xs :=
  h.kept hg (.inr (fun e => by have := (h.lt R e).1; omega))
theorem ivs_cell {L : List Int} {j : Nat} (hj : j < L.length) : (ivs L)[j]? = some (.int .i64 (L[j]?.getD 0)) := by simp [ivs, hj]

def DrawnL (w : World) (R p : Nat) (v : Value) (w' : World) : Prop := ∃ L : List Int, L.length ≤ 7 ∧ w'.ownsRow w.heap.size 3 1 v L.length (ivs L) ∧ w.grownBy w' (some R) ∧ Rd w' R p

theorem drawn_app {w wr w1 : World} {R p : Nat} {v v' : Value} {L : List Int} {k : Nat} {z : Int} (hR : R < w.heap.size) (hL : L.length = k) (hown : wr.ownsRow w.heap.size 3 1 v k (ivs L)) (hg : w.grownBy wr (some R)) (hRd : Rd wr R p)
    (hown' : w1.ownsRow w.heap.size 3 1 v' (k + 1) (ivs L ++ [.int .i64 z])) (hgrow : (wr.alloc (.cells #[.int .i64 z] 3)).grownBy w1 v.ownBlock) :
    w1.ownsRow w.heap.size 3 1 v' (k + 1) (ivs (L ++ [z])) ∧ (L ++ [z]).length = k + 1 ∧ w.grownBy w1 (some R) ∧ Rd w1 R p := by
  have hf : ∀ g, v.ownBlock = some g → w.heap.size ≤ g := fun g e => (hown.lt g e).1
  refine ⟨by rw [← ivs_snoc]; exact hown', by simp [hL], gb_far (gb_alloc hg _) hgrow hf, ?_⟩
  exact (hRd.grown (row := none) (World.grownBy_alloc _ _ _) (fun _ e => by cases e)).grown hgrow (fun g e => by have := hf g e; omega)

set_option maxHeartbeats 1000000 in
theorem l91Chart_any (R p n : Nat) (w : World) (h : Rd w R p) (hp : p ≤ 90000) (hn : 1 ≤ n) (hn6 : n ≤ 6) :
    Calls Try.prog 32 #[.pointer (some ⟨R, 0, none⟩), .int .i64 n] w fun e w' => ∃ v, e = .returned v ∧ DrawnL w R (p + n + 1) v w' := by
  obtain ⟨i0, hi, hz0, hz1, hz2⟩ := info_parts info_int
  have hRl := h.lt
  go_enter Try.func32, Try.ntmps32
  go_wp2
  go_loopw [5, 6] (fun v i wr => ∃ k : Nat, k ≤ n ∧ i = .int .i64 k ∧ ∃ L : List Int, L.length = k ∧ wr.ownsRow w.heap.size 3 1 v k (ivs L) ∧ w.grownBy wr (some R) ∧ Rd wr R (p + k)) (fun _ i _ => n - (intOf i).toNat)
  case atStart => exact ⟨0, Nat.zero_le _, rfl, [], rfl, own_lit0 w, gb_alloc (gb_refl w _) _, h.grown (row := none) (World.grownBy_alloc _ _ _) (fun _ e => by cases e)⟩
  case round =>
    obtain ⟨k, hk, rfl, L, hL, hown, hg, hRd⟩ := hrel
    by_cases hlt : k < n
    · go_wp2_with fail
      refine (pick_any R (p + k) (n + 1) _ hRd (by omega) (by omega) (by omega)).mono ?_
      rintro e w1 ⟨v0, rfl, hv0, hRd1, hg1⟩
      replace hown := own_rd hown hg1 hRl
      replace hg := gb_trans hg hg1
      clear hg1 hRd
      go_wp2
      go_loopw [7, 8] (fun x y wq => w1 = wq ∧ (∃ z : Int, x = .int .i64 z) ∧ ∃ j : Nat, j ≤ k ∧ y = .int .i64 j) (fun _ y _ => k - (intOf y).toNat)
      case atStart => exact ⟨rfl, ⟨_, rfl⟩, 0, Nat.zero_le _, rfl⟩
      case round =>
        obtain ⟨rfl, ⟨z, rfl⟩, j, hj, rfl⟩ := hrel
        by_cases hlj : j < k
        · obtain ⟨g, cp, rfl, hgb, hgl⟩ := hown.form (by omega)
          have hc := hown.cellAt j (by omega)
          rw [ivs_cell (by omega)] at hc
          generalize L[j]?.getD 0 = y at hc
          have HO := Lib.hid hown
          have HG := Lib.hid hg
          have HR := Lib.hid hRd1
          clear hown hg hRd1
          by_cases hyz : y = z
          · subst hyz
            go_wp2
            go_roundw
            case rel => exact ⟨trivial, ⟨_, rfl⟩, j + 1, by omega, by go_num⟩
            case measure => simp [intOf]; omega
          · go_wp2
            go_roundw
            case rel => exact ⟨trivial, ⟨_, rfl⟩, j + 1, by omega, by go_num⟩
            case measure => simp [intOf]; omega
        · obtain rfl : j = k := by omega
          have h1 : j + 1 ≤ maxLen := by unfold maxLen; omega
          have h2 : (j + 1) * 8 ≤ 140737488355328 := by omega
          have h3 : ∀ o : Obj, w.heap.size ≤ (w1.alloc o).heap.size := fun o => by have := hg.size; simp; omega
          go_wp2_with (at_builtin; refine wpList_append_own _ rfl _ _ 22 rfl w.heap.size 3 i0 (.int .i64 0) 1 8 Try.underlying22 hi hz0 hz1 hz2 rfl (by decide) _ _ _ rfl (hown.alloc _) ⟨w1.heap.size, 0, none⟩ 1 1 [.int .i64 z] rfl rfl (cell_one_new _ _ _) (by simp [Value.oneCell']) h1 h2 (h3 _) ?_; intro v' w2 hown' hgrow _)
          have hD := drawn_app hRl hL hown hg hRd1 hown' hgrow
          exact ⟨⟨j + 1, by omega, by go_num, _, hD.2.1, hD.1, hD.2.2.1, hD.2.2.2⟩, by simp [intOf]; omega⟩
    · obtain rfl : k = n := by omega
      go_wp2_with fail
      refine (pick_any R (p + k) 40 _ hRd (by omega) (by omega) (by omega)).mono ?_
      rintro e w1 ⟨v0, rfl, hv0, hRd1, hg1⟩
      replace hown := own_rd hown hg1 hRl
      replace hg := gb_trans hg hg1
      clear hg1 hRd
      rcases v0 with _ | _ | v0
      · have h1 : k + 1 ≤ maxLen := by unfold maxLen; omega
        have h2 : (k + 1) * 8 ≤ 140737488355328 := by omega
        have h3 : ∀ o : Obj, w.heap.size ≤ (w1.alloc o).heap.size := fun o => by have := hg.size; simp; omega
        go_wp2_with (at_builtin; refine wpList_append_own _ rfl _ _ 22 rfl w.heap.size 3 i0 (.int .i64 0) 1 8 Try.underlying22 hi hz0 hz1 hz2 rfl (by decide) _ _ _ rfl (hown.alloc _) ⟨w1.heap.size, 0, none⟩ 1 1 [.int .i64 ((k : Int) + 1)] rfl rfl (cell_one_new _ _ _) (by simp [Value.oneCell']) h1 h2 (h3 _) ?_; intro v' w2 hown' hgrow _)
        go_ret
        have hD := drawn_app hRl hL hown hg hRd1 hown' hgrow
        exact ⟨_, rfl, L ++ [(k : Int) + 1], by rw [hD.2.1]; omega, by rw [hD.2.1]; exact hD.1, hD.2.2.1, hD.2.2.2⟩
      · obtain ⟨g, cp, rfl, hgb, hgl⟩ := hown.form (by omega)
        have hc := hown.cellAt 0 (by omega)
        rw [ivs_cell (by omega)] at hc
        have hf := hown.frozenAt 0
        have hst := (hown.stored 0 (.int .i64 (k : Int))).1
        have HL : Hid ((w1.setCell ⟨g, 0, none⟩ (.int .i64 (k : Int))).ownsRow w.heap.size 3 1 (.slice (some ⟨g, 0, none⟩) k cp) (L.set 0 (k : Int)).length (ivs (L.set 0 (k : Int)))) := by
          rw [List.length_set, hL, show ivs (L.set 0 (k : Int)) = (ivs L).set 0 (.int .i64 (k : Int)) by simp [ivs, List.map_set]]
          exact hst
        have hgs : w1.grownBy (w1.setCell ⟨g, 0, none⟩ (.int .i64 (k : Int))) (some g) := ⟨rfl, rfl, rfl, by simp [World.setCell], fun q _ hne => Below.heap_setCell w1 _ _ q (fun e => hne (by rw [e]))⟩
        have HG := Lib.hid (gb_far hg hgs (fun q e => by injection e with e; omega))
        have HR := Lib.hid (hRd1.grown hgs (fun q e => by injection e with e; omega))
        clear hst hgs hown hg hRd1
        go_wp2
        go_ret
        exact ⟨_, rfl, _, by rw [List.length_set]; omega, HL.out, HG.out, HR.out⟩
      · have HO := Lib.hid hown
        have HG := Lib.hid hg
        have HR := Lib.hid hRd1
        clear hown hg hRd1
        go_wp2
        go_ret
        exact ⟨_, rfl, L, by omega, by rw [hL]; exact HO.out, HG.out, HR.out⟩
end Go.Proofs.Ytoomeimloaloaaa
