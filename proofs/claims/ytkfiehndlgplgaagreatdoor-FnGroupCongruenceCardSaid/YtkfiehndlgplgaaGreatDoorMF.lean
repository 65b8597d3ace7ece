/-
  Post Pick Open Two Draw Same DrawB LawB LawC.
-/
import Derived.Below
import Derived.ChangeSame
import Derived.ProofKit
import Derived.Deep.QuietTactic
import Derived.BigQuiet
import Derived.Outline
import Derived.Deep.Onto
import Derived.StillTailTactics
import Derived.Test.YtkfiehndlgplgaaGreatDoorMB
import Derived.Test.YtkfiehndlgplgaaGreatDoorME
namespace Go.Proofs.YtkfiehndlgplgaaGreatDoor
set_option maxRecDepth 100000
set_option linter.unusedVariables false
set_option linter.unusedSimpArgs false
set_option linter.unusedSectionVars false

/-! The row's last step where of the world behind the call it is known that all that lay below lies as it lay. -/
section
open Go.RowKit Go.WideShapes Go.ChangeShapes
section
variable {H : Type} {enc : TypeId × Value → H} {P : Program}
theorem post_of_below {f : Func} {s : ChangeSpec} {apart fresh handsOn again : Bool} {W W' : World} {args : Array Value} {v : Value} {ds gs : List (DataW H)} {before pa pv : List MemPlace}
    (hW : DataW.Whole enc P f.params.toList s.vars apart W args.toList ds gs before)
    (hres : ∀ (b : Nat) (sp : Nat → Bool) (hd : Bool), DataW.TrodAll enc P W' b sp hd f.resultTypes.toList (v.resultList f.resultTypes.size) (s.fn H (ds ++ gs)).results [])
    (hargs : ∀ sp : Nat → Bool, (∀ p ∈ before, sp p.block = true) → DataW.TrodAll enc P W' 0 sp true f.params.toList args.toList (s.fn H (ds ++ gs)).args pa)
    (hvars : ∀ sp : Nat → Bool, (∀ p ∈ before, sp p.block = true) → DataW.TrodVars enc P W' sp s.vars (s.fn H (ds ++ gs)).vars pv)
    (hps : before = pa ++ pv) (hb : Below W.heap.size W W')
    (hok : ∀ (j : Nat) (t : TypeId) (r : Value), f.resultTypes[j]? = some t → (v.resultList f.resultTypes.size)[j]? = some r → Value.okWide P W' .any 0 t r) :
    s.post enc P f apart fresh handsOn again W args v W' := by
  have hlt : ∀ p ∈ before, p.block < W.heap.size := fun p hp => hW.lt p hp
  have hold : ∀ p ∈ before, (fun b => decide (b < W.heap.size)) p.block = true := fun p hp => by simpa using hlt p hp
  refine ⟨ds, gs, before, [], pa, pv, hW, hres _ _ _, hargs _ hold, hvars _ hold, World.keptBut_mono (fun p hp => ⟨hp, ?_⟩) (hb.frame (· ∈ before)), fun _ => ?_⟩
  · rw [hps, List.mem_append] at hp
    exact Or.inr hp
  · obtain ⟨_, _, _, _, _, hz, hn⟩ := hW
    refine ⟨hok, _, _, ([] ++ pa) ++ pv, ⟨[] ++ pa, pv, trodAll_append (hargs _ (fun _ _ => rfl)) (hres _ _ _), hvars _ (fun _ _ => rfl), rfl, ?_, ?_⟩, ?_⟩
    · intro b off hp
      have hin : MemPlace.cell b off ∈ before := by rw [hps]; simpa using hp
      rw [hb.frozen (hlt _ hin)]
      exact hz b off hin
    · intro ha
      have := hn ha
      rw [hps] at this
      simpa using this
    · intro p hp _
      rw [hps]
      simpa using hp
end
end

/-! spec's reader of drawn bytes: l6Open, pick. What is drawn is not said: only that it is in its bounds, and what it leaves. -/
section
open Go.RowKit

/-- the bytes of a slice, below block B -/
def Bys (w : World) (B : Nat) (A : Option Addr) (n : Nat) (bs : Nat → Nat) : Prop := n ≤ 2000 ∧ (∀ j, bs j < 256) ∧ ∀ j, j < n → ∃ ad : Addr, A = some ad ∧ ad.block < B ∧ w.cell? (ad.add j) = some (.int .u8 (bs j : Nat))
theorem Bys.keep {w w' : World} {B : Nat} {A : Option Addr} {n : Nat} {bs : Nat → Nat} (h : Bys w B A n bs) (hk : ∀ p : Addr, p.block < B → w'.cell? p = w.cell? p) : Bys w' B A n bs :=
  ⟨h.1, h.2.1, fun j hj => by
    obtain ⟨ad, e, hb, hc⟩ := h.2.2 j hj
    exact ⟨ad, e, hb, (hk _ (by rw [block_of_add]; exact hb)).trans hc⟩⟩

/-- the reader: block R, its bytes below block R, its place -/
def Rd (w : World) (R : Nat) (p : Nat) : Prop := ∃ (A : Option Addr) (n c : Nat) (bs : Nat → Nat), w.heap[R]? = some (.cells #[.slice A n c, .int .i64 (p : Int)] 131 (0, 0)) ∧ Bys w R A n bs

def PickPost (w : World) (R p : Nat) (m : Nat) (e : Ending) (w' : World) : Prop := ∃ v : Nat, e = .returned (.int .i64 v) ∧ v < m ∧ Rd w' R (p + 1) ∧ w.grownBy w' (some R)

theorem rd_next {w : World} {R p : Nat} {A : Option Addr} {n c : Nat} {bs : Nat → Nat} (hR : w.heap[R]? = some (.cells #[.slice A n c, .int .i64 (p : Int)] 131 (0, 0))) (hB : Bys w R A n bs) :
    Rd (w.setCell ⟨R, 1, none⟩ (.int .i64 ((p : Int) + 1))) R (p + 1) ∧ w.grownBy (w.setCell ⟨R, 1, none⟩ (.int .i64 ((p : Int) + 1))) (some R) := by
  refine ⟨⟨A, n, c, bs, ?_, hB.keep (fun q hq => World.cell?_setCell_other w _ q _ (fun e => by subst e; simp at hq))⟩, ⟨rfl, rfl, rfl, by simp [World.setCell], fun k _ hne => Below.heap_setCell w _ _ k (fun e => hne (by rw [e]))⟩⟩
  have := heap_setCell_same w R 1 _ 131 (.int .i64 ((p : Int) + 1)) hR
  simpa using this

set_option maxHeartbeats 1000000 in
theorem pick_any (R p : Nat) (m : Nat) (w : World) (h : Rd w R p) (hp : p ≤ 100000) (hm : 1 ≤ m) (hm2 : m ≤ 1000) :
    Calls Tryz.prog 109 #[.pointer (some ⟨R, 0, none⟩), .int .i64 m] w (PickPost w R p m) := by
  obtain ⟨A, n, c, bs, hR, hB⟩ := h
  have HN := Lib.hid (rd_next hR hB)
  have c0 : w.cell? ⟨R, 0, none⟩ = some (.slice A n c) := by simp [World.cell?, hR]
  have c1 : w.cell? ⟨R, 1, none⟩ = some (.int .i64 (p : Int)) := by simp [World.cell?, hR]
  have f1 : w.frozen? ⟨R, 1, none⟩ = false := by simp [World.frozen?, hR]
  have hn := hB.1
  have hd : decide ((m : Int) < 1) = false := by simp; omega
  by_cases hn0 : n = 0
  · subst hn0
    clear hB hR
    go_enter Tryz.func109, Tryz.ntmps109
    go_wp2
    go_ret
    exact ⟨0, rfl, by omega, HN.out.1, HN.out.2⟩
  · have hne : ((n : Int) == 0) = false := by simp; omega
    by_cases hlt : p < n
    · obtain ⟨ad, rfl, hb, hc⟩ := hB.2.2 p hlt
      have hby := hB.2.1 p
      have hcs : (w.setCell ⟨R, 1, none⟩ (.int .i64 ((p : Int) + 1))).cell? (ad.add p) = some (.int .u8 (bs p : Nat)) := (World.cell?_setCell_other w _ _ _ (fun e => by have := congrArg Addr.block e; rw [block_of_add] at this; simp at this; omega)).trans hc
      clear hB hR hc
      generalize bs p = x at hcs hby
      go_enter Tryz.func109, Tryz.ntmps109
      go_wp2
      go_ret
      refine ⟨x % m, ?_, ?_, HN.out.1, HN.out.2⟩
      · rw [Int.natCast_emod]; rfl
      · have := Nat.mod_lt x (show 0 < m by omega); omega
    · have hdl : decide ((p : Int) < (n : Int)) = false := by simp; omega
      go_enter Tryz.func109, Tryz.ntmps109
      go_wp2
      have hn1 : 0 < n := by omega
      have hk1 := Nat.mod_lt p hn1
      have hk2 := Nat.mod_lt (p * 7 + 3) hn1
      obtain ⟨ad, rfl, hb, hc⟩ := hB.2.2 (p % n) hk1
      obtain ⟨ad', ea, hb', hc'⟩ := hB.2.2 ((p * 7 + 3) % n) hk2
      injection ea with ea
      subst ea
      have hby := hB.2.1 (p % n)
      have hby' := hB.2.1 ((p * 7 + 3) % n)
      have hcs : ∀ j, (w.setCell ⟨R, 1, none⟩ (.int .i64 ((p : Int) + 1))).cell? (ad.add j) = w.cell? (ad.add j) := fun j => World.cell?_setCell_other w _ _ _ (fun e => by have := congrArg Addr.block e; rw [block_of_add] at this; simp at this; omega)
      have g1 := (hcs (p % n)).trans hc
      have g2 := (hcs ((p * 7 + 3) % n)).trans hc'
      have cR : (w.setCell ⟨R, 1, none⟩ (.int .i64 ((p : Int) + 1))).cell? ⟨R, 0, none⟩ = some (.slice (some ad) n c) := (World.cell?_setCell_other w _ _ _ (fun e => by cases e)).trans c0
      have q1 : (p : Int).tmod (n : Int) = ((p % n : Nat) : Int) := by rw [Int.tmod_eq_emod_of_nonneg (by omega), Int.natCast_emod]
      have q4 : ((p : Int) * 7 + 3).tmod (n : Int) = (((p * 7 + 3) % n : Nat) : Int) := by rw [Int.tmod_eq_emod_of_nonneg (by omega)]; push_cast; rfl
      have q5 : (p : Int).tdiv (n : Int) = ((p / n : Nat) : Int) := by rw [Int.tdiv_eq_ediv_of_nonneg (by omega)]; push_cast; rfl
      have hq : p / n ≤ 100000 := Nat.le_trans (Nat.div_le_self _ _) hp
      clear hcs hB hR hc hc'
      generalize bs (p % n) = x at g1 hby
      generalize bs ((p * 7 + 3) % n) = y at g2 hby'
      generalize p % n = k1 at *
      generalize (p * 7 + 3) % n = k2 at *
      generalize p / n = dq at *
      generalize w.setCell ⟨R, 1, none⟩ (.int .i64 ((p : Int) + 1)) = W at *
      go_quiet (fail)
      clear hb hb' q1 q4 q5 g1 g2 cR c0 hk1 hk2
      rw [show ((x : Int) * 131 + (y : Int) * 1117 + (p : Int) * 29 + (dq : Int) * 53) = ((x * 131 + y * 1117 + p * 29 + dq * 53 : Nat) : Int) by simp only [Int.natCast_add, Int.natCast_mul]; rfl]
      have hX : x * 131 + y * 1117 + p * 29 + dq * 53 < 20000000 := by omega
      generalize x * 131 + y * 1117 + p * 29 + dq * 53 = X at *
      have r1 : (X : Int).tdiv 64 = ((X / 64 : Nat) : Int) := by rw [Int.tdiv_eq_ediv_of_nonneg (by omega)]; push_cast; rfl
      have r2 : bits .xor .i64 (X : Int) ((X / 64 : Nat) : Int) = ((X ^^^ X / 64 : Nat) : Int) := i64_xor_nat X (X / 64) (by omega) (by omega)
      have hY : X ^^^ X / 64 < 2 ^ 25 := Nat.xor_lt_two_pow (by omega) (by omega)
      have hZ : X / 64 ≤ X := Nat.div_le_self _ _
      generalize X / 64 = Z at *
      generalize X ^^^ Z = Y at *
      have hY : Y < 33554432 := hY
      have r3 : (Y : Int).tmod (m : Int) = ((Y % m : Nat) : Int) := by rw [Int.tmod_eq_emod_of_nonneg (by omega), Int.natCast_emod]
      have hV := Nat.mod_lt Y (show 0 < m by omega)
      generalize Y % m = V at *
      have HM : Rd (W.drewN nq) R (p + 1) ∧ w.grownBy (W.drewN nq) (some R) := by
        obtain ⟨⟨A, n, c, bs, e1, e2⟩, g⟩ := HN.out
        exact ⟨⟨A, n, c, bs, e1, e2.keep (fun _ _ => rfl)⟩, ⟨g.1, g.2, g.3, g.4, g.5⟩⟩
      have HM := Lib.hid HM
      clear HN
      generalize W.drewN nq = W' at *
      go_wp2
      go_ret
      exact ⟨V, rfl, hV, HM.out.1, HM.out.2⟩
end

/-! spec's reader of drawn bytes, opened: l6Open. -/
section
open Go.RowKit

/-- the bytes of a slice that came in, below block B -/
def Src (w : World) (B : Nat) (A : Option Addr) (n : Nat) (bs : Nat → Nat) : Prop := (∀ j, bs j < 256) ∧ ∀ j, j < n → ∃ ad : Addr, A = some ad ∧ ad.block < B ∧ w.cell? (ad.add j) = some (.int .u8 (bs j : Nat))
theorem Src.keep {w w' : World} {B : Nat} {A : Option Addr} {n : Nat} {bs : Nat → Nat} (h : Src w B A n bs) (hk : ∀ p : Addr, p.block < B → w'.cell? p = w.cell? p) : Src w' B A n bs :=
  ⟨h.1, fun j hj => by
    obtain ⟨ad, e, hb, hc⟩ := h.2 j hj
    exact ⟨ad, e, hb, (hk _ (by rw [block_of_add]; exact hb)).trans hc⟩⟩
theorem Src.bys {w : World} {B : Nat} {A : Option Addr} {n m : Nat} {bs : Nat → Nat} (h : Src w B A n bs) (hm : m ≤ n) (h2 : m ≤ 2000) : Bys w B A m bs := ⟨h2, h.1, fun j hj => h.2 j (by omega)⟩

def OpenPost (w : World) (e : Ending) (w' : World) : Prop := ∃ R : Nat, e = .returned (.pointer (some ⟨R, 0, none⟩)) ∧ w.heap.size ≤ R ∧ R < w'.heap.size ∧ Rd w' R 0 ∧ Below w.heap.size w w'

theorem rd_new {w : World} {A : Option Addr} {n c : Nat} {bs : Nat → Nat} (h : Bys w w.heap.size A n bs) : Rd (w.alloc (.cells #[.slice A n c, .int .i64 0] 131)) w.heap.size 0 :=
  ⟨A, n, c, bs, heap_alloc_new w _, h.keep fun p hp => World.cell?_alloc_lt w _ p hp⟩

set_option maxHeartbeats 1000000 in
theorem open_any (A : Option Addr) (n c : Nat) (bs : Nat → Nat) (w : World) (h : Src w w.heap.size A n bs) (hnc : n ≤ c) (hn : n ≤ 1048576) :
    Calls Tryz.prog 84 #[.slice A n c] w (OpenPost w) := by
  by_cases hbig : 2000 < n
  · have hB := h.bys (m := 2000) (by omega) (by omega)
    have HR := Lib.hid (rd_new (c := c) hB)
    clear h hB
    go_enter Tryz.func84, Tryz.ntmps84
    go_wp2
    go_ret
    exact ⟨_, rfl, Nat.le_refl _, by simp, HR.out, (Below.refl _ _).alloc (Nat.le_refl _) _⟩
  · have hB := h.bys (m := n) (by omega) (by omega)
    have HR := Lib.hid (rd_new (c := c) hB)
    clear h hB
    go_enter Tryz.func84, Tryz.ntmps84
    go_wp2
    go_ret
    exact ⟨_, rfl, Nat.le_refl _, by simp, HR.out, (Below.refl _ _).alloc (Nat.le_refl _) _⟩
theorem gb_trans {w w1 w2 : World} {row : Option Nat} (h : w.grownBy w1 row) (h2 : w1.grownBy w2 row) : w.grownBy w2 row :=
  ⟨h2.os.trans h.os, h2.tape.trans h.tape, h2.output.trans h.output, Nat.le_trans h.size h2.size, fun k hk hne => (h2.block k (Nat.lt_of_lt_of_le hk h.size) hne).trans (h.block k hk hne)⟩
theorem gb_refl (w : World) (row : Option Nat) : w.grownBy w row := ⟨rfl, rfl, rfl, Nat.le_refl _, fun _ _ _ => rfl⟩
theorem gb_drewN {w w1 : World} {row : Option Nat} (h : w.grownBy w1 row) (n : Nat) : w.grownBy (w1.drewN n) row := ⟨h.os, h.tape, h.output, h.size, h.block⟩
/-- what grows blocks behind 'w' alone -/
theorem gb_far {w wr w1 : World} {row row' : Option Nat} (h : w.grownBy wr row) (h2 : wr.grownBy w1 row') (hf : ∀ g, row' = some g → w.heap.size ≤ g) : w.grownBy w1 row :=
  ⟨h2.os.trans h.os, h2.tape.trans h.tape, h2.output.trans h.output, Nat.le_trans h.size h2.size, fun k hk hne =>
    (h2.block k (Nat.lt_of_lt_of_le hk h.size) (fun e => by have := hf k e.symm; omega)).trans (h.block k hk hne)⟩
theorem gb_below {w wr w1 : World} {row : Option Nat} (h : w.grownBy wr row) (h2 : Below wr.heap.size wr w1) : w.grownBy w1 row :=
  gb_far (row' := none) h ⟨h2.os, h2.tape, h2.output, h2.size, fun k hk _ => h2.block k hk⟩ (fun _ e => by cases e)
theorem gb_alloc {w wr : World} {row : Option Nat} (h : w.grownBy wr row) (o : Obj) : w.grownBy (wr.alloc o) row :=
  gb_far (row' := none) h (World.grownBy_alloc _ _ _) (fun _ e => by cases e)
theorem Rd.lt {w : World} {R p : Nat} (h : Rd w R p) : R < w.heap.size := by
  obtain ⟨A, n, c, bs, e, _⟩ := h
  rcases Nat.lt_or_ge R w.heap.size with hlt | hge
  · exact hlt
  · rw [Array.getElem?_eq_none hge] at e; cases e
theorem Rd.grown {w w1 : World} {R p : Nat} {row : Option Nat} (h : Rd w R p) (hg : w.grownBy w1 row) (hf : ∀ g, row = some g → R < g) : Rd w1 R p := by
  have hl := h.lt
  obtain ⟨A, n, c, bs, e, hb⟩ := h
  have hk : ∀ k, k ≤ R → w1.heap[k]? = w.heap[k]? := fun k hk => hg.block k (by omega) (fun e => by have := hf k e.symm; omega)
  exact ⟨A, n, c, bs, (hk R (Nat.le_refl _)).trans e, hb.keep (fun q hq => World.cell?_of_block (hk _ (by omega)))⟩
theorem Rd.below {w w1 : World} {R p B : Nat} (h : Rd w R p) (hb : Below B w w1) (hR : R < B) : Rd w1 R p := by
  obtain ⟨A, n, c, bs, e, hy⟩ := h
  exact ⟨A, n, c, bs, (hb.block R hR).trans e, hy.keep (fun q hq => World.cell?_of_block (hb.block _ (by omega)))⟩
theorem own_rd {w w1 : World} {base size n R : Nat} {e : TypeId} {v : Value} {xs : List Value} (h : w.ownsRow base e size v n xs) (hg : w.grownBy w1 (some R)) (hR : R < base) : w1.ownsRow base e size v n xs :=
  h.kept hg (.inr (fun e => by have := (h.lt R e).1; omega))
theorem ivs_cell {L : List Int} {j : Nat} (hj : j < L.length) : (ivs L)[j]? = some (.int .i64 (L[j]?.getD 0)) := by simp [ivs, hj]

def DrawnL (w : World) (R p : Nat) (v : Value) (w' : World) : Prop := ∃ L : List Int, L.length ≤ 7 ∧ w'.ownsRow w.heap.size 3 1 v L.length (ivs L) ∧ w.grownBy w' (some R) ∧ Rd w' R p

theorem drawn_app {w wr w1 : World} {R p : Nat} {v v' : Value} {L : List Int} {k : Nat} {z : Int} (hR : R < w.heap.size) (hL : L.length = k) (hown : wr.ownsRow w.heap.size 3 1 v k (ivs L)) (hg : w.grownBy wr (some R)) (hRd : Rd wr R p)
    (hown' : w1.ownsRow w.heap.size 3 1 v' (k + 1) (ivs L ++ [.int .i64 z])) (hgrow : (wr.alloc (.cells #[.int .i64 z] 3)).grownBy w1 v.ownBlock) :
    w1.ownsRow w.heap.size 3 1 v' (k + 1) (ivs (L ++ [z])) ∧ (L ++ [z]).length = k + 1 ∧ w.grownBy w1 (some R) ∧ Rd w1 R p := by
  have hf : ∀ g, v.ownBlock = some g → w.heap.size ≤ g := fun g e => (hown.lt g e).1
  refine ⟨by rw [← ivs_snoc]; exact hown', by simp [hL], gb_far (gb_alloc hg _) hgrow hf, ?_⟩
  exact (hRd.grown (row := none) (World.grownBy_alloc _ _ _) (fun _ e => by cases e)).grown hgrow (fun g e => by have := hf g e; omega)

set_option maxHeartbeats 1000000 in
theorem l91Chart_any (R p n : Nat) (w : World) (h : Rd w R p) (hp : p ≤ 90000) (hn : 1 ≤ n) (hn6 : n ≤ 6) :
    Calls Tryz.prog 132 #[.pointer (some ⟨R, 0, none⟩), .int .i64 n] w fun e w' => ∃ v, e = .returned v ∧ DrawnL w R (p + n + 1) v w' := by
  obtain ⟨i0, hi, hz0, hz1, hz2⟩ := info_parts info_int
  have hRl := h.lt
  go_enter Tryz.func132, Tryz.ntmps132
  go_wp2
  go_loopw [5, 6] (fun v i wr => ∃ k : Nat, k ≤ n ∧ i = .int .i64 k ∧ ∃ L : List Int, L.length = k ∧ wr.ownsRow w.heap.size 3 1 v k (ivs L) ∧ w.grownBy wr (some R) ∧ Rd wr R (p + k)) (fun _ i _ => n - (intOf i).toNat)
  case atStart => exact ⟨0, Nat.zero_le _, rfl, [], rfl, own_lit0 w, gb_alloc (gb_refl w _) _, h.grown (row := none) (World.grownBy_alloc _ _ _) (fun _ e => by cases e)⟩
  case round =>
    obtain ⟨k, hk, rfl, L, hL, hown, hg, hRd⟩ := hrel
    by_cases hlt : k < n
    · go_wp2_with fail
      refine (pick_any R (p + k) (n + 1) _ hRd (by omega) (by omega) (by omega)).mono ?_
      rintro e w1 ⟨v0, rfl, hv0, hRd1, hg1⟩
      replace hown := own_rd hown hg1 hRl
      replace hg := gb_trans hg hg1
      clear hg1 hRd
      go_wp2
      go_loopw [7, 8] (fun x y wq => w1 = wq ∧ (∃ z : Int, x = .int .i64 z) ∧ ∃ j : Nat, j ≤ k ∧ y = .int .i64 j) (fun _ y _ => k - (intOf y).toNat)
      case atStart => exact ⟨rfl, ⟨_, rfl⟩, 0, Nat.zero_le _, rfl⟩
      case round =>
        obtain ⟨rfl, ⟨z, rfl⟩, j, hj, rfl⟩ := hrel
        by_cases hlj : j < k
        · obtain ⟨g, cp, rfl, hgb, hgl⟩ := hown.form (by omega)
          have hc := hown.cellAt j (by omega)
          rw [ivs_cell (by omega)] at hc
          generalize L[j]?.getD 0 = y at hc
          have HO := Lib.hid hown
          have HG := Lib.hid hg
          have HR := Lib.hid hRd1
          clear hown hg hRd1
          by_cases hyz : y = z
          · subst hyz
            go_wp2
            go_roundw
            case rel => exact ⟨trivial, ⟨_, rfl⟩, j + 1, by omega, by go_num⟩
            case measure => simp [intOf]; omega
          · go_wp2
            go_roundw
            case rel => exact ⟨trivial, ⟨_, rfl⟩, j + 1, by omega, by go_num⟩
            case measure => simp [intOf]; omega
        · obtain rfl : j = k := by omega
          have h1 : j + 1 ≤ maxLen := by unfold maxLen; omega
          have h2 : (j + 1) * 8 ≤ 140737488355328 := by omega
          have h3 : ∀ o : Obj, w.heap.size ≤ (w1.alloc o).heap.size := fun o => by have := hg.size; simp; omega
          go_wp2_with (at_builtin; refine wpList_append_own _ rfl _ _ 24 rfl w.heap.size 3 i0 (.int .i64 0) 1 8 Tryz.underlying24 hi hz0 hz1 hz2 rfl (by decide) _ _ _ rfl (hown.alloc _) ⟨w1.heap.size, 0, none⟩ 1 1 [.int .i64 z] rfl rfl (cell_one_new _ _ _) (by simp [Value.oneCell']) h1 h2 (h3 _) ?_; intro v' w2 hown' hgrow _)
          have hD := drawn_app hRl hL hown hg hRd1 hown' hgrow
          exact ⟨⟨j + 1, by omega, by go_num, _, hD.2.1, hD.1, hD.2.2.1, hD.2.2.2⟩, by simp [intOf]; omega⟩
    · obtain rfl : k = n := by omega
      go_wp2_with fail
      refine (pick_any R (p + k) 40 _ hRd (by omega) (by omega) (by omega)).mono ?_
      rintro e w1 ⟨v0, rfl, hv0, hRd1, hg1⟩
      replace hown := own_rd hown hg1 hRl
      replace hg := gb_trans hg hg1
      clear hg1 hRd
      rcases v0 with _ | _ | v0
      · have h1 : k + 1 ≤ maxLen := by unfold maxLen; omega
        have h2 : (k + 1) * 8 ≤ 140737488355328 := by omega
        have h3 : ∀ o : Obj, w.heap.size ≤ (w1.alloc o).heap.size := fun o => by have := hg.size; simp; omega
        go_wp2_with (at_builtin; refine wpList_append_own _ rfl _ _ 24 rfl w.heap.size 3 i0 (.int .i64 0) 1 8 Tryz.underlying24 hi hz0 hz1 hz2 rfl (by decide) _ _ _ rfl (hown.alloc _) ⟨w1.heap.size, 0, none⟩ 1 1 [.int .i64 ((k : Int) + 1)] rfl rfl (cell_one_new _ _ _) (by simp [Value.oneCell']) h1 h2 (h3 _) ?_; intro v' w2 hown' hgrow _)
        go_ret
        have hD := drawn_app hRl hL hown hg hRd1 hown' hgrow
        exact ⟨_, rfl, L ++ [(k : Int) + 1], by rw [hD.2.1]; omega, by rw [hD.2.1]; exact hD.1, hD.2.2.1, hD.2.2.2⟩
      · obtain ⟨g, cp, rfl, hgb, hgl⟩ := hown.form (by omega)
        have hc := hown.cellAt 0 (by omega)
        rw [ivs_cell (by omega)] at hc
        have hf := hown.frozenAt 0
        have hst := (hown.stored 0 (.int .i64 (k : Int))).1
        have HL : Hid ((w1.setCell ⟨g, 0, none⟩ (.int .i64 (k : Int))).ownsRow w.heap.size 3 1 (.slice (some ⟨g, 0, none⟩) k cp) (L.set 0 (k : Int)).length (ivs (L.set 0 (k : Int)))) := by
          rw [List.length_set, hL, show ivs (L.set 0 (k : Int)) = (ivs L).set 0 (.int .i64 (k : Int)) by simp [ivs, List.map_set]]
          exact hst
        have hgs : w1.grownBy (w1.setCell ⟨g, 0, none⟩ (.int .i64 (k : Int))) (some g) := ⟨rfl, rfl, rfl, by simp [World.setCell], fun q _ hne => Below.heap_setCell w1 _ _ q (fun e => hne (by rw [e]))⟩
        have HG := Lib.hid (gb_far hg hgs (fun q e => by injection e with e; omega))
        have HR := Lib.hid (hRd1.grown hgs (fun q e => by injection e with e; omega))
        clear hst hgs hown hg hRd1
        go_wp2
        go_ret
        exact ⟨_, rfl, _, by rw [List.length_set]; omega, HL.out, HG.out, HR.out⟩
      · have HO := Lib.hid hown
        have HG := Lib.hid hg
        have HR := Lib.hid hRd1
        clear hown hg hRd1
        go_wp2
        go_ret
        exact ⟨_, rfl, L, by omega, by rw [hL]; exact HO.out, HG.out, HR.out⟩
end

/-! spec's drawn charts: l91One, l91Two. -/
section
open Go.RowKit
theorem below_gb {B R : Nat} {w w1 w2 : World} (h : Below B w w1) (hB : B ≤ w.heap.size) (hg : w1.grownBy w2 (some R)) (hR : B ≤ R) : Below B w w2 :=
  h.grown hg (Nat.le_trans hB h.size) (fun k e => by injection e with e; omega)

/-- two drawn lists, apart -/
def TwoL (w : World) (v u : Value) (w' : World) : Prop := ∃ L M : List Int, L.length ≤ 1048576 ∧ M.length ≤ 1048576 ∧ w'.ownsRow w.heap.size 3 1 v L.length (ivs L) ∧ w'.ownsRow w.heap.size 3 1 u M.length (ivs M) ∧
  (∀ g, v.ownBlock = some g → u.ownBlock = some g → False) ∧ Below w.heap.size w w'

theorem pow_wrap : ∀ v0 : Nat, v0 < 6 → wrap64 ((2 : Int) ^ (1 + v0)) = ((2 ^ (1 + v0) : Nat) : Int) ∧ 1 ≤ 2 ^ (1 + v0) ∧ 2 ^ (1 + v0) ≤ 64
  | 0, _ => by decide +kernel
  | 1, _ => by decide +kernel
  | 2, _ => by decide +kernel
  | 3, _ => by decide +kernel
  | 4, _ => by decide +kernel
  | 5, _ => by decide +kernel
  | n + 6, h => absurd h (by omega)

end

/-! What the laws of chapter 1 draw. -/
section
open Go.RowKit

theorem bitv20 : ∀ (m : Fin 64) (z : Fin 20), bits BinOp.and IntKind.i64 ((m.val : Int) / 2 ^ z.val) 1 = ((m.val.testBit z.val).toNat : Int) := by decide +kernel
theorem pop20 : ∀ m : Fin 64, popK m.val 20 = popK m.val 6 := by decide +kernel

/-- a drawn list -/
def OneL (w : World) (v : Value) (w' : World) : Prop := ∃ L : List Int, L.length ≤ 1048576 ∧ w'.ownsRow w.heap.size 3 1 v L.length (ivs L) ∧ Below w.heap.size w w'















end

/-! The laws' sameRows: whether two lists of lists are the same. -/
section
open Go.RowKit

set_option maxHeartbeats 1000000 in
/-- sameRows: whether two slices read as the same list of lists -/
theorem sameRows_any (A B : Option Addr) (n m c d : Nat) (Ls Ms : List (List Int)) (w : World) (h : RSS w A n Ls) (h' : RSS w B m Ms) (hn : n ≤ 1048576) (hl : ∀ L ∈ Ls, L.length ≤ 1048576) :
    Calls Tryz.prog 22 #[.slice A n c, .slice B m d] w (EqPostSS Ls Ms w) := by
  have HL := Lib.hid h.len
  have HL' := Lib.hid h'.len
  by_cases hnm : n = m
  · subst hnm
    have HN := Lib.hid hl
    clear hl
    go_enter Tryz.func22, Tryz.ntmps22
    go_wp2
    go_loopw [5] (fun i wr => ∃ k : Nat, k ≤ n ∧ i = .int .i64 k ∧ Hid (Ls.take k = Ms.take k) ∧ Below w.heap.size w wr) (fun i _ => n - (intOf i).toNat)
    case atStart => exact ⟨0, Nat.zero_le _, rfl, Lib.hid rfl, Below.refl _ _⟩
    case round =>
      obtain ⟨k, hk, rfl, HT, hbel⟩ := hrel
      by_cases hlt : k < n
      · obtain ⟨ad, Ai, ci, rfl, hab, hc, hri⟩ := (h.below hbel).at_ hlt
        obtain ⟨ad', Ai', ci', rfl, hab', hc', hri'⟩ := (h'.below hbel).at_ hlt
        have hLl := get_len Ls (k := k) HN.out
        have HTa := Lib.hid (take_snoc_list Ls (k := k) (by rw [HL.out]; exact hlt))
        have HTb := Lib.hid (take_snoc_list Ms (k := k) (by rw [HL'.out]; exact hlt))
        have HP : Hid (Ls[k]?.getD [] ≠ Ms[k]?.getD [] → Ls ≠ Ms) := fun he e => he (by rw [e])
        generalize Ls[k]?.getD [] = L at hc hri hLl HTa HP
        generalize Ms[k]?.getD [] = M at hc' hri' HTb HP
        have g1 := hc
        have g2 := hc'
        go_wp2
        go_still_tail 8, (by kernel_rfl)
        change wpList _ _ _ _ _ wr.drew
        replace hri : RI wr.drew Ai L.length L := hri
        replace hri' : RI wr.drew Ai' M.length M := hri'
        replace hbel : Below w.heap.size w wr.drew := hbel.drew
        generalize wr.drew = w1 at hri hri' hbel
        go_wp2_with fail
        refine (sameInts_any Ai Ai' _ _ ci ci' L M w1 hri hri' hLl).mono ?_
        rintro e w2 ⟨rfl, hB2⟩
        have hs1 := hbel.size
        have hbel2 := hbel.trans (hB2.mono hs1)
        by_cases he : L = M
        · have hde : decide (L = M) = true := decide_eq_true he
          have HT2 : Hid (Ls.take (k + 1) = Ms.take (k + 1)) := by show _ = _; rw [HTa.out, HTb.out, HT.out, he]
          clear hri hri' hc hc' he h h'
          go_wp2
          go_roundw
          case rel => exact ⟨k + 1, by omega, by go_num, HT2, hbel2⟩
          case measure => simp [intOf]; omega
        · have hde : decide (L = M) = false := decide_eq_false he
          have HD : Hid (decide (Ls = Ms) = false) := decide_eq_false (HP.out he)
          clear hri hri' hc hc' he h h'
          go_wp2
          go_ret
          exact ⟨by rw [HD.out]; rfl, hbel2⟩
      · obtain rfl : k = n := by omega
        have HD : Hid (decide (Ls = Ms) = true) := decide_eq_true (eq_of_take_list HL.out HL'.out HT.out)
        go_wp2
        go_ret
        exact ⟨by rw [HD.out]; rfl, hbel⟩
  · have hb : ((n : Int) != (m : Int)) = true := by rw [bne_iff_ne]; omega
    have HD : Hid (decide (Ls = Ms) = false) := decide_eq_false (fun e => hnm (by rw [← HL.out, ← HL'.out, e]))
    go_enter Tryz.func22, Tryz.ntmps22
    go_wp2
    go_ret
    exact ⟨by rw [HD.out]; rfl, Below.refl _ _⟩
end

/-! The draws of chapter 2. -/
section
open Go.RowKit

theorem src_below {w w1 : World} {A : Option Addr} {n : Nat} {bs : Nat → Nat} (h : Src w w.heap.size A n bs) (hb : Below w.heap.size w w1) : Src w1 w1.heap.size A n bs :=
  ⟨h.1, fun j hj => by
    obtain ⟨ad, e, hlt, hc⟩ := h.2 j hj
    exact ⟨ad, e, by have := hb.size; omega, (hb.cell (by rw [block_of_add]; exact hlt)).trans hc⟩⟩
/-- the reader set to a place -/
theorem rd_set {w : World} {R p : Nat} (q : Nat) (h : Rd w R p) : Rd (w.setCell ⟨R, 1, none⟩ (.int .i64 (q : Int))) R q ∧ w.grownBy (w.setCell ⟨R, 1, none⟩ (.int .i64 (q : Int))) (some R) ∧ (∃ u, w.cell? ⟨R, 1, none⟩ = some u) ∧ w.frozen? ⟨R, 1, none⟩ = false := by
  obtain ⟨A, n, c, bs, hR, hB⟩ := h
  refine ⟨⟨A, n, c, bs, ?_, hB.keep (fun q hq => World.cell?_setCell_other w _ q _ (fun e => by subst e; simp at hq))⟩, ⟨rfl, rfl, rfl, by simp [World.setCell], fun k _ hne => Below.heap_setCell w _ _ k (fun e => hne (by rw [e]))⟩, ⟨.int .i64 (p : Int), by simp [World.cell?, hR]⟩, by simp [World.frozen?, hR]⟩
  have := heap_setCell_same w R 1 _ 131 (.int .i64 (q : Int)) hR
  simpa using this


/-- numbers go on -/
theorem num_on : ∀ k : Fin 11, (numN (k.val + 2) : Int) = 2 * ((k.val : Int) + 2) * (numN (k.val + 1) : Int) - ((k.val : Int) + 1) * ((k.val : Int) + 1) * (numN k.val : Int) := by decide +kernel
theorem num_lim : ∀ k : Fin 13, numN k.val < 281474976710656 := by decide +kernel
theorem numL_of {k : Nat} (h : k ≤ 12) : numL (k : Int) = numN k ∧ inB (k : Int) 0 12 = true := by
  have : inB (k : Int) 0 12 = true := decide_eq_true (by omega)
  exact ⟨by unfold numL; rw [if_pos this, Int.toNat_natCast], this⟩
theorem num_two : numN 0 = 1 ∧ numN 1 = 2 := by decide +kernel
end

/-! The laws of chapter 2 as lines on lists; no program. -/
section
theorem powL_nat {f : List Int} (h : isC f = true) {k : Nat} (hk : k ≤ 100) : powB f (k : Int) = true ∧ powL f (k : Int) = LT f.length (pwF f.length (ofL f) k) := by
  have h1 : powB f (k : Int) = true := by unfold powB inB; rw [h, Bool.true_and]; exact decide_eq_true (by omega)
  exact ⟨h1, by unfold powL; rw [if_pos h1, if_neg (by omega), Int.toNat_natCast]⟩
theorem pw_isC {f : List Int} (h : isC f = true) (k : Nat) : isC (LT f.length (pwF f.length (ofL f) k)) = true := CH_isC (CH_pw (isC_CH h) k)
theorem pw_rank {f : List Int} (h : isC f = true) (k : Nat) : popK (doN (LT f.length (pwF f.length (ofL f) k))) 6 = rkF f.length (ofL f) k := by
  rw [doN_dom (pw_isC h k), LT_length, rk_ofL (isC_CH h)]
theorem rank_one {f : List Int} (h : isC f = true) : popK (doN f) 6 = rkF f.length (ofL f) 1 := by
  rw [rank_cnt h, rk_cnt]
  refine cnt_congr (fun j hj => ?_)
  have e : itF (ofL f) j 1 = ofL f j := by rw [itF_succ, if_pos (it0 _ j)]; show ofL f ((j : Int)).toNat = _; rw [Int.toNat_natCast]
  rw [e]
  rcases (isC_CH h).en j hj with h1 | h1
  · rw [h1]; rfl
  · rw [decide_eq_true (show ofL f j ≠ -1 by omega), decide_eq_true h1.1]
/-- from the index on, ranks stay -/
theorem index_law {f : List Int} (h : isC f = true) : idxL f ≤ f.length ∧ powB f (idxL f : Int) = true ∧ powB f ((idxL f : Int) + 1) = true ∧ isC (powL f (idxL f : Int)) = true ∧ isC (powL f ((idxL f : Int) + 1)) = true ∧
    popK (doN (powL f (idxL f : Int))) 6 = popK (doN (powL f ((idxL f : Int) + 1))) 6 ∧ (idxL f = 0 ↔ popK (doN f) 6 = f.length) := by
  have hF := isC_CH h
  have h6 := hF.six
  have e : idxL f = idxF f.length (ofL f) := by unfold idxL; rw [if_pos h]
  have hs := idx_spec hF
  have a := powL_nat h (k := idxL f) (by rw [e]; omega)
  have b := powL_nat h (k := idxL f + 1) (by rw [e]; omega)
  have hc : ((idxL f : Int) + 1) = ((idxL f + 1 : Nat) : Int) := by push_cast; rfl
  rw [hc, a.2, b.2]
  refine ⟨by rw [e]; exact hs.2.1, a.1, b.1, pw_isC h _, pw_isC h _, ?_, ?_⟩
  · rw [pw_rank h, pw_rank h, e]; exact hs.1
  · rw [rank_one h, e]; exact idx_zero hF
/-- powers come back -/
theorem period_law {f : List Int} (h : isC f = true) : 1 ≤ perL f ∧ perL f ≤ 60 ∧ idxL f ≤ 6 ∧ powB f (idxL f : Int) = true ∧ powB f ((idxL f : Int) + (perL f : Int)) = true ∧ powB f ((idxL f : Int) + 1) = true ∧
    powL f (idxL f : Int) = powL f ((idxL f : Int) + (perL f : Int)) ∧ (perL f = 1 ↔ powL f (idxL f : Int) = powL f ((idxL f : Int) + 1)) := by
  have hF := isC_CH h
  have h6 := hF.six
  have e : idxL f = idxF f.length (ofL f) := by unfold idxL; rw [if_pos h]
  have e' : perL f = perF f.length (ofL f) := by unfold perL; rw [if_pos h]
  have hs := idx_spec hF
  have hp := per_spec hF
  have a := powL_nat h (k := idxL f) (by rw [e]; omega)
  have b := powL_nat h (k := idxL f + perL f) (by rw [e, e']; omega)
  have c := powL_nat h (k := idxL f + 1) (by rw [e]; omega)
  have hc : ((idxL f : Int) + 1) = ((idxL f + 1 : Nat) : Int) := by push_cast; rfl
  have hb : ((idxL f : Int) + (perL f : Int)) = ((idxL f + perL f : Nat) : Int) := by push_cast; rfl
  rw [hc, hb, a.2, b.2, c.2]
  refine ⟨by rw [e']; exact hp.1, by rw [e']; exact hp.2.1, by rw [e]; omega, a.1, b.1, c.1, (LT_eq_iff.2 (by rw [e, e']; exact hp.2.2.1)).symm, fun h1 => ?_, fun h1 => ?_⟩
  · have := hp.2.2.1
    rw [← e', h1] at this
    rw [e]; exact (LT_eq_iff.2 this).symm
  · rw [e] at h1
    apply Classical.byContradiction
    intro hne
    exact hp.2.2.2 1 (Nat.le_refl _) (by rw [e'] at hne; omega) (LT_eq_iff.1 h1.symm)
theorem it_turn_iff {n : Nat} {F : Nat → Int} (hF : CH n F) {i j : Nat} (hi : i < n) (hj : j < n) (k : Nat) : itF (trn n F) j k = (i : Int) ↔ itF F i k = (j : Int) := by
  constructor
  · intro e
    have := it_turn hF hj k (by omega)
    rw [e, Int.toNat_natCast] at this; exact this
  · intro e
    have := it_turn (CH_trn hF) hi k (by rw [it_congr (CH_trn (CH_trn hF)) (trn_trn hF) hi]; omega)
    rw [it_congr (CH_trn (CH_trn hF)) (trn_trn hF) hi, e, Int.toNat_natCast] at this; exact this
theorem pw_turn {n : Nat} {F : Nat → Int} (hF : CH n F) (k : Nat) : ∀ j, j < n → pwF n (trn n F) k j = trn n (pwF n F k) j :=
  en_ext (CH_pw (CH_trn hF) k).en (trn_en (CH_pw hF k)) (fun i j hi hj => by
    rw [trn_iff (CH_pw hF k) hi hj, pw_it (CH_trn hF) hj, pw_it hF hi, it_turn_iff hF hi hj])
theorem pw_congr {n : Nat} {F G : Nat → Int} (hF : CH n F) (h : ∀ j, j < n → F j = G j) (k : Nat) : LT n (pwF n F k) = LT n (pwF n G k) := LT_congr (fun j hj => by
  rw [pw_it hF hj, pw_it (hF.congr h) hj, it_congr hF h hj])
theorem pw_tuL {f : List Int} (h : isC f = true) (k : Nat) : LT f.length (pwF f.length (ofL (tuL f)) k) = tuL (LT f.length (pwF f.length (ofL f) k)) := by
  have hF := isC_CH h
  have hT : CH f.length (ofL (tuL f)) := by have := isC_CH (tuL_isC h); rwa [tuL_len h] at this
  rw [pw_congr hT (fun j hj => tuL_get h hj), tuL_trn (pw_isC h k), LT_length]
  refine LT_congr (fun j hj => ?_)
  rw [pw_turn hF k j hj]
  exact congrFun (trn_congr (fun i hi => (ofL_pt (pwF f.length (ofL f) k) hi).symm)) j
theorem powL_isC {f : List Int} {k : Int} (h : powB f k = true) : isC (powL f k) = true ∧ (powL f k).length = f.length := by
  have hC : isC f = true := (Bool.and_eq_true _ _ ▸ h).1
  unfold powL
  rw [if_pos h]
  split
  · rw [pw_tuL hC]; exact ⟨tuL_isC (pw_isC hC _), by rw [tuL_len (pw_isC hC _), LT_length]⟩
  · exact ⟨pw_isC hC _, LT_length _ _⟩
/-- powers go on, and are turned -/
theorem power_law {f : List Int} {k : Int} (h : powB f k = true) (h0 : 0 ≤ k) (h1 : k ≤ 99) : powB f (k + 1) = true ∧ powB f (0 - k) = true ∧ isP (powL f k) f = true ∧ powL f (k + 1) = tiL (powL f k) f ∧ isC (powL f k) = true ∧ powL f (0 - k) = tuL (powL f k) := by
  have hC : isC f = true := (Bool.and_eq_true _ _ ▸ h).1
  obtain ⟨m, rfl⟩ := Int.eq_ofNat_of_zero_le h0
  have a := powL_nat hC (k := m) (by omega)
  have b := powL_nat hC (k := m + 1) (by omega)
  have e1 : ((m : Int) + 1) = ((m + 1 : Nat) : Int) := by push_cast; rfl
  have hB : powB f (0 - (m : Int)) = true := by unfold powB inB; rw [hC, Bool.true_and]; exact decide_eq_true (by omega)
  have hi := powL_isC a.1
  have hP : isP (powL f (m : Int)) f = true := isP_of hi.1 hC hi.2
  refine ⟨by rw [e1]; exact b.1, hB, hP, ?_, hi.1, ?_⟩
  · rw [e1, b.2, tiL_cmp hP, hi.2, a.2]
    refine LT_congr (fun j hj => ?_)
    show cmp f.length (pwF f.length (ofL f) m) (ofL f) j = _
    exact cmp_congr (fun i hi => (ofL_pt (pwF f.length (ofL f) m) hi).symm) (fun _ _ => rfl) hj
  · rw [a.2]
    by_cases hm : m = 0
    · subst hm
      have : powL f (0 - ((0 : Nat) : Int)) = LT f.length (pwF f.length (ofL f) 0) := by have := a.2; simpa using this
      rw [this, ← pw_tuL hC]
      exact LT_congr (fun j hj => rfl)
    · unfold powL
      rw [if_pos hB, if_pos (by omega), show (0 - (0 - (m : Int))).toNat = m by omega, pw_tuL hC]
theorem tl76 : (⟨#[76]⟩ : ByteArray).toList = [76] := by decide +kernel
theorem tl82 : (⟨#[82]⟩ : ByteArray).toList = [82] := by decide +kernel
theorem tl72 : (⟨#[72]⟩ : ByteArray).toList = [72] := by decide +kernel
theorem tl68 : (⟨#[68]⟩ : ByteArray).toList = [68] := by decide +kernel
theorem rank_ran {f : List Int} (h : isC f = true) : popK (raN f) 6 = popK (doN f) 6 := by
  rw [raN_tu h, rank_cnt (tuL_isC h), tuL_len h, rank_cnt h, cnt_congr (Q := fun j => decide (trn f.length (ofL f) j ≠ -1)) (fun j hj => by rw [tuL_get h hj]), cnt_trn (isC_CH h)]
theorem grL_symm {l : List UInt8} {a b d a' b' d' : Bool} (h1 : a = a') (h2 : b = b') (h3 : d = d') : grL l a b d = grL l a' b' d' := by rw [h1, h2, h3]
/-- relations go both ways -/
theorem green_law {s : ByteArray} {f g : List Int} (h : grB s f g = true) : grB s g f = true ∧ grB ⟨#[76]⟩ f g = decide (raN f = raN g) ∧ grB ⟨#[82]⟩ f g = decide (doN f = doN g) ∧
    grB ⟨#[72]⟩ f g = (decide (raN f = raN g) && decide (doN f = doN g)) ∧ (raN f = raN g ∨ doN f = doN g → grB ⟨#[68]⟩ f g = true) := by
  unfold grB at h
  rw [Bool.and_eq_true] at h
  have hP := h.1
  have hy := isP_yes hP
  have hP' : isP g f = true := isP_of hy.2.1 hy.1 hy.2.2.symm
  refine ⟨?_, ?_, ?_, ?_, fun hor => ?_⟩
  · unfold grB
    rw [hP', Bool.true_and, ← h.2]
    exact grL_symm (by simp only [eq_comm]) (by simp only [eq_comm]) (by simp only [eq_comm])
  · unfold grB; rw [hP, Bool.true_and, tl76]; rfl
  · unfold grB; rw [hP, Bool.true_and, tl82]; rfl
  · unfold grB; rw [hP, Bool.true_and, tl72]; rfl
  · unfold grB; rw [hP, Bool.true_and, tl68]
    show decide (popK (doN f) 6 = popK (doN g) 6) = true
    refine decide_eq_true ?_
    rcases hor with e | e
    · rw [← rank_ran hy.1, ← rank_ran hy.2.1, e]
    · rw [e]
end

/-! Shapes, alike charts, ways and charts of ways: the laws of chapter 2 as lines on lists; no program. -/
section
def shCL (f : List Int) : List Int := srt (lens (chainsL f))
def shYL (f : List Int) : List Int := srt (lens (cyclesL f))
def alB (f g : List Int) : Bool := isC f && isC g && decide (shCL f = shCL g) && decide (shYL f = shYL g)
theorem shL {f : List Int} (h : isC f = true) : shCL f = shC f.length (ofL f) (raN f) ∧ shYL f = shY f.length (ofL f) (raN f) := by
  unfold shCL shYL shC shY chainsL cyclesL; rw [if_pos h, if_pos h]; exact ⟨rfl, rfl⟩
theorem srt_srt (L : List Int) : srt (srt L) = srt L := sorted_ext (srt_sorted _) (srt_sorted _) (fun v => srt_count (srt L) v)
theorem rk_zero (n : Nat) (F : Nat → Int) : rkF n F 0 = n := by
  rw [rk_cnt, cnt_congr (Q := fun _ => true) (fun j _ => decide_eq_true (it0 F j))]
  have hc : ∀ m, cnt (fun _ => true) m = m := fun m => by
    induction m with
    | zero => rfl
    | succ m ih => rw [cnt_succ, ih]; rfl
  exact hc n
/-- two charts of as many points whose powers have the same ranks and leave as many points have one shape -/
theorem shL_of {f g : List Int} (h : isC f = true) (h' : isC g = true) (hl : f.length = g.length) (hr : ∀ k, rkF f.length (ofL f) k = rkF g.length (ofL g) k) (hx : ∀ k, 1 ≤ k → fxF f.length (ofL f) k = fxF g.length (ofL g) k) : shCL f = shCL g ∧ shYL f = shYL g := by
  rw [(shL h).1, (shL h').1, (shL h).2, (shL h').2]
  have hF := isC_CH h
  have hG := isC_CH h'
  have hm := raN_range h
  have hm' := raN_range h'
  revert hG hm' hr hx
  rw [← hl]
  intro hr hx hG hm'
  exact shape_of hF hG hm hm' hr hx
theorem sum_shape {f : List Int} (h : isC f = true) : sumI (sub_ 0) (shCL f) + sumI (sub_ 0) (shYL f) = f.length := by
  have hF := isC_CH h
  have hm := raN_range h
  have h1 := moved_shape hF hm 0
  rw [rk_zero] at h1
  have e1 : sumI (sub_ 0) (shCL f) = sumI (sub_ 0) (lens (chL (ofL f) f.length (raN f) f.length)) := by
    rw [(shL h).1]
    exact told_sum (fun x hx => chL_lens hF f.length (Nat.le_refl _) x (List.count_pos_iff.1 (by rw [← srt_count]; exact List.count_pos_iff.2 hx))) (chL_lens hF f.length (Nat.le_refl _)) (srt_srt _) _
  have e2 : sumI (sub_ 0) (shYL f) = sumI (sub_ 0) (lens (cyL (ofL f) f.length (orSS 0 (chL (ofL f) f.length (raN f) f.length)) f.length)) := by
    rw [(shL h).2]
    exact told_sum (fun x hx => cyL_lens hF f.length (Nat.le_refl _) x (List.count_pos_iff.1 (by rw [← srt_count]; exact List.count_pos_iff.2 hx))) (cyL_lens hF f.length (Nat.le_refl _)) (srt_srt _) _
  omega
theorem rk_tuL {f : List Int} (h : isC f = true) (k : Nat) : rkF (tuL f).length (ofL (tuL f)) k = rkF f.length (ofL f) k := by
  have hT : CH f.length (ofL (tuL f)) := by have := isC_CH (tuL_isC h); rwa [tuL_len h] at this
  rw [tuL_len h, rk_congr hT (fun j hj => tuL_get h hj), rk_turn (isC_CH h)]
theorem fx_tuL {f : List Int} (h : isC f = true) (k : Nat) : fxF (tuL f).length (ofL (tuL f)) k = fxF f.length (ofL f) k := by
  have hT : CH f.length (ofL (tuL f)) := by have := isC_CH (tuL_isC h); rwa [tuL_len h] at this
  rw [tuL_len h, fx_congr hT (fun j hj => tuL_get h hj), fx_turn (isC_CH h)]
/-- shapes stay when charts are turned -/
theorem shape_law {f : List Int} (h : isC f = true) : shCL (tuL f) = shCL f ∧ shYL (tuL f) = shYL f :=
  shL_of (tuL_isC h) h (tuL_len h) (rk_tuL h) (fun k _ => fx_tuL h k)
theorem alB_iff {f g : List Int} : alB f g = true ↔ isC f = true ∧ isC g = true ∧ shCL f = shCL g ∧ shYL f = shYL g := by
  unfold alB
  rw [Bool.and_eq_true, Bool.and_eq_true, Bool.and_eq_true, decide_eq_true_eq, decide_eq_true_eq]
  exact ⟨fun ⟨⟨⟨a, b⟩, c⟩, d⟩ => ⟨a, b, c, d⟩, fun ⟨a, b, c, d⟩ => ⟨⟨⟨a, b⟩, c⟩, d⟩⟩
/-- alike charts have the same index, period and rank, and are alike turned -/
theorem alike_law {f g : List Int} (h : alB f g = true) : isC f = true ∧ isC g = true ∧ idxL f = idxL g ∧ perL f = perL g ∧ popK (doN f) 6 = popK (doN g) 6 ∧ alB g f = true ∧ alB (tuL f) (tuL g) = true := by
  obtain ⟨a, b, c, d⟩ := alB_iff.1 h
  have hl : f.length = g.length := by rw [← sum_shape a, ← sum_shape b, c, d]
  have hF := isC_CH a
  have hG := isC_CH b
  have hm := raN_range a
  have hm' := raN_range b
  have key : (∀ k, rkF f.length (ofL f) k = rkF f.length (ofL g) k) ∧ ∀ k, 1 ≤ k → fxF f.length (ofL f) k = fxF f.length (ofL g) k := by
    rw [← hl] at hG hm'
    have c' := c
    have d' := d
    rw [(shL a).1, (shL b).1, ← hl] at c'
    rw [(shL a).2, (shL b).2, ← hl] at d'
    exact of_shape hF hG hm hm' c' d'
  refine ⟨a, b, ?_, ?_, ?_, alB_iff.2 ⟨b, a, c.symm, d.symm⟩, alB_iff.2 ⟨tuL_isC a, tuL_isC b, by rw [(shape_law a).1, (shape_law b).1, c], by rw [(shape_law a).2, (shape_law b).2, d]⟩⟩
  · unfold idxL; rw [if_pos a, if_pos b, ← hl]; exact idx_shape key.1
  · unfold perL; rw [if_pos a, if_pos b, ← hl]; exact per_shape key.1 key.2
  · rw [rank_one a, rank_one b, ← hl]; exact key.1 1
/-- charts moved to another place are alike -/
theorem moved_law {f g : List Int} (h : isP f g = true) (hr : popK (doN f) 6 = f.length) : isP (tuL f) g = true ∧ isP (tiL (tuL f) g) f = true ∧ alB g (tiL (tiL (tuL f) g) f) = true := by
  have hy := isP_yes h
  have hl : f.length = g.length := hy.2.2
  have h1 : isP (tuL f) g = true := isP_of (tuL_isC hy.1) hy.2.1 (by rw [tuL_len hy.1]; exact hl)
  have h2 : isP (tiL (tuL f) g) f = true := isP_of (tiL_isC h1) hy.1 (by rw [tiL_len h1, tuL_len hy.1])
  have hS := isC_CH hy.1
  have hG : CH f.length (ofL g) := by have := isC_CH hy.2.1; rwa [← hl] at this
  have hfull : ∀ j, j < f.length → ofL f j ≠ -1 := by
    rw [rank_cnt hy.1] at hr
    intro j hj
    exact of_decide_eq_true (cnt_all hr j hj)
  have hlen : (tiL (tiL (tuL f) g) f).length = f.length := by rw [tiL_len h2, tiL_len h1, tuL_len hy.1]
  have hB := isC_CH (tiL_isC h2)
  rw [hlen] at hB
  have hpt : ∀ j, j < f.length → ofL (tiL (tiL (tuL f) g) f) j = cjF f.length (ofL f) (ofL g) j := fun j hj => by
    have e1 : (tiL (tuL f) g).length = f.length := by rw [tiL_len h1, tuL_len hy.1]
    rw [tiL_get h2 (by rw [e1]; exact hj), e1]
    unfold cjF
    refine cmp_congr (fun i hi => ?_) (fun _ _ => rfl) hj
    rw [tiL_get h1 (by rw [tuL_len hy.1]; exact hi), tuL_len hy.1]
    exact cmp_congr (fun i hi => tuL_get hy.1 hi) (fun _ _ => rfl) hi
  refine ⟨h1, h2, alB_iff.2 ⟨hy.2.1, tiL_isC h2, ?_⟩⟩
  refine shL_of hy.2.1 (tiL_isC h2) (by rw [hlen, hl]) (fun k => ?_) (fun k _ => ?_)
  · rw [hlen, ← hl, rk_congr hB hpt]; exact rk_cj hS hG hfull k
  · rw [hlen, ← hl, fx_congr hB hpt]; exact fx_cj hS hG hfull k
/-- ways lead back to the chart -/
theorem ways_law {f : List Int} (h : isC f = true) : wcB (f.length : Int) (chainsL f) (cyclesL f) = true ∧ wcL (f.length : Int) (chainsL f) (cyclesL f) = f := by
  have hb := ways_back (isC_CH h) (raN_range h)
  unfold chainsL cyclesL
  rw [if_pos h, if_pos h]
  refine ⟨hb.1, ?_⟩
  rw [hb.2]; exact LT_ofL rfl
/-- charts of ways have these ways -/
theorem waysChart_law {n : Int} {Cs Ys : List (List Int)} (h : wcB n Cs Ys = true) : isC (wcL n Cs Ys) = true ∧ (waysL (wcL n Cs Ys)).length = Cs.length + Ys.length ∧ (popK (doN (wcL n Cs Ys)) 6 : Int) = n - Cs.length := by
  have hL : wcL n Cs Ys = LT n.toNat (lnSS Cs.length (fun _ => -1) (Cs ++ Ys)) := by unfold wcL; rw [if_pos h]
  unfold wcB at h
  rw [Bool.and_eq_true, Bool.and_eq_true] at h
  have hn := of_decide_eq_true h.1.1
  obtain ⟨N, rfl⟩ := Int.eq_ofNat_of_zero_le (show 0 ≤ n by omega)
  rw [Int.toNat_natCast] at h hL
  have hw := wc_chart (by omega) (by omega) h.1.2 (of_decide_eq_true h.2)
  rw [hL]
  generalize lnSS Cs.length (fun _ => -1) (Cs ++ Ys) = T at hw
  have hC := CH_isC hw.1
  have hR := raN_range hC
  rw [LT_length] at hR
  have hpt : ∀ j, j < N → ofL (LT N T) j = T j := fun j hj => ofL_pt T hj
  have hrm : RangeM N T (raN (LT N T)) := fun i hi => by
    rw [hR i hi]
    constructor
    · intro hh a ha e; exact hh a ha (by rw [hpt a ha]; exact e)
    · intro hh a ha e; exact hh a ha (by rw [← hpt a ha]; exact e)
  have hws := hw.2.2 _ hrm
  have hF' : CH N (ofL (LT N T)) := by have := isC_CH hC; rwa [LT_length] at this
  have hway : ∀ s, s < N → wayL (ofL (LT N T)) N s = wayL T N s := fun s hs => by
    have hit : ∀ k, itF (ofL (LT N T)) s k = itF T s k := it_congr hF' hpt hs
    have hwe : ∀ d k, wEnd (ofL (LT N T)) s d k = wEnd T s d k := fun d => by
      induction d with
      | zero => intro k; rfl
      | succ d ih => intro k; unfold wEnd; rw [hit, ih]
    unfold wayL; rw [hwe]; exact LT_congr (fun k _ => hit k)
  have hch : ∀ m k, k ≤ N → chL (ofL (LT N T)) N m k = chL T N m k := fun m k => by
    induction k with
    | zero => intro _; rfl
    | succ k ih => intro hk; rw [chL_succ, chL_succ, ih (by omega), hway k (by omega)]
  have hcy : ∀ q k, k ≤ N → cyL (ofL (LT N T)) N q k = cyL T N q k := fun q k => by
    induction k with
    | zero => intro _; rfl
    | succ k ih => intro hk; rw [cyL_succ, cyL_succ, ih (by omega), hway k (by omega)]
  refine ⟨hC, ?_, ?_⟩
  · unfold waysL chainsL cyclesL
    rw [if_pos hC, if_pos hC, LT_length, hch _ N (Nat.le_refl _), hcy _ N (Nat.le_refl _), List.length_append, hws.1, hws.2]
  · rw [rank_cnt hC, LT_length, cnt_congr (Q := fun j => decide (T j ≠ -1)) (fun j hj => by rw [hpt j hj])]
    have := hw.2.1; omega
end

end Go.Proofs.YtkfiehndlgplgaaGreatDoor
