/-
  Shape Lens IIdx.
-/
import Derived.Deep.RegionWith
import Derived.BigRegion
import Derived.ChangeKeysEq
import Derived.Test.YtckppfgooflooabMH
namespace Go.Proofs.Ytckppfgooflooab
set_option maxRecDepth 100000
set_option linter.unusedVariables false
set_option linter.unusedSimpArgs false
set_option linter.unusedSectionVars false

/-! (impl.chart).shape. -/
section
open Go.RowKit

/-- the shape of some ways, place by place -/
def shF (acc : List KW) (j : Nat) : Int := ((cnF acc (j / 7) (j % 7) : Nat) : Int)
theorem shF_nil (j : Nat) : shF [] j = 0 := rfl
theorem shF_snoc (acc : List KW) (x : KW) (h : x.2.length < 7) (j : Nat) : shF (acc ++ [x]) j = if j = x.1 * 7 + x.2.length then shF acc j + 1 else shF acc j := by
  unfold shF
  rw [cn_snoc]
  by_cases e : j = x.1 * 7 + x.2.length
  · rw [if_pos e, if_pos ⟨by omega, by omega⟩]; push_cast; rfl
  · rw [if_neg e, if_neg (fun hh => e (by omega))]; simp

/-- block b is a shape's -/
def Sb (w : World) (b : Nat) (c : Nat → Int) : Prop := w.rowIs b 72 14 (fun j => .int .i64 (c j))
section
variable {w w' : World} {b : Nat} {c c' : Nat → Int}
theorem Sb.at_ (h : Sb w b c) {k : Nat} (hk : k < 14) : w.cell? ⟨b, k, none⟩ = some (.int .i64 (c k)) := World.rowIs.cell h hk
theorem Sb.frozen (h : Sb w b c) (k : Nat) : w.frozen? ⟨b, k, none⟩ = false := World.rowIs.frozen h k
theorem Sb.lt (h : Sb w b c) : b < w.heap.size := World.rowIs.lt h
theorem Sb.set_ (h : Sb w b c) (k : Nat) (v : Int) : Sb (w.setCell ⟨b, k, none⟩ (.int .i64 v)) b (fun j => if j = k then v else c j) := by
  refine World.rowIs.congr (World.rowIs.set h k (.int .i64 v)) (fun j _ => ?_)
  by_cases h1 : j = k <;> simp [h1]
theorem Sb.congr (h : Sb w b c) (e : ∀ j, j < 14 → c j = c' j) : Sb w b c' := World.rowIs.congr h (fun j hj => by rw [e j hj])
theorem Sb.other (h : Sb w b c) {a : Addr} (ha : b ≠ a.block) (v : Value) : Sb (w.setCell a v) b c := World.rowIs.setOther h ha v
theorem Sb.alloc (h : Sb w b c) (o : Obj) : Sb (w.alloc o) b c := World.rowIs.alloc h o
theorem Sb.below {B : Nat} (h : Sb w b c) (hb : Below B w w') (hB : b < B) : Sb w' b c := World.rowIs.of_block h (hb.block b hB)
theorem Sb.new (w : World) (c : Nat → Int) : Sb (w.alloc (.cells #[.int .i64 ((c) 0), .int .i64 ((c) 1), .int .i64 ((c) 2), .int .i64 ((c) 3), .int .i64 ((c) 4), .int .i64 ((c) 5), .int .i64 ((c) 6), .int .i64 ((c) 7), .int .i64 ((c) 8), .int .i64 ((c) 9), .int .i64 ((c) 10), .int .i64 ((c) 11), .int .i64 ((c) 12), .int .i64 ((c) 13)] 72)) w.heap.size c :=
  World.rowIs_alloc w _ 72 (fun j => .int .i64 (c j)) (fun i hi => by
    match i, hi with
    | 0, _ => rfl
    | 1, _ => rfl
    | 2, _ => rfl
    | 3, _ => rfl
    | 4, _ => rfl
    | 5, _ => rfl
    | 6, _ => rfl
    | 7, _ => rfl
    | 8, _ => rfl
    | 9, _ => rfl
    | 10, _ => rfl
    | 11, _ => rfl
    | 12, _ => rfl
    | 13, _ => rfl)
theorem Sb.full {c0 : Nat → Int} (h : Sb w b c0) : Sb (((((((((((((((w).setCell ⟨b, 0, none⟩ (.int .i64 ((c) 0))).setCell ⟨b, 1, none⟩ (.int .i64 ((c) 1))).setCell ⟨b, 2, none⟩ (.int .i64 ((c) 2))).setCell ⟨b, 3, none⟩ (.int .i64 ((c) 3))).setCell ⟨b, 4, none⟩ (.int .i64 ((c) 4))).setCell ⟨b, 5, none⟩ (.int .i64 ((c) 5))).setCell ⟨b, 6, none⟩ (.int .i64 ((c) 6))).setCell ⟨b, 7, none⟩ (.int .i64 ((c) 7))).setCell ⟨b, 8, none⟩ (.int .i64 ((c) 8))).setCell ⟨b, 9, none⟩ (.int .i64 ((c) 9))).setCell ⟨b, 10, none⟩ (.int .i64 ((c) 10))).setCell ⟨b, 11, none⟩ (.int .i64 ((c) 11))).setCell ⟨b, 12, none⟩ (.int .i64 ((c) 12))).setCell ⟨b, 13, none⟩ (.int .i64 ((c) 13))) b c := by
  refine World.rowIs.congr (World.rowIs.set (World.rowIs.set (World.rowIs.set (World.rowIs.set (World.rowIs.set (World.rowIs.set (World.rowIs.set (World.rowIs.set (World.rowIs.set (World.rowIs.set (World.rowIs.set (World.rowIs.set (World.rowIs.set (World.rowIs.set h 0 _) 1 _) 2 _) 3 _) 4 _) 5 _) 6 _) 7 _) 8 _) 9 _) 10 _) 11 _) 12 _) 13 _) (fun j hj => ?_)
  match j, hj with
  | 0, _ => rfl
  | 1, _ => rfl
  | 2, _ => rfl
  | 3, _ => rfl
  | 4, _ => rfl
  | 5, _ => rfl
  | 6, _ => rfl
  | 7, _ => rfl
  | 8, _ => rfl
  | 9, _ => rfl
  | 10, _ => rfl
  | 11, _ => rfl
  | 12, _ => rfl
  | 13, _ => rfl
theorem below_set14 {B : Nat} {a : World} (h : Below B a w) (hb : B ≤ b) : Below B a (((((((((((((((w).setCell ⟨b, 0, none⟩ (.int .i64 ((c) 0))).setCell ⟨b, 1, none⟩ (.int .i64 ((c) 1))).setCell ⟨b, 2, none⟩ (.int .i64 ((c) 2))).setCell ⟨b, 3, none⟩ (.int .i64 ((c) 3))).setCell ⟨b, 4, none⟩ (.int .i64 ((c) 4))).setCell ⟨b, 5, none⟩ (.int .i64 ((c) 5))).setCell ⟨b, 6, none⟩ (.int .i64 ((c) 6))).setCell ⟨b, 7, none⟩ (.int .i64 ((c) 7))).setCell ⟨b, 8, none⟩ (.int .i64 ((c) 8))).setCell ⟨b, 9, none⟩ (.int .i64 ((c) 9))).setCell ⟨b, 10, none⟩ (.int .i64 ((c) 10))).setCell ⟨b, 11, none⟩ (.int .i64 ((c) 11))).setCell ⟨b, 12, none⟩ (.int .i64 ((c) 12))).setCell ⟨b, 13, none⟩ (.int .i64 ((c) 13))) :=
  (((((((((((((h.setCell (p := ⟨b, 0, none⟩) hb _).setCell (p := ⟨b, 1, none⟩) hb _).setCell (p := ⟨b, 2, none⟩) hb _).setCell (p := ⟨b, 3, none⟩) hb _).setCell (p := ⟨b, 4, none⟩) hb _).setCell (p := ⟨b, 5, none⟩) hb _).setCell (p := ⟨b, 6, none⟩) hb _).setCell (p := ⟨b, 7, none⟩) hb _).setCell (p := ⟨b, 8, none⟩) hb _).setCell (p := ⟨b, 9, none⟩) hb _).setCell (p := ⟨b, 10, none⟩) hb _).setCell (p := ⟨b, 11, none⟩) hb _).setCell (p := ⟨b, 12, none⟩) hb _).setCell (p := ⟨b, 13, none⟩) hb _
end

theorem wrap_fin : ∀ n : Fin 13, IntKind.i64.wrap ((n.val : Int) + 1) = (n.val : Int) + 1 := by decide +kernel
theorem wrap_13 {x : Int} (h : 0 ≤ x ∧ x ≤ 12) : IntKind.i64.wrap (x + 1) = x + 1 := by
  obtain ⟨n, rfl⟩ := Int.eq_ofNat_of_zero_le h.1
  exact wrap_fin ⟨n, by omega⟩
theorem gb_set (W : World) (b k : Nat) (v : Value) : W.grownBy (W.setCell ⟨b, k, none⟩ v) (some b) :=
  ⟨rfl, rfl, rfl, (KeepsWalks.setCell W _ v).size, fun j _ hj => Below.heap_setCell _ _ _ j (fun e => hj (by rw [e]))⟩

def WaysSay (n : Nat) (T : Nat → Int) (acc : List KW) : Prop := ∀ w : World, Calls Try.prog 42 #[.agg #[.int .i64 ((n : Int)), .int .i64 (T 0), .int .i64 (T 1), .int .i64 (T 2), .int .i64 (T 3), .int .i64 (T 4), .int .i64 (T 5)]] w fun e w' => ∃ (v : Value) (ps : List (KW × Nat)), e = .returned v ∧ ps.map (·.1) = acc ∧ WW w' w.heap.size ps v ∧ Below w.heap.size w w'
set_option maxHeartbeats 8000000 in
theorem shape_any (n : Nat) (T : Nat → Int) (acc : List KW) (hacc : ∀ x ∈ acc, x.1 ≤ 1 ∧ 1 ≤ x.2.length ∧ x.2.length ≤ 6) (hl : acc.length ≤ 12) (hw : WaysSay n T acc) (w : World) :
    Calls Try.prog 56 #[.agg #[.int .i64 ((n : Int)), .int .i64 (T 0), .int .i64 (T 1), .int .i64 (T 2), .int .i64 (T 3), .int .i64 (T 4), .int .i64 (T 5)]] w fun e w' => e = .returned (.agg #[.int .i64 ((shF acc) 0), .int .i64 ((shF acc) 1), .int .i64 ((shF acc) 2), .int .i64 ((shF acc) 3), .int .i64 ((shF acc) 4), .int .i64 ((shF acc) 5), .int .i64 ((shF acc) 6), .int .i64 ((shF acc) 7), .int .i64 ((shF acc) 8), .int .i64 ((shF acc) 9), .int .i64 ((shF acc) 10), .int .i64 ((shF acc) 11), .int .i64 ((shF acc) 12), .int .i64 ((shF acc) 13)]) ∧ Below w.heap.size w w' := by
  have hA := ((Cb.new w n T).alloc (.cells #[.int .i64 ((fun _ => (0 : Int)) 0), .int .i64 ((fun _ => (0 : Int)) 1), .int .i64 ((fun _ => (0 : Int)) 2), .int .i64 ((fun _ => (0 : Int)) 3), .int .i64 ((fun _ => (0 : Int)) 4), .int .i64 ((fun _ => (0 : Int)) 5), .int .i64 ((fun _ => (0 : Int)) 6), .int .i64 ((fun _ => (0 : Int)) 7), .int .i64 ((fun _ => (0 : Int)) 8), .int .i64 ((fun _ => (0 : Int)) 9), .int .i64 ((fun _ => (0 : Int)) 10), .int .i64 ((fun _ => (0 : Int)) 11), .int .i64 ((fun _ => (0 : Int)) 12), .int .i64 ((fun _ => (0 : Int)) 13)] 72)).alloc (.cells #[.int .i64 ((fun _ => (0 : Int)) 0), .int .i64 ((fun _ => (0 : Int)) 1), .int .i64 ((fun _ => (0 : Int)) 2), .int .i64 ((fun _ => (0 : Int)) 3), .int .i64 ((fun _ => (0 : Int)) 4), .int .i64 ((fun _ => (0 : Int)) 5), .int .i64 ((fun _ => (0 : Int)) 6), .int .i64 ((fun _ => (0 : Int)) 7), .int .i64 ((fun _ => (0 : Int)) 8), .int .i64 ((fun _ => (0 : Int)) 9), .int .i64 ((fun _ => (0 : Int)) 10), .int .i64 ((fun _ => (0 : Int)) 11), .int .i64 ((fun _ => (0 : Int)) 12), .int .i64 ((fun _ => (0 : Int)) 13)] 72)
  have hR := (Sb.new (w.alloc (.cells #[.int .i64 ((n : Int)), .int .i64 (T 0), .int .i64 (T 1), .int .i64 (T 2), .int .i64 (T 3), .int .i64 (T 4), .int .i64 (T 5)] 49)) (fun _ => 0)).alloc (.cells #[.int .i64 ((fun _ => (0 : Int)) 0), .int .i64 ((fun _ => (0 : Int)) 1), .int .i64 ((fun _ => (0 : Int)) 2), .int .i64 ((fun _ => (0 : Int)) 3), .int .i64 ((fun _ => (0 : Int)) 4), .int .i64 ((fun _ => (0 : Int)) 5), .int .i64 ((fun _ => (0 : Int)) 6), .int .i64 ((fun _ => (0 : Int)) 7), .int .i64 ((fun _ => (0 : Int)) 8), .int .i64 ((fun _ => (0 : Int)) 9), .int .i64 ((fun _ => (0 : Int)) 10), .int .i64 ((fun _ => (0 : Int)) 11), .int .i64 ((fun _ => (0 : Int)) 12), .int .i64 ((fun _ => (0 : Int)) 13)] 72)
  have hS := Sb.new ((w.alloc (.cells #[.int .i64 ((n : Int)), .int .i64 (T 0), .int .i64 (T 1), .int .i64 (T 2), .int .i64 (T 3), .int .i64 (T 4), .int .i64 (T 5)] 49)).alloc (.cells #[.int .i64 ((fun _ => (0 : Int)) 0), .int .i64 ((fun _ => (0 : Int)) 1), .int .i64 ((fun _ => (0 : Int)) 2), .int .i64 ((fun _ => (0 : Int)) 3), .int .i64 ((fun _ => (0 : Int)) 4), .int .i64 ((fun _ => (0 : Int)) 5), .int .i64 ((fun _ => (0 : Int)) 6), .int .i64 ((fun _ => (0 : Int)) 7), .int .i64 ((fun _ => (0 : Int)) 8), .int .i64 ((fun _ => (0 : Int)) 9), .int .i64 ((fun _ => (0 : Int)) 10), .int .i64 ((fun _ => (0 : Int)) 11), .int .i64 ((fun _ => (0 : Int)) 12), .int .i64 ((fun _ => (0 : Int)) 13)] 72)) (fun _ => 0)
  simp only [World.size_alloc] at hR hS
  have hB0 : Below w.heap.size w (((w.alloc (.cells #[.int .i64 ((n : Int)), .int .i64 (T 0), .int .i64 (T 1), .int .i64 (T 2), .int .i64 (T 3), .int .i64 (T 4), .int .i64 (T 5)] 49)).alloc (.cells #[.int .i64 ((fun _ => (0 : Int)) 0), .int .i64 ((fun _ => (0 : Int)) 1), .int .i64 ((fun _ => (0 : Int)) 2), .int .i64 ((fun _ => (0 : Int)) 3), .int .i64 ((fun _ => (0 : Int)) 4), .int .i64 ((fun _ => (0 : Int)) 5), .int .i64 ((fun _ => (0 : Int)) 6), .int .i64 ((fun _ => (0 : Int)) 7), .int .i64 ((fun _ => (0 : Int)) 8), .int .i64 ((fun _ => (0 : Int)) 9), .int .i64 ((fun _ => (0 : Int)) 10), .int .i64 ((fun _ => (0 : Int)) 11), .int .i64 ((fun _ => (0 : Int)) 12), .int .i64 ((fun _ => (0 : Int)) 13)] 72)).alloc (.cells #[.int .i64 ((fun _ => (0 : Int)) 0), .int .i64 ((fun _ => (0 : Int)) 1), .int .i64 ((fun _ => (0 : Int)) 2), .int .i64 ((fun _ => (0 : Int)) 3), .int .i64 ((fun _ => (0 : Int)) 4), .int .i64 ((fun _ => (0 : Int)) 5), .int .i64 ((fun _ => (0 : Int)) 6), .int .i64 ((fun _ => (0 : Int)) 7), .int .i64 ((fun _ => (0 : Int)) 8), .int .i64 ((fun _ => (0 : Int)) 9), .int .i64 ((fun _ => (0 : Int)) 10), .int .i64 ((fun _ => (0 : Int)) 11), .int .i64 ((fun _ => (0 : Int)) 12), .int .i64 ((fun _ => (0 : Int)) 13)] 72)) := (((Below.refl _ w).alloc (Nat.le_refl _) _).alloc (by simp) _).alloc (by simp <;> omega) _
  have hz : (((w.alloc (.cells #[.int .i64 ((n : Int)), .int .i64 (T 0), .int .i64 (T 1), .int .i64 (T 2), .int .i64 (T 3), .int .i64 (T 4), .int .i64 (T 5)] 49)).alloc (.cells #[.int .i64 ((fun _ => (0 : Int)) 0), .int .i64 ((fun _ => (0 : Int)) 1), .int .i64 ((fun _ => (0 : Int)) 2), .int .i64 ((fun _ => (0 : Int)) 3), .int .i64 ((fun _ => (0 : Int)) 4), .int .i64 ((fun _ => (0 : Int)) 5), .int .i64 ((fun _ => (0 : Int)) 6), .int .i64 ((fun _ => (0 : Int)) 7), .int .i64 ((fun _ => (0 : Int)) 8), .int .i64 ((fun _ => (0 : Int)) 9), .int .i64 ((fun _ => (0 : Int)) 10), .int .i64 ((fun _ => (0 : Int)) 11), .int .i64 ((fun _ => (0 : Int)) 12), .int .i64 ((fun _ => (0 : Int)) 13)] 72)).alloc (.cells #[.int .i64 ((fun _ => (0 : Int)) 0), .int .i64 ((fun _ => (0 : Int)) 1), .int .i64 ((fun _ => (0 : Int)) 2), .int .i64 ((fun _ => (0 : Int)) 3), .int .i64 ((fun _ => (0 : Int)) 4), .int .i64 ((fun _ => (0 : Int)) 5), .int .i64 ((fun _ => (0 : Int)) 6), .int .i64 ((fun _ => (0 : Int)) 7), .int .i64 ((fun _ => (0 : Int)) 8), .int .i64 ((fun _ => (0 : Int)) 9), .int .i64 ((fun _ => (0 : Int)) 10), .int .i64 ((fun _ => (0 : Int)) 11), .int .i64 ((fun _ => (0 : Int)) 12), .int .i64 ((fun _ => (0 : Int)) 13)] 72)).heap.size = w.heap.size + 3 := by simp
  have HW := Lib.hid hw
  clear hw
  go_enter Try.func56, Try.ntmps56
  go_wp2_with fail
  refine (HW.out _).mono ?_
  rintro e w1 ⟨v, ps, rfl, hps, hWW, hb⟩
  have hR1 := hR.below hb (by rw [hz]; omega)
  have hS1 := hS.below hb (by rw [hz]; omega)
  have hB1 := hB0.trans (hb.mono hB0.size)
  have hs1 := hb.size
  rw [hz] at hs1 hWW
  have hpl : ps.length = acc.length := by rw [← hps, List.length_map]
  obtain ⟨A, cp, rfl⟩ : ∃ A c, v = .slice A ps.length c := by
    rcases hWW.1.2 with ⟨rfl, h0⟩ | ⟨g, cap, cur, rfl, _⟩
    · exact ⟨none, 0, by rw [h0]⟩
    · exact ⟨_, _, rfl⟩
  clear hA hR hS hB0 hb hz
  go_wp2
  go_loopw [9] (fun i wr => ∃ t : Nat, t ≤ acc.length ∧ i = .int .i64 (t : Int) ∧ Sb wr (w.heap.size + 1) (fun _ => 0) ∧ Sb wr (w.heap.size + 1 + 1) (shF (acc.take t)) ∧ w1.grownBy wr (some (w.heap.size + 1 + 1))) (fun i _ => acc.length - (intOf i).toNat)
  case atStart => exact ⟨0, by omega, rfl, hR1, hS1.congr (fun j _ => rfl), gb_self _ _⟩
  case round =>
    clear hR1 hS1
    obtain ⟨t, ht, rfl, hR, hS, hG⟩ := hrel
    have hWr := hWW.grown hG (by omega)
    have hws := hG.size
    by_cases hlt : t < acc.length
    · obtain ⟨p, hp⟩ : ∃ p, ps[t]? = some p := ⟨_, List.getElem?_eq_getElem (by omega)⟩
      have hat : acc[t]? = some p.1 := by rw [← hps]; simp [hp]
      have hin := hacc p.1 (List.mem_of_getElem? hat)
      have hpm := hWr.2 p (List.mem_of_getElem? hp)
      have hcl := wc_get ps t p hp
      have HT : Hid (∀ j, shF (acc.take (t + 1)) j = if j = p.1.1 * 7 + p.1.2.length then shF (acc.take t) j + 1 else shF (acc.take t) j) := fun j => by
        rw [List.take_add_one, hat]; exact shF_snoc _ _ (by omega) j
      obtain ⟨g, rfl⟩ : ∃ g, A = some ⟨g, 0, none⟩ := by
        rcases hWr.1.2 with ⟨_, h0⟩ | ⟨g, cap, cur, h1, _⟩
        · omega
        · cases h1; exact ⟨_, rfl⟩
      have c0 := hWr.1.cells (g := g) rfl _ _ hcl.1
      have c1 := hWr.1.cells (g := g) rfl _ _ hcl.2
      have ea : ∀ j, (⟨g, 0, none⟩ : Addr).add j = ⟨g, j, none⟩ := fun j => by unfold Addr.add; split <;> simp_all
      rw [ea] at c0 c1
      have hcn : 0 ≤ shF (acc.take t) (p.1.1 * 7 + p.1.2.length) ∧ shF (acc.take t) (p.1.1 * 7 + p.1.2.length) ≤ 12 := by
        have := cn_le (acc.take t) ((p.1.1 * 7 + p.1.2.length) / 7) ((p.1.1 * 7 + p.1.2.length) % 7)
        rw [List.length_take] at this
        unfold shF; omega
      obtain ⟨⟨kd, L⟩, b⟩ := p
      simp only at c0 c1 HT hin hpm hcn
      have hbe : Below wr.heap.size wr (wr.alloc (.cells #[.int .i64 (kd : Int), .pointer (some ⟨b, 0, none⟩)] 56)) := (Below.refl _ wr).alloc (Nat.le_refl _) _
      have hring := hpm.2.2.below hbe (hpm.2.2.lt hpm.1)
      have h7 := B2.new wr 56 (.int .i64 (kd : Int)) (.pointer (some ⟨b, 0, none⟩))
      have d0 := B2.c0 h7
      have d1 := B2.c1 h7
      have hS' := hS.alloc (.cells #[.int .i64 (kd : Int), .pointer (some ⟨b, 0, none⟩)] 56)
      have hR' := hR.alloc (.cells #[.int .i64 (kd : Int), .pointer (some ⟨b, 0, none⟩)] 56)
      have hG' := gb_then hG (gb_weak (World.grownBy_alloc wr (.cells #[.int .i64 (kd : Int), .pointer (some ⟨b, 0, none⟩)] 56) none) none) (fun g e => by cases e)
      have hsz : (wr.alloc (.cells #[.int .i64 (kd : Int), .pointer (some ⟨b, 0, none⟩)] 56)).heap.size = wr.heap.size + 1 := by simp
      have k1 : (kd : Int) < 2 := by omega
      have k2 : (L.length : Int) < 7 := by omega
      clear hcl hp hat ea hWr hWW hR hS hG hbe
      go_wp2_with fail
      generalize wr.alloc (.cells #[.int .i64 (kd : Int), .pointer (some ⟨b, 0, none⟩)] 56) = W at *
      have hL1 : L.length ≤ 1048576 := by omega
      have hj : kd * 7 + L.length < 14 := by omega
      have HW1 : IntKind.i64.wrap (shF (acc.take t) (kd * 7 + L.length) + 1) = shF (acc.take t) (kd * 7 + L.length) + 1 := wrap_13 hcn
      go_region_with
        (go_at_call 43
         refine (wayList_any kd b L.length (ofL L) hpm.1 hL1 W.drew (show Ring W.drew b L.length (ofL L) from hring)).mono ?_
         rintro e w3 ⟨u, rfl, hown, hb3⟩
         rw [LT_ofL rfl] at hown
         have hsz3 : W.heap.size ≤ w3.heap.size := hb3.size
         have hblk : ∀ k, k < W.heap.size → w3.heap[k]? = W.heap[k]? := fun k hk => hb3.block k hk
         have d0' : w3.cell? ⟨wr.heap.size, 0, none⟩ = some (.int .i64 (kd : Int)) := (World.cell?_of_block (hblk wr.heap.size (by omega))).trans d0
         have hS3 : Sb w3 (w.heap.size + 1 + 1) (shF (acc.take t)) := World.rowIs.of_block hS' (hblk _ hS'.lt)
         have hR3 : Sb w3 (w.heap.size + 1) (fun _ => 0) := World.rowIs.of_block hR' (hblk _ hR'.lt)
         have hG3 : w1.grownBy w3 (some (w.heap.size + 1 + 1)) := gb_then hG' (gb_weak (gb_bel (W := W) (W' := w3) ⟨hb3.os, hb3.tape, hb3.output, hb3.size, hb3.block⟩) none) (fun g e => by cases e)
         have e20 := hS3.at_ hj
         have f20 := hS3.frozen (kd * 7 + L.length)
         obtain ⟨Au, cu, rfl⟩ := own_slice hown
         clear hown hb3)
      all_goals go_wp2
      all_goals exact ⟨⟨t + 1, by omega, by go_num, hR3.other (by simp) _, (hS3.set_ (kd * 7 + L.length) _).congr (fun j _ => by rw [HT.out j]; by_cases e : j = kd * 7 + L.length <;> simp [e]), gb_then hG3 (gb_set w3 (w.heap.size + 1 + 1) (kd * 7 + L.length) _) (fun g e => .inr (by cases e; rfl))⟩, by simp [intOf]; omega⟩
    · obtain rfl : t = acc.length := by omega
      have hS2 : Sb wr (w.heap.size + 1 + 1) (shF acc) := by rw [List.take_length] at hS; exact hS
      have q0 := hS2.at_ (k := 0) (by omega)
      have q1 := hS2.at_ (k := 1) (by omega)
      have q2 := hS2.at_ (k := 2) (by omega)
      have q3 := hS2.at_ (k := 3) (by omega)
      have q4 := hS2.at_ (k := 4) (by omega)
      have q5 := hS2.at_ (k := 5) (by omega)
      have q6 := hS2.at_ (k := 6) (by omega)
      have q7 := hS2.at_ (k := 7) (by omega)
      have q8 := hS2.at_ (k := 8) (by omega)
      have q9 := hS2.at_ (k := 9) (by omega)
      have q10 := hS2.at_ (k := 10) (by omega)
      have q11 := hS2.at_ (k := 11) (by omega)
      have q12 := hS2.at_ (k := 12) (by omega)
      have q13 := hS2.at_ (k := 13) (by omega)
      have r0 := hR.at_ (k := 0) (by omega)
      have f0 := hR.frozen 0
      have r1 := hR.at_ (k := 1) (by omega)
      have f1 := hR.frozen 1
      have r2 := hR.at_ (k := 2) (by omega)
      have f2 := hR.frozen 2
      have r3 := hR.at_ (k := 3) (by omega)
      have f3 := hR.frozen 3
      have r4 := hR.at_ (k := 4) (by omega)
      have f4 := hR.frozen 4
      have r5 := hR.at_ (k := 5) (by omega)
      have f5 := hR.frozen 5
      have r6 := hR.at_ (k := 6) (by omega)
      have f6 := hR.frozen 6
      have r7 := hR.at_ (k := 7) (by omega)
      have f7 := hR.frozen 7
      have r8 := hR.at_ (k := 8) (by omega)
      have f8 := hR.frozen 8
      have r9 := hR.at_ (k := 9) (by omega)
      have f9 := hR.frozen 9
      have r10 := hR.at_ (k := 10) (by omega)
      have f10 := hR.frozen 10
      have r11 := hR.at_ (k := 11) (by omega)
      have f11 := hR.frozen 11
      have r12 := hR.at_ (k := 12) (by omega)
      have f12 := hR.frozen 12
      have r13 := hR.at_ (k := 13) (by omega)
      have f13 := hR.frozen 13
      have hF := Sb.full (c := shF acc) hR
      have z0 := hF.at_ (k := 0) (by omega)
      have z1 := hF.at_ (k := 1) (by omega)
      have z2 := hF.at_ (k := 2) (by omega)
      have z3 := hF.at_ (k := 3) (by omega)
      have z4 := hF.at_ (k := 4) (by omega)
      have z5 := hF.at_ (k := 5) (by omega)
      have z6 := hF.at_ (k := 6) (by omega)
      have z7 := hF.at_ (k := 7) (by omega)
      have z8 := hF.at_ (k := 8) (by omega)
      have z9 := hF.at_ (k := 9) (by omega)
      have z10 := hF.at_ (k := 10) (by omega)
      have z11 := hF.at_ (k := 11) (by omega)
      have z12 := hF.at_ (k := 12) (by omega)
      have z13 := hF.at_ (k := 13) (by omega)
      have hBr : Below w.heap.size w wr := hB1.grown hG (by omega) (fun g e => by cases e; omega)
      have hBf := below_set14 (b := w.heap.size + 1) (c := shF acc) hBr (by omega)
      clear hR hS hG hS2 hF hWr hWW hBr
      go_wp2
      refine bodyPost_ret (v := .agg #[.int .i64 ((shF acc) 0), .int .i64 ((shF acc) 1), .int .i64 ((shF acc) 2), .int .i64 ((shF acc) 3), .int .i64 ((shF acc) 4), .int .i64 ((shF acc) 5), .int .i64 ((shF acc) 6), .int .i64 ((shF acc) 7), .int .i64 ((shF acc) 8), .int .i64 ((shF acc) 9), .int .i64 ((shF acc) 10), .int .i64 ((shF acc) 11), .int .i64 ((shF acc) 12), .int .i64 ((shF acc) 13)]) (by simp [results, Try.results56, go_sem, z0, z1, z2, z3, z4, z5, z6, z7, z8, z9, z10, z11, z12, z13]) rfl ⟨rfl, hBf⟩
end

/-! (impl.shape).lengths, index, period; impl.leastMultiple. -/
section
open Go.RowKit

theorem ivs_snoc_rep (L : List Int) (j : Nat) (z : Int) : L ++ List.replicate (j + 1) z = (L ++ List.replicate j z) ++ [z] := by
  rw [List.append_assoc, ← List.replicate_succ']
theorem lnC_le (c : Nat → Nat) (h : ∀ l, c l ≤ 12) : ∀ b, (lnC c b).length ≤ 12 * b
  | 0 => by simp [lnC]
  | b + 1 => by
    have ih := lnC_le c h b
    have := h b
    unfold lnC; rw [List.length_append, List.length_replicate]; omega

theorem run_index7 (cs : Array Value) (t : Nat) (v : Value) (ht : t < 7) (hx : cs[t]? = some v) (w : World) : (Instr.index 70 (.agg cs) (.int .i64 (t : Int))).run Try.prog w = .ok v w := by
  obtain ⟨i0, hi, hz0, hz1, hz2⟩ := info_parts info_int
  have hpk : Try.prog.plainKey 3 = true := by kernel_rfl
  have hu : Try.prog.underlying 70 = some (.array 7 3) := Try.underlying70
  have hp : (part 3 cs t).run Try.prog w = .ok v w := run_part_plain w hpk hx
  have h7 : (t : Int) < 7 := by omega
  generalize Try.prog = P at *
  simp [Instr.index, run_underlying hu, asIntOf, h7, sizeOf, typeInfo, hi, hz1, hp]
  intro h; omega

set_option maxHeartbeats 8000000 in
theorem lengths_any (acc : List KW) (k : Nat) (hk : k ≤ 1) (hl : acc.length ≤ 12) (w : World) :
    Calls Try.prog 57 #[.agg #[.int .i64 ((shF acc) 0), .int .i64 ((shF acc) 1), .int .i64 ((shF acc) 2), .int .i64 ((shF acc) 3), .int .i64 ((shF acc) 4), .int .i64 ((shF acc) 5), .int .i64 ((shF acc) 6), .int .i64 ((shF acc) 7), .int .i64 ((shF acc) 8), .int .i64 ((shF acc) 9), .int .i64 ((shF acc) 10), .int .i64 ((shF acc) 11), .int .i64 ((shF acc) 12), .int .i64 ((shF acc) 13)], .int .i64 (k : Int)] w fun e w' => ∃ v, e = .returned v ∧ NewL w (lnC (cnF acc k) 7) v w' := by
  obtain ⟨i0, hi, hz0, hz1, hz2⟩ := info_parts info_int
  have hS := Sb.new w (shF acc)
  have hc12 : ∀ l, cnF acc k l ≤ 12 := fun l => Nat.le_trans (cn_le acc k l) hl
  have hsh : ∀ j, j < 7 → shF acc (k * 7 + j) = ((cnF acc k j : Nat) : Int) := fun j hj => by
    unfold shF; rw [show (k * 7 + j) / 7 = k by omega, show (k * 7 + j) % 7 = j by omega]
  have b0 := hS.at_ (k := k * 7) (by omega)
  have e0 := hsh 0 (by omega)
  rw [Nat.add_zero] at e0
  rw [e0] at b0
  have b1 := hS.at_ (k := k * 7 + 1) (by omega)
  have b2 := hS.at_ (k := k * 7 + 2) (by omega)
  have b3 := hS.at_ (k := k * 7 + 3) (by omega)
  have b4 := hS.at_ (k := k * 7 + 4) (by omega)
  have b5 := hS.at_ (k := k * 7 + 5) (by omega)
  have b6 := hS.at_ (k := k * 7 + 6) (by omega)
  rw [hsh 1 (by omega)] at b1
  rw [hsh 2 (by omega)] at b2
  rw [hsh 3 (by omega)] at b3
  rw [hsh 4 (by omega)] at b4
  rw [hsh 5 (by omega)] at b5
  rw [hsh 6 (by omega)] at b6
  have hB0 : Below w.heap.size w (w.alloc (.cells #[.int .i64 ((shF acc) 0), .int .i64 ((shF acc) 1), .int .i64 ((shF acc) 2), .int .i64 ((shF acc) 3), .int .i64 ((shF acc) 4), .int .i64 ((shF acc) 5), .int .i64 ((shF acc) 6), .int .i64 ((shF acc) 7), .int .i64 ((shF acc) 8), .int .i64 ((shF acc) 9), .int .i64 ((shF acc) 10), .int .i64 ((shF acc) 11), .int .i64 ((shF acc) 12), .int .i64 ((shF acc) 13)] 72)) := (Below.refl _ w).alloc (Nat.le_refl _) _
  have hk2 : (k : Int) < 2 := by omega
  have HC := Lib.hid hc12
  clear hsh hc12 hS e0
  generalize cnF acc k = c at *
  go_enter Try.func57, Try.ntmps57
  go_wp2
  go_loopw [5, 11] (fun v i wr => ∃ t : Nat, t ≤ 7 ∧ i = .int .i64 (t : Int) ∧ wr.ownsRow w.heap.size 3 1 v (lnC c t).length (ivs (lnC c t)) ∧ Below w.heap.size w wr) (fun _ i _ => 7 - (intOf i).toNat)
  case atStart => exact ⟨0, by omega, rfl, World.ownsRow_nil _ _ _ _, hB0⟩
  case round =>
    clear hB0 b0 b1 b2 b3 b4 b5 b6
    obtain ⟨t, ht, rfl, hown, hB⟩ := hrel
    have hle := lnC_le c HC.out t
    have hct := HC.out t
    by_cases hlt : t < 7
    · have hd7 : decide ((t : Int) < 7) = true := by simp; omega
      have HX : Hid (lnC c (t + 1) = lnC c t ++ List.replicate (c t) (t : Int)) := rfl
      have hidx : ∀ W : World, (Instr.index 70 (.agg #[.int .i64 (c 0 : Nat), .int .i64 (c 1 : Nat), .int .i64 (c 2 : Nat), .int .i64 (c 3 : Nat), .int .i64 (c 4 : Nat), .int .i64 (c 5 : Nat), .int .i64 (c 6 : Nat)]) (.int .i64 (t : Int))).run Try.prog W = .ok (.int .i64 ((c t : Nat) : Int)) W := fun W => run_index7 _ t _ hlt (by
        match t, hlt with
        | 0, _ => rfl
        | 1, _ => rfl
        | 2, _ => rfl
        | 3, _ => rfl
        | 4, _ => rfl
        | 5, _ => rfl
        | 6, _ => rfl) W
      go_wp2
      go_loopw [5, 16] (fun v j wq => ∃ q : Nat, q ≤ c t ∧ j = .int .i64 (q : Int) ∧ wq.ownsRow w.heap.size 3 1 v ((lnC c t).length + q) (ivs (lnC c t ++ List.replicate q (t : Int))) ∧ Below w.heap.size w wq) (fun _ j _ => c t - (intOf j).toNat)
      case atStart => exact ⟨0, by omega, rfl, by rw [List.replicate_zero, List.append_nil]; exact hown, hB⟩
      case round =>
        clear hown hB hidx
        obtain ⟨q, hq, rfl, hown, hB⟩ := hrel
        by_cases hqc : q < c t
        · have p1 : (lnC c t).length + q + 1 ≤ maxLen := by unfold maxLen; omega
          have p2 : ((lnC c t).length + q + 1) * 8 ≤ 140737488355328 := by omega
          have p3 : ∀ o : Obj, w.heap.size ≤ (wr.alloc o).heap.size := fun o => by have := hB.size; simp; omega
          have HR : Hid (ivs (lnC c t ++ List.replicate (q + 1) (t : Int)) = ivs (lnC c t ++ List.replicate q (t : Int)) ++ [.int .i64 (t : Int)]) := by show _ = _; rw [ivs_snoc_rep, ivs_snoc]
          go_wp2_with (at_builtin; refine wpList_append_own _ rfl _ _ 23 rfl w.heap.size 3 i0 (.int .i64 0) 1 8 Try.underlying23 hi hz0 hz1 hz2 rfl (by decide) _ _ _ rfl (hown.alloc _) ⟨wr.heap.size, 0, none⟩ 1 1 [.int .i64 (t : Int)] rfl rfl (cell_one_new _ _ _) (by simp [Value.oneCell']) p1 p2 (p3 _) ?_; intro v' w1 hown' hgrow _; have hB' := below_grow hB hown (Nat.le_refl _) hgrow; clear hgrow hown hB)
          go_roundw
          case rel => exact ⟨q + 1, by omega, by go_num, by rw [HR.out]; exact hown', hB'⟩
          case measure => simp [intOf]; omega
        · obtain rfl : q = c t := by omega
          have hl2 : (lnC c (t + 1)).length = (lnC c t).length + c t := by rw [HX.out, List.length_append, List.length_replicate]
          have HL2 := Lib.hid hl2
          clear hl2
          go_wp2
          go_roundw
          case rel => exact ⟨t + 1, by omega, by go_num, by rw [HL2.out, HX.out]; exact hown, hB⟩
          case measure => simp [intOf]; omega
    · obtain rfl : t = 7 := by omega
      go_wp2
      go_ret
      exact ⟨_, rfl, hown, hB⟩

set_option maxHeartbeats 4000000 in
theorem index_any (acc : List KW) (hl : acc.length ≤ 12) (w : World) :
    Calls Try.prog 64 #[.agg #[.int .i64 ((shF acc) 0), .int .i64 ((shF acc) 1), .int .i64 ((shF acc) 2), .int .i64 ((shF acc) 3), .int .i64 ((shF acc) 4), .int .i64 ((shF acc) 5), .int .i64 ((shF acc) 6), .int .i64 ((shF acc) 7), .int .i64 ((shF acc) 8), .int .i64 ((shF acc) 9), .int .i64 ((shF acc) 10), .int .i64 ((shF acc) 11), .int .i64 ((shF acc) 12), .int .i64 ((shF acc) 13)]] w fun e w' => e = .returned (.int .i64 (mxL (lnC (cnF acc 0) 7))) ∧ Below w.heap.size w w' := by
  have hS := Sb.new w (shF acc)
  have hB0 : Below w.heap.size w (w.alloc (.cells #[.int .i64 ((shF acc) 0), .int .i64 ((shF acc) 1), .int .i64 ((shF acc) 2), .int .i64 ((shF acc) 3), .int .i64 ((shF acc) 4), .int .i64 ((shF acc) 5), .int .i64 ((shF acc) 6), .int .i64 ((shF acc) 7), .int .i64 ((shF acc) 8), .int .i64 ((shF acc) 9), .int .i64 ((shF acc) 10), .int .i64 ((shF acc) 11), .int .i64 ((shF acc) 12), .int .i64 ((shF acc) 13)] 72)) := (Below.refl _ w).alloc (Nat.le_refl _) _
  have hle := lnC_le (cnF acc 0) (fun l => Nat.le_trans (cn_le acc 0 l) hl) 7
  have hmm := lnC_mem (cnF acc 0) 7
  go_enter Try.func64, Try.ntmps64
  go_wp2_with fail
  refine (lengths_any acc 0 (by omega) hl _).mono ?_
  rintro e w1 ⟨v, rfl, hown, hb⟩
  have hB1 : Below w.heap.size w w1 := hB0.trans (hb.mono hB0.size)
  have hr : ∃ A c, v = .slice A (lnC (cnF acc 0) 7).length c := by
    obtain ⟨A, c, e⟩ := own_slice hown
    exact ⟨A, c, e⟩
  obtain ⟨A, c, rfl⟩ := hr
  have hRI := RI.of_own hown
  generalize hLe : lnC (cnF acc 0) 7 = L at *
  have HLe := Lib.hid hLe
  clear hLe
  clear hS hB0 hb hown
  go_wp2
  go_loopw [3, 9] (fun x i wr => ∃ t : Nat, t ≤ L.length ∧ i = .int .i64 (t : Int) ∧ x = .int .i64 (mxL (L.take t)) ∧ w1 = wr) (fun _ i _ => L.length - (intOf i).toNat)
  case atStart => exact ⟨0, by omega, rfl, rfl, rfl⟩
  case round =>
    obtain ⟨t, ht, rfl, rfl, rfl⟩ := hrel
    by_cases hlt : t < L.length
    · obtain ⟨ad, rfl, hab, hc⟩ := hRI.at_ hlt
      have HT := Lib.hid (mx_take hlt)
      generalize L[t]?.getD 0 = z at hc HT
      generalize mxL (L.take t) = x at *
      by_cases hxz : x < z
      · rw [if_pos hxz] at HT
        have HX := Lib.hid hxz
        go_wp2
        exact ⟨⟨t + 1, by omega, by go_num, by rw [HT.out], trivial⟩, by simp [intOf]; omega⟩
      · rw [if_neg hxz] at HT
        go_wp2
        exact ⟨⟨t + 1, by omega, by go_num, by rw [HT.out], trivial⟩, by simp [intOf]; omega⟩
    · obtain rfl : t = L.length := by omega
      have HE : Hid (L.take L.length = L) := List.take_length
      go_wp2
      go_ret
      exact ⟨by rw [HE.out, HLe.out]; rfl, hB1⟩

set_option maxHeartbeats 1000000 in
theorem least_any (a b : Nat) (ha : 1 ≤ a) (hb : 1 ≤ b) (hl : Nat.lcm a b ≤ 1000000) (w : World) : Calls Try.prog 86 #[.int .i64 (a : Int), .int .i64 (b : Int)] w fun e w' => e = .returned (.int .i64 (Nat.lcm a b : Nat)) ∧ w = w' := by
  have HD : Hid (∀ x : Nat, a ∣ x → 1 ≤ x → x ≤ Nat.lcm a b → (x % b = 0 → x = Nat.lcm a b) ∧ (x % b ≠ 0 → x + a ≤ Nat.lcm a b)) := fun x h1 h2 h3 => by
    refine ⟨fun h => Nat.le_antisymm h3 (Nat.le_of_dvd (by omega) (Nat.lcm_dvd h1 (Nat.dvd_of_mod_eq_zero h))), fun h => ?_⟩
    obtain ⟨q, hq⟩ := h1
    obtain ⟨r, hr⟩ := Nat.dvd_lcm_left a b
    have hne : x ≠ Nat.lcm a b := fun e => h (Nat.mod_eq_zero_of_dvd (e ▸ Nat.dvd_lcm_right a b))
    rw [hq, hr] at h3 hne ⊢
    have hqr : q < r := by
      apply Classical.byContradiction
      intro hge
      have : a * r ≤ a * q := Nat.mul_le_mul_left a (by omega)
      omega
    calc a * q + a = a * (q + 1) := by rw [Nat.mul_succ]
      _ ≤ a * r := Nat.mul_le_mul_left a (by omega)
  have hal : a ≤ Nat.lcm a b := Nat.le_of_dvd (Nat.lcm_pos (by omega) (by omega)) (Nat.dvd_lcm_left a b)
  have HL : Hid (Nat.lcm a b = Nat.lcm a b) := rfl
  generalize hm : Nat.lcm a b = m at *
  have HM := Lib.hid hm
  clear hm HL
  go_enter Try.func86, Try.ntmps86
  go_wp2
  go_loop [5] (fun x => ∃ y : Nat, x = .int .i64 (y : Int) ∧ a ∣ y ∧ 1 ≤ y ∧ y ≤ m) (fun x => m - (intOf x).toNat)
  case atStart => exact ⟨a, rfl, Nat.dvd_refl _, ha, hal⟩
  case round =>
    obtain ⟨y, rfl, hy1, hy2, hy3⟩ := hrel
    have HY := Lib.hid (HD.out y hy1 hy2 hy3)
    have HV := Lib.hid hy1
    have e4 : (y : Int).tmod (b : Int) = ((y % b : Nat) : Int) := by rw [Int.tmod_eq_emod_of_nonneg (by omega)]; rfl
    have hb0 : (b : Int) ≠ 0 := by omega
    clear hy1
    by_cases hz : y % b = 0
    · rw [hz] at e4
      have HE := Lib.hid (HY.out.1 hz)
      clear hz
      go_wp2
      go_ret
      exact ⟨by rw [← HE.out]; rfl, rfl⟩
    · have hz' : (((y % b : Nat) : Int) != 0) = true := by rw [bne_iff_ne]; omega
      have HE := Lib.hid (HY.out.2 hz)
      have hye := HE.out
      go_wp2
      exact ⟨⟨y + a, by go_num, (Nat.dvd_add_iff_left (Nat.dvd_refl a)).1 HV.out, by omega, hye⟩, by simp [intOf]; omega⟩

set_option maxHeartbeats 4000000 in
theorem period_any (acc : List KW) (hl : acc.length ≤ 12) (h16 : ∀ x ∈ lnC (cnF acc 1) 7, 1 ≤ x ∧ x ≤ 6) (w : World) :
    Calls Try.prog 65 #[.agg #[.int .i64 ((shF acc) 0), .int .i64 ((shF acc) 1), .int .i64 ((shF acc) 2), .int .i64 ((shF acc) 3), .int .i64 ((shF acc) 4), .int .i64 ((shF acc) 5), .int .i64 ((shF acc) 6), .int .i64 ((shF acc) 7), .int .i64 ((shF acc) 8), .int .i64 ((shF acc) 9), .int .i64 ((shF acc) 10), .int .i64 ((shF acc) 11), .int .i64 ((shF acc) 12), .int .i64 ((shF acc) 13)]] w fun e w' => e = .returned (.int .i64 (lcL (lnC (cnF acc 1) 7) : Nat)) ∧ Below w.heap.size w w' := by
  have hS := Sb.new w (shF acc)
  have hB0 : Below w.heap.size w (w.alloc (.cells #[.int .i64 ((shF acc) 0), .int .i64 ((shF acc) 1), .int .i64 ((shF acc) 2), .int .i64 ((shF acc) 3), .int .i64 ((shF acc) 4), .int .i64 ((shF acc) 5), .int .i64 ((shF acc) 6), .int .i64 ((shF acc) 7), .int .i64 ((shF acc) 8), .int .i64 ((shF acc) 9), .int .i64 ((shF acc) 10), .int .i64 ((shF acc) 11), .int .i64 ((shF acc) 12), .int .i64 ((shF acc) 13)] 72)) := (Below.refl _ w).alloc (Nat.le_refl _) _
  go_enter Try.func65, Try.ntmps65
  go_wp2_with fail
  refine (lengths_any acc 1 (by omega) hl _).mono ?_
  rintro e w1 ⟨v, rfl, hown, hb⟩
  have hB1 : Below w.heap.size w w1 := hB0.trans (hb.mono hB0.size)
  have hle := lnC_le (cnF acc 1) (fun l => Nat.le_trans (cn_le acc 1 l) hl) 7
  have hr : ∃ A c, v = .slice A (lnC (cnF acc 1) 7).length c := by
    obtain ⟨A, c, e⟩ := own_slice hown
    exact ⟨A, c, e⟩
  obtain ⟨A, c, rfl⟩ := hr
  have hRI := RI.of_own hown
  generalize hLe : lnC (cnF acc 1) 7 = L at *
  have HLe := Lib.hid hLe
  have h60 : ∀ t, lcL (L.take t) ∣ 60 := fun t => lcL_60 (fun x hx => h16 x (List.mem_of_mem_take hx))
  clear hS hB0 hb hown hLe
  go_wp2
  go_loopw [3, 9] (fun x i wr => ∃ t : Nat, t ≤ L.length ∧ i = .int .i64 (t : Int) ∧ x = .int .i64 (lcL (L.take t) : Nat) ∧ w1 = wr) (fun _ i _ => L.length - (intOf i).toNat)
  case atStart => exact ⟨0, by omega, rfl, rfl, rfl⟩
  case round =>
    obtain ⟨t, ht, rfl, rfl, rfl⟩ := hrel
    by_cases hlt : t < L.length
    · obtain ⟨ad, rfl, hab, hc⟩ := hRI.at_ hlt
      have hz := h16 (L[t]?.getD 0) (by rw [List.getElem?_eq_getElem hlt]; exact List.getElem_mem _)
      have HT : Hid (lcL (L.take (t + 1)) = Nat.lcm (lcL (L.take t)) (L[t]?.getD 0).toNat) := by show _ = _; rw [take_snoc_get L hlt, lcL_snoc]
      have h1 := h60 t
      have h2 := h60 (t + 1)
      rw [HT.out] at h2
      generalize L[t]?.getD 0 = z at hc HT hz h2
      obtain ⟨u, rfl⟩ := Int.eq_ofNat_of_zero_le (show 0 ≤ z by omega)
      rw [Int.toNat_natCast] at HT h2
      have hp1 : 1 ≤ lcL (L.take t) := Nat.pos_of_dvd_of_pos h1 (by omega)
      have hp2 := Nat.le_of_dvd (by omega) h2
      generalize lcL (L.take t) = x at *
      clear h60 h1 h2
      go_wp2_with fail
      refine (least_any x u hp1 (by omega) (by omega) _).mono ?_
      rintro e w' ⟨rfl, rfl⟩
      go_wp2
      exact ⟨⟨t + 1, by omega, by go_num, by rw [HT.out], trivial⟩, by simp [intOf]; omega⟩
    · obtain rfl : t = L.length := by omega
      have HE : Hid (L.take L.length = L) := List.take_length
      go_wp2
      go_ret
      exact ⟨by rw [HE.out, HLe.out]; rfl, hB1⟩
end

/-! impl.WaysIndex, impl.WaysPeriod. -/
section
open Go.RowKit

/-- the ways of a chart with their kinds -/
def accL (zs : List Int) : List KW := if isC zs = true then kwL (ofL zs) zs.length (raN zs) else []
theorem accL_len (zs : List Int) : (accL zs).length ≤ 12 := by
  unfold accL
  split
  · rename_i h
    have h6 := (isC_CH h).six
    unfold kwL; rw [List.length_append, List.length_map, List.length_map]
    have h1 := chL_le (ofL zs) zs.length (raN zs) zs.length
    have h2 := cyL_le (ofL zs) zs.length (orSS 0 (chL (ofL zs) zs.length (raN zs) zs.length)) zs.length
    omega
  · simp
theorem accL_in (zs : List Int) : ∀ x ∈ accL zs, x.1 ≤ 1 ∧ 1 ≤ x.2.length ∧ x.2.length ≤ 6 := fun x hx => by
  unfold accL at hx
  split at hx
  · rename_i h
    have hF := isC_CH h
    unfold kwL at hx
    rcases List.mem_append.1 hx with hx | hx <;> obtain ⟨L, hL, rfl⟩ := List.mem_map.1 hx
    · have := chL_lens (m := raN zs) hF zs.length (Nat.le_refl _) (L.length : Int) (List.mem_map.2 ⟨L, hL, rfl⟩)
      exact ⟨by omega, by simp only; omega, by simp only; omega⟩
    · have := cyL_lens (q := orSS 0 (chL (ofL zs) zs.length (raN zs) zs.length)) hF zs.length (Nat.le_refl _) (L.length : Int) (List.mem_map.2 ⟨L, hL, rfl⟩)
      exact ⟨by omega, by simp only; omega, by simp only; omega⟩
  · cases hx
theorem accL_yes {zs : List Int} (h : isC zs = true) : accL zs = kwL (ofL zs) zs.length (raN zs) := by simp [accL, h]
theorem accL_no {zs : List Int} (h : isC zs = false) : accL zs = [] := by simp [accL, h]
theorem acc_C {zs : List Int} (h : isC zs = true) : lnC (cnF (accL zs) 0) 7 = shC zs.length (ofL zs) (raN zs) ∧ lnC (cnF (accL zs) 1) 7 = shY zs.length (ofL zs) (raN zs) := by
  have hF := isC_CH h
  rw [accL_yes h]
  exact ⟨lnC_srt (chL_lens hF _ (Nat.le_refl _)) (fun l => (cn_kw _ _ _ l).1), lnC_srt (cyL_lens hF _ (Nat.le_refl _)) (fun l => (cn_kw _ _ _ l).2)⟩
theorem acc_none (k : Nat) : lnC (cnF [] k) 7 = [] := rfl
theorem acc_in1 (zs : List Int) : ∀ x ∈ lnC (cnF (accL zs) 1) 7, 1 ≤ x ∧ x ≤ 6 := by
  cases h : isC zs
  · rw [accL_no h, acc_none]; intro x hx; cases hx
  · rw [(acc_C h).2]; intro x hx
    exact cyL_lens (isC_CH h) _ (Nat.le_refl _) x (srt_mem.1 hx)
theorem mx_acc (zs : List Int) : mxL (lnC (cnF (accL zs) 0) 7) = (idxL zs : Nat) := by
  cases h : isC zs
  · rw [accL_no h, acc_none]; simp [idxL, h, mxL]
  · rw [(acc_C h).1, idx_mx (isC_CH h) (raN_range h)]; simp [idxL, h]
theorem lc_acc {zs : List Int} (h : isC zs = true) : lcL (lnC (cnF (accL zs) 1) 7) = perL zs := by
  rw [(acc_C h).2, per_lc (isC_CH h) (raN_range h)]; simp [perL, h]

/-- the ways of what impl.chartOf hands back -/
theorem ways_say (zs : List Int) (T : Nat → Int) (hT : ∀ j, j < 6 → T j = fT zs j) : WaysSay (fk zs) T (accL zs) := fun w => by
  cases h : isC zs
  · rw [accL_no h, fk_no h]
    refine (ways0_any T w).mono ?_
    rintro e w' ⟨rfl, hb⟩
    exact ⟨_, [], rfl, rfl, ⟨World.ownsRow_nil _ _ _ _, fun p hp => by cases hp⟩, hb⟩
  · rw [accL_yes h, fk_yes h]
    have hT' : ∀ j, j < 6 → T j = ofL zs j := fun j hj => by rw [hT j hj, fT_yes h]
    rw [hT' 0 (by omega), hT' 1 (by omega), hT' 2 (by omega), hT' 3 (by omega), hT' 4 (by omega), hT' 5 (by omega)]
    refine (ways_any zs.length (ofL zs) (isC_CH h) (raN zs) (raN_is h) w).mono ?_
    rintro e w' ⟨v, ps, rfl, hps, hW, hb⟩
    exact ⟨v, ps, rfl, by rw [hps, go_all (isC_CH h) (raN_range h)], hW, hb⟩

set_option maxHeartbeats 4000000 in
theorem implIndex_any (A : Option Addr) (n c : Nat) (zs : List Int) (w : World) (h : RI w A n zs) (hn : n ≤ 1048576) :
    Calls Try.prog 27 #[.slice A n c] w fun e w' => e = .returned (.tuple #[.int .i64 (idxL zs : Nat), .bool (isC zs)]) ∧ Below w.heap.size w w' := by
  have HX := Lib.hid (mx_acc zs)
  go_enter Try.func27, Try.ntmps27
  go_wp2_with fail
  refine (chartOf_any _ _ _ _ _ h).mono ?_
  rintro e w1 ⟨m, T, rfl, hy, hno, hb⟩
  obtain ⟨rfl, hT⟩ := of_facts hy hno
  have hW := Lib.hid (ways_say zs T hT)
  have hB := hb.alloc hb.size (.cells #[.int .i64 ((fk zs : Int)), .int .i64 (T 0), .int .i64 (T 1), .int .i64 (T 2), .int .i64 (T 3), .int .i64 (T 4), .int .i64 (T 5)] 49)
  obtain ⟨a0, a1, a2, a3, a4, a5, a6⟩ := (Cb.new w1 (fk zs : Int) T).all
  clear hy hno hb hT h
  generalize fk zs = m at *
  go_wp2_with fail
  refine (shape_any m T (accL zs) (accL_in zs) (accL_len zs) hW.out _).mono ?_
  rintro e w2 ⟨rfl, hb2⟩
  have hB2 := hB.trans (hb2.mono hB.size)
  go_wp2_with fail
  refine (index_any (accL zs) (accL_len zs) _).mono ?_
  rintro e w3 ⟨rfl, hb3⟩
  have hB3 := hB2.trans (hb3.mono hB2.size)
  rw [HX.out]
  clear hB hB2 hb2 hb3 a0 a1 a2 a3 a4 a5 a6
  go_wp2
  go_ret2
  exact ⟨rfl, hB3⟩

set_option maxHeartbeats 4000000 in
theorem implPeriod_any (A : Option Addr) (n c : Nat) (zs : List Int) (w : World) (h : RI w A n zs) (hn : n ≤ 1048576) :
    Calls Try.prog 28 #[.slice A n c] w fun e w' => e = .returned (.tuple #[.int .i64 (perL zs : Nat), .bool (isC zs)]) ∧ Below w.heap.size w w' := by
  cases hC : isC zs
  · have HP : Hid (perL zs = 0) := by show _ = _; simp [perL, hC]
    have HC := Lib.hid hC
    clear hC
    go_enter Try.func28, Try.ntmps28
    go_wp2_with fail
    refine (chartOf_any _ _ _ _ _ h).mono ?_
    rintro e w1 ⟨m, T, rfl, hy, hno, hb⟩
    rw [HC.out]
    have hB := hb.alloc hb.size (.cells #[.int .i64 ((m : Int)), .int .i64 (T 0), .int .i64 (T 1), .int .i64 (T 2), .int .i64 (T 3), .int .i64 (T 4), .int .i64 (T 5)] 49)
    clear hy hno hb
    go_wp2
    go_ret2
    exact ⟨by rw [HP.out]; rfl, hB⟩
  · have HX := Lib.hid (lc_acc hC)
    have HC := Lib.hid hC
    clear hC
    go_enter Try.func28, Try.ntmps28
    go_wp2_with fail
    refine (chartOf_any _ _ _ _ _ h).mono ?_
    rintro e w1 ⟨m, T, rfl, hy, hno, hb⟩
    rw [HC.out]
    obtain ⟨rfl, hT⟩ := of_facts hy hno
    have hW := Lib.hid (ways_say zs T hT)
    have hB := hb.alloc hb.size (.cells #[.int .i64 ((fk zs : Int)), .int .i64 (T 0), .int .i64 (T 1), .int .i64 (T 2), .int .i64 (T 3), .int .i64 (T 4), .int .i64 (T 5)] 49)
    obtain ⟨a0, a1, a2, a3, a4, a5, a6⟩ := (Cb.new w1 (fk zs : Int) T).all
    clear hy hno hb hT h
    generalize fk zs = m at *
    go_wp2_with fail
    refine (shape_any m T (accL zs) (accL_in zs) (accL_len zs) hW.out _).mono ?_
    rintro e w2 ⟨rfl, hb2⟩
    have hB2 := hB.trans (hb2.mono hB.size)
    go_wp2_with fail
    refine (period_any (accL zs) (accL_len zs) (acc_in1 zs) _).mono ?_
    rintro e w3 ⟨rfl, hb3⟩
    have hB3 := hB2.trans (hb3.mono hB2.size)
    rw [HX.out]
    clear hB hB2 hb2 hb3 a0 a1 a2 a3 a4 a5 a6
    go_wp2
    go_ret2
    exact ⟨rfl, hB3⟩
end

end Go.Proofs.Ytckppfgooflooab
