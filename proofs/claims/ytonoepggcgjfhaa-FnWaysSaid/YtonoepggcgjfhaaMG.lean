/-
  I2A I2B I2C.
-/
import Derived.Test.YtonoepggcgjfhaaMB
import Derived.Test.YtonoepggcgjfhaaMC
import Derived.Test.YtonoepggcgjfhaaME
namespace Go.Proofs.Ytonoepggcgjfhaa
set_option maxRecDepth 100000
set_option linter.unusedVariables false
set_option linter.unusedSimpArgs false
set_option linter.unusedSectionVars false

/-! impl of chapter 2: the number of all charts, powers. -/
section
open Go.RowKit

/-- the loop of impl.ChartNumber -/
def tnS (n : Nat) : Nat → Nat × Nat
  | 0 => (1, 1)
  | k + 1 => let s := tnS n k; (s.1 * (n - k) * (n - k) / (k + 1), s.2 + s.1 * (n - k) * (n - k) / (k + 1))
theorem tnS_fin : ∀ (n : Fin 13) (k : Fin 14), (tnS n.val k.val).1 < 1000000000000 ∧ (tnS n.val k.val).2 < 1000000000000 := by decide +kernel
theorem tn_num : ∀ n : Fin 13, (tnS n.val n.val).2 = numN n.val := by decide +kernel


/-! ### powers -/
theorem Cb.full {W : World} {b : Nat} {n n0 : Int} {T T0 : Nat → Int} (hR : Cb W b n0 T0) : Cb ((((((((W).setCell ⟨b, 0, none⟩ (.int .i64 (n))).setCell ⟨b, 1, none⟩ (.int .i64 (T 0))).setCell ⟨b, 2, none⟩ (.int .i64 (T 1))).setCell ⟨b, 3, none⟩ (.int .i64 (T 2))).setCell ⟨b, 4, none⟩ (.int .i64 (T 3))).setCell ⟨b, 5, none⟩ (.int .i64 (T 4))).setCell ⟨b, 6, none⟩ (.int .i64 (T 5))) b n T := by
  refine World.rowIs.congr (World.rowIs.set (World.rowIs.set (World.rowIs.set (World.rowIs.set (World.rowIs.set (World.rowIs.set (World.rowIs.set hR 0 _) 1 _) 2 _) 3 _) 4 _) 5 _) 6 _) (fun j hj => ?_)
  match j, hj with
  | 0, _ => rfl
  | 1, _ => rfl
  | 2, _ => rfl
  | 3, _ => rfl
  | 4, _ => rfl
  | 5, _ => rfl
  | 6, _ => rfl
theorem Cb.full_other {W : World} {b b' : Nat} {n n' : Int} {T T' : Nat → Int} (h : Cb W b' n' T') (hne : b' ≠ b) : Cb ((((((((W).setCell ⟨b, 0, none⟩ (.int .i64 (n))).setCell ⟨b, 1, none⟩ (.int .i64 (T 0))).setCell ⟨b, 2, none⟩ (.int .i64 (T 1))).setCell ⟨b, 3, none⟩ (.int .i64 (T 2))).setCell ⟨b, 4, none⟩ (.int .i64 (T 3))).setCell ⟨b, 5, none⟩ (.int .i64 (T 4))).setCell ⟨b, 6, none⟩ (.int .i64 (T 5))) b' n' T' :=
  ((((((h.other hne _).other hne _).other hne _).other hne _).other hne _).other hne _).other hne _

end

/-! impl of chapter 2: WaysPower, GreenHolds. -/
section
open Go.RowKit

theorem ipw_congr {n : Nat} {F G : Nat → Int} (hF : CH n F) (h : ∀ j, j < n → F j = G j) (q : Nat) {j : Nat} (hj : j < n) : pwF n F q j = pwF n G q j := by
  rw [pw_it hF hj, pw_it (hF.congr h) hj, it_congr hF h hj]

end

/-! impl of chapter 2: GreenHolds. -/
section
open Go.RowKit

theorem pairB {W : World} {B : Nat} {a : World} (h : Below B a W) (hs : B ≤ W.heap.size) (o o' : Obj) : Below B a ((W.alloc o).alloc o') := (h.alloc hs o).alloc (by simp; omega) o'

theorem nat_beq (x y : Nat) : ((x : Int) == (y : Int)) = decide (x = y) := by cases e : decide (x = y) <;> simp at e ⊢ <;> omega

end

end Go.Proofs.Ytonoepggcgjfhaa
