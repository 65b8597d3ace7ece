/-
  The exact laws' own functions: marks laid into a slice, marks asked.
-/
import Derived.Test.YtdmobfjcbjengaaSpecA
namespace Go.Proofs.Ytdmobfjcbjengaa
open Go.RowKit

/-- the marks k, k + 1, .. -/
def mk (k : Nat) (j : Nat) : Int := ((k + j : Nat) : Int)
/-- what a list holds when the first t places bear marks -/
def mkP (k : Nat) (zs : List Int) (t j : Nat) : Int := if j < t then mk k j else ofL zs j
theorem mkP_step (k n : Nat) (zs : List Int) (t : Nat) (ht : t < n) : (ivs (LT n (mkP k zs t))).set t (.int .i64 ((k + t : Nat) : Int)) = ivs (LT n (mkP k zs (t + 1))) := by
  unfold ivs
  rw [← List.map_set, LT_set ht]
  congr 1
  refine LT_congr (fun j _ => ?_)
  unfold mkP
  by_cases e : j = t
  · subst e; simp [mk]
  · by_cases h : j < t
    · simp [e, h, show j < t + 1 by omega]
    · simp [e, h, show ¬ j < t + 1 by omega]
theorem mkP_all (k n : Nat) (zs : List Int) : LT n (mkP k zs n) = LT n (mk k) := LT_congr (fun j hj => by simp [mkP, hj])
theorem mkP_none (k n : Nat) (zs : List Int) (h : zs.length = n) : LT n (mkP k zs 0) = zs := by
  rw [← LT_ofL h]; exact LT_congr (fun j hj => by simp [mkP, ofL, LT, hj])




theorem own_below {w w' : World} {base size n : Nat} {e : TypeId} {v : Value} {xs : List Value} (h : w.ownsRow base e size v n xs) (hb : Below w.heap.size w w') : w'.ownsRow base e size v n xs :=
  h.kept (row := none) ⟨hb.os, hb.tape, hb.output, hb.size, fun k hk _ => hb.block k hk⟩ (by cases v.ownBlock <;> simp)
theorem own_slice {w : World} {base size n : Nat} {e : TypeId} {v : Value} {xs : List Value} (h : w.ownsRow base e size v n xs) : ∃ (A : Option Addr) (c : Nat), v = .slice A n c := by
  rcases h.2 with ⟨rfl, rfl⟩ | ⟨g, cap, cur, rfl, _⟩
  · exact ⟨none, 0, rfl⟩
  · exact ⟨_, _, rfl⟩
/-- a store into rows of the call's own: what lay below stays -/
theorem below_grown {w wr w1 : World} {base size n : Nat} {e : TypeId} {v : Value} {xs : List Value} (hB : Below w.heap.size w wr) (h : wr.ownsRow base e size v n xs) (hb : w.heap.size ≤ base) (hg : wr.grownBy w1 v.ownBlock) : Below w.heap.size w w1 :=
  hB.grown hg hB.size (fun k hk => Nat.le_trans hb (h.lt k hk).1)
/-- another row, all of whose blocks lie elsewhere, stays -/
theorem own_apart {w w' : World} {base base' size size' n n' : Nat} {e e' : TypeId} {v v' : Value} {xs xs' : List Value} (h : w.ownsRow base e size v n xs) (h' : w.ownsRow base' e' size' v' n' xs') (hg : w.grownBy w' v'.ownBlock)
    (hne : ∀ g, v.ownBlock = some g → v'.ownBlock = some g → False) : w'.ownsRow base e size v n xs :=
  h.kept hg (by
    cases hv : v.ownBlock with
    | none => exact .inl rfl
    | some g => exact .inr (fun e => hne g hv e.symm))
/-- two rows, the one made before the other -/
theorem apart_of {w w0 : World} {base base' size size' n n' : Nat} {e e' : TypeId} {v v' : Value} {xs xs' : List Value} (h : w0.ownsRow base e size v n xs) (hle : w0.heap.size ≤ base') (h' : w.ownsRow base' e' size' v' n' xs') :
    ∀ g, v.ownBlock = some g → v'.ownBlock = some g → False := fun g h1 h2 => by
  have a := (h.lt g h1).2
  have b := (h'.lt g h2).1
  omega
theorem ri_grown {w w' : World} {A : Option Addr} {n : Nat} {zs : List Int} {v : Value} {base : Nat} {size n' : Nat} {e : TypeId} {xs : List Value} (h : Reads w base 1 A n (ivs zs)) (hg : w.grownBy w' v.ownBlock) (h' : w.ownsRow base e size v n' xs) (hbs : base ≤ w.heap.size) : Reads w' base 1 A n (ivs zs) :=
  h.grown hg hbs (fun g e => (h'.lt g e).1)
end Go.Proofs.Ytdmobfjcbjengaa
