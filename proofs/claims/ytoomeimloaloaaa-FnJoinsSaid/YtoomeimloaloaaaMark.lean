/-
  The exact laws' own functions: marks laid into a slice, marks asked.
-/
import Derived.Test.YtoomeimloaloaaaSpecA
namespace Go.Proofs.Ytoomeimloaloaaa
set_option maxRecDepth 100000
open Go.RowKit

/-- the marks k, k + 1, .. -/
def mk (k : Nat) (j : Nat) : Int := ((k + j : Nat) : Int)
/-- what a list holds when the first t places bear marks -/
def mkP (k : Nat) (zs : List Int) (t j : Nat) : Int := if j < t then mk k j else ofL zs j
theorem mkP_step (k n : Nat) (zs : List Int) (t : Nat) (ht : t < n) : (ivs (LT n (mkP k zs t))).set t (.int .i64 ((k + t : Nat) : Int)) = ivs (LT n (mkP k zs (t + 1))) := by
  unfold ivs
  rw [← List.map_set, LT_set ht]
  congr 1
  refine LT_congr (fun j _ => ?_)
  unfold mkP
  by_cases e : j = t
  · subst e; simp [mk]
  · by_cases h : j < t
    · simp [e, h, show j < t + 1 by omega]
    · simp [e, h, show ¬ j < t + 1 by omega]
theorem mkP_all (k n : Nat) (zs : List Int) : LT n (mkP k zs n) = LT n (mk k) := LT_congr (fun j hj => by simp [mkP, hj])
theorem mkP_none (k n : Nat) (zs : List Int) (h : zs.length = n) : LT n (mkP k zs 0) = zs := by
  rw [← LT_ofL h]; exact LT_congr (fun j hj => by simp [mkP, ofL, LT, hj])

set_option maxHeartbeats 400000 in
theorem mark_any (base : Nat) (A : Option Addr) (n c k : Nat) (zs : List Int) (w : World) (h : w.ownsRow base 3 1 (.slice A n c) n (ivs zs)) (hk : k ≤ 4194304) (hn : n ≤ 1048576) :
    Calls Try.prog 13 #[.slice A n c, .int .i64 k] w fun e w' => e = .returned (.int .i64 ((k + n : Nat) : Int)) ∧ w'.ownsRow base 3 1 (.slice A n c) n (ivs (LT n (mk k))) ∧ w.grownBy w' (Value.slice A n c).ownBlock := by
  have hzl : zs.length = n := by have := h.1; simpa [ivs] using this
  by_cases hn0 : n = 0
  · subst hn0
    have hz : zs = [] := List.eq_nil_of_length_eq_zero hzl
    subst hz
    go_enter Try.func13, Try.ntmps13
    go_wp2
    refine wp_loop_rounds 1 ?_; rw [rounds_succ]
    go_wp2
    go_ret
    exact ⟨rfl, h, World.grownBy.refl w _⟩
  obtain ⟨g, cp, he, hgb, hgl⟩ := h.form (by omega)
  injection he with he1 he2 he3
  subst he1 he3
  have hs : w.ownsRow base 3 1 (.slice (some ⟨g, 0, none⟩) n c) n (ivs (LT n (mkP k zs 0))) := by rw [mkP_none k n zs hzl]; exact h
  have HA := Lib.hid (mkP_all k n zs)
  have HS := Lib.hid (mkP_step k n zs)
  go_enter Try.func13, Try.ntmps13
  go_wp2
  go_loopw [1, 5] (fun q i wr => ∃ t : Nat, t ≤ n ∧ i = .int .i64 t ∧ q = .int .i64 ((k + t : Nat) : Int) ∧ wr.ownsRow base 3 1 (.slice (some ⟨g, 0, none⟩) n c) n (ivs (LT n (mkP k zs t))) ∧ w.grownBy wr (some g)) (fun _ i _ => n - (intOf i).toNat)
  case atStart => exact ⟨0, Nat.zero_le _, rfl, rfl, hs, World.grownBy.refl w _⟩
  case round =>
    clear h hs
    obtain ⟨t, ht, rfl, rfl, hown, hg⟩ := hrel
    by_cases hlt : t < n
    · have ho := hown.cellAt t (by omega)
      have hf := hown.frozenAt t
      obtain ⟨u, hu⟩ : ∃ u, (ivs (LT n (mkP k zs t)))[t]? = some u := ⟨_, List.getElem?_eq_getElem (by simp [ivs, LT]; omega)⟩
      rw [hu] at ho
      have hst := hown.stored t (.int .i64 ((k + t : Nat) : Int))
      rw [HS.out t hlt] at hst
      have HST := Lib.hid hst.1
      have hg' := hg.trans hst.2
      clear hst hu hown hg
      go_wp2
      go_roundw
      case rel => exact ⟨t + 1, by omega, by go_num, by go_num, HST.out, hg'⟩
      case measure => simp [intOf]; omega
    · obtain rfl : t = n := by omega
      rw [HA.out] at hown
      go_wp2
      go_ret
      exact ⟨rfl, hown, hg⟩

set_option maxHeartbeats 400000 in
theorem held_any (A : Option Addr) (n c k : Nat) (w : World) (h : RI w A n (LT n (mk k))) (hk : k ≤ 4194304) (hn : n ≤ 1048576) :
    Calls Try.prog 14 #[.slice A n c, .int .i64 k] w fun e w' => e = .returned (.int .i64 ((k + n : Nat) : Int)) ∧ w = w' := by
  go_enter Try.func14, Try.ntmps14
  go_wp2
  go_loop [1, 5] (fun q i => ∃ t : Nat, t ≤ n ∧ i = .int .i64 t ∧ q = .int .i64 ((k + t : Nat) : Int)) (fun _ i => n - (intOf i).toNat)
  case atStart => exact ⟨0, Nat.zero_le _, rfl, rfl⟩
  case round =>
    obtain ⟨t, ht, rfl, rfl⟩ := hrel
    by_cases hlt : t < n
    · obtain ⟨ad, rfl, hab, hc⟩ := h.at_ hlt
      rw [LT_get _ _ _ hlt] at hc
      unfold mk at hc
      clear h
      go_wp2
      go_round
      case rel => exact ⟨t + 1, by omega, by go_num, by go_num⟩
      case measure => simp [intOf]; omega
    · obtain rfl : t = n := by omega
      go_wp2
      go_ret
      exact ⟨rfl, rfl⟩

theorem mark_at (base : Nat) (A : Option Addr) (n c k : Nat) (K : Int) (zs : List Int) (w : World) (h : w.ownsRow base 3 1 (.slice A n c) n (ivs zs)) (hK : K = (k : Int)) (hk : k ≤ 4194304) (hn : n ≤ 1048576) :
    Calls Try.prog 13 #[.slice A n c, .int .i64 K] w fun e w' => e = .returned (.int .i64 ((k + n : Nat) : Int)) ∧ w'.ownsRow base 3 1 (.slice A n c) n (ivs (LT n (mk k))) ∧ w.grownBy w' (Value.slice A n c).ownBlock := by
  subst hK; exact mark_any base A n c k zs w h hk hn
theorem held_at (A : Option Addr) (n c k : Nat) (K : Int) (w : World) (h : RI w A n (LT n (mk k))) (hK : K = (k : Int)) (hk : k ≤ 4194304) (hn : n ≤ 1048576) :
    Calls Try.prog 14 #[.slice A n c, .int .i64 K] w fun e w' => e = .returned (.int .i64 ((k + n : Nat) : Int)) ∧ w = w' := by
  subst hK; exact held_any A n c k w h hk hn

theorem own_below {w w' : World} {base size n : Nat} {e : TypeId} {v : Value} {xs : List Value} (h : w.ownsRow base e size v n xs) (hb : Below w.heap.size w w') : w'.ownsRow base e size v n xs :=
  h.kept (row := none) ⟨hb.os, hb.tape, hb.output, hb.size, fun k hk _ => hb.block k hk⟩ (by cases v.ownBlock <;> simp)
theorem own_slice {w : World} {base size n : Nat} {e : TypeId} {v : Value} {xs : List Value} (h : w.ownsRow base e size v n xs) : ∃ (A : Option Addr) (c : Nat), v = .slice A n c := by
  rcases h.2 with ⟨rfl, rfl⟩ | ⟨g, cap, cur, rfl, _⟩
  · exact ⟨none, 0, rfl⟩
  · exact ⟨_, _, rfl⟩
/-- a store into rows of the call's own: what lay below stays -/
theorem below_grown {w wr w1 : World} {base size n : Nat} {e : TypeId} {v : Value} {xs : List Value} (hB : Below w.heap.size w wr) (h : wr.ownsRow base e size v n xs) (hb : w.heap.size ≤ base) (hg : wr.grownBy w1 v.ownBlock) : Below w.heap.size w w1 :=
  hB.grown hg hB.size (fun k hk => Nat.le_trans hb (h.lt k hk).1)
/-- another row, all of whose blocks lie elsewhere, stays -/
theorem own_apart {w w' : World} {base base' size size' n n' : Nat} {e e' : TypeId} {v v' : Value} {xs xs' : List Value} (h : w.ownsRow base e size v n xs) (_h' : w.ownsRow base' e' size' v' n' xs') (hg : w.grownBy w' v'.ownBlock)
    (hne : ∀ g, v.ownBlock = some g → v'.ownBlock = some g → False) : w'.ownsRow base e size v n xs :=
  h.kept hg (by
    cases hv : v.ownBlock with
    | none => exact .inl rfl
    | some g => exact .inr (fun e => hne g hv e.symm))
/-- two rows, the one made before the other -/
theorem apart_of {w w0 : World} {base base' size size' n n' : Nat} {e e' : TypeId} {v v' : Value} {xs xs' : List Value} (h : w0.ownsRow base e size v n xs) (hle : w0.heap.size ≤ base') (h' : w.ownsRow base' e' size' v' n' xs') :
    ∀ g, v.ownBlock = some g → v'.ownBlock = some g → False := fun g h1 h2 => by
  have a := (h.lt g h1).2
  have b := (h'.lt g h2).1
  omega
theorem ri_grown {w w' : World} {A : Option Addr} {n : Nat} {zs : List Int} {v : Value} {base : Nat} {size n' : Nat} {e : TypeId} {xs : List Value} (h : Reads w base 1 A n (ivs zs)) (hg : w.grownBy w' v.ownBlock) (h' : w.ownsRow base e size v n' xs) (hbs : base ≤ w.heap.size) : Reads w' base 1 A n (ivs zs) :=
  h.grown hg hbs (fun g e => (h'.lt g e).1)
end Go.Proofs.Ytoomeimloaloaaa
