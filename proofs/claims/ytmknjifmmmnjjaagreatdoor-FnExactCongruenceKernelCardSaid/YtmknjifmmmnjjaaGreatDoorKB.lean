/-
  Km.
-/
import Derived.Maps.OwnSet
import Derived.Test.YtmknjifmmmnjjaaGreatDoorNE
import Derived.Test.YtmknjifmmmnjjaaGreatDoorKA
namespace Go.Proofs.YtmknjifmmmnjjaaGreatDoor
set_option maxRecDepth 100000
set_option linter.unusedVariables false
set_option linter.unusedSimpArgs false
set_option linter.unusedSectionVars false

/-! Marks on classes: a map in which each class keeps the first mark that it is given. Mathematics: no program. -/
section
set_option linter.unusedSectionVars false
open Go.Maps

section
variable {H : Type}
/-- a mark is put where there is none -/
def mrk (D : DataW H) (x : Lit) (v : Int) : DataW H := if Maps.has D x = true then D else D.put x (.lit (.int .i64 v))
/-- the mark that is there then -/
def mrkV (D : DataW H) (x : Lit) (v z : Int) : Prop := (Maps.has D x = true → D.atKey x (.lit (.int .i64 0)) = .lit (.int .i64 z)) ∧ (Maps.has D x = false → z = v)
theorem mrk_tidy {D : DataW H} (h : Maps.Tidy D) {x : Lit} (hx : WideAt.IsKeyLit x) (v : Int) : Maps.Tidy (mrk D x v) := by
  unfold mrk; split
  · exact h
  · exact h.put hx _
theorem mrk_has {D : DataW H} (h : Maps.Tidy D) {x : Lit} (hx : WideAt.IsKeyLit x) (v : Int) (y : Lit) : Maps.has (mrk D x v) y = true ↔ Maps.has D y = true ∨ y = x := by
  unfold mrk
  by_cases hh : Maps.has D x = true
  · rw [if_pos hh]
    constructor
    · exact .inl
    · rintro (h | rfl)
      · exact h
      · exact hh
  · rw [if_neg hh]
    by_cases e : y = x
    · subst e
      rw [Maps.has_put_same h.isMap hx]
      exact ⟨fun _ => .inr rfl, fun _ => rfl⟩
    · rw [Maps.has_put_other e]
      exact ⟨.inl, fun h => h.elim id (fun h => absurd h e)⟩
theorem mrk_old {D : DataW H} {x y : Lit} (v : Int) (hy : Maps.has D y = true) (u : DataW H) : (mrk D x v).atKey y u = D.atKey y u := by
  unfold mrk
  by_cases hh : Maps.has D x = true
  · rw [if_pos hh]
  · rw [if_neg hh]
    have hne : y ≠ x := fun e => hh (by rw [← e]; exact hy)
    exact Maps.atKey_put_other hne _ _
theorem mrk_new {D : DataW H} (h : Maps.Tidy D) {x : Lit} (hx : WideAt.IsKeyLit x) {v z : Int} (hv : mrkV D x v z) : (mrk D x v).atKey x (.lit (.int .i64 0)) = .lit (.int .i64 z) := by
  by_cases hh : Maps.has D x = true
  · rw [mrk_old v hh]; exact hv.1 hh
  · unfold mrk
    have e : z = v := hv.2 (by cases e : Maps.has D x <;> simp_all)
    rw [if_neg hh, Maps.atKey_put_same h.isMap hx, e]
theorem mrk_size {D : DataW H} (h : Maps.Tidy D) (x : Lit) (v : Int) : Maps.size (mrk D x v) = if Maps.has D x then Maps.size D else Maps.size D + 1 := by
  unfold mrk
  cases e : Maps.has D x with
  | true => simp
  | false => rw [if_neg (by simp), Maps.size_put h, e]
end
section
variable {H : Type} {α : Type} [DecidableEq α]
/-- the marks of the first k of some classes -/
def mrD (c : Nat → α) (kf : α → Lit) (v : Nat → Int) : Nat → DataW H
  | 0 => .map []
  | k + 1 => mrk (mrD c kf v k) (kf (c k)) (v k)
variable {c : Nat → α} {kf : α → Lit} {v : Nat → Int} {n : Nat}
theorem mrD_tidy (hk : ∀ x, WideAt.IsKeyLit (kf x)) : ∀ k, Maps.Tidy (mrD (H := H) c kf v k)
  | 0 => Maps.tidy_empty
  | k + 1 => mrk_tidy (mrD_tidy hk k) (hk _) _
theorem mrD_has (hk : ∀ x, WideAt.IsKeyLit (kf x)) {x : Lit} : ∀ k, Maps.has (mrD (H := H) c kf v k) x = true ↔ ∃ j, j < k ∧ kf (c j) = x
  | 0 => by simp [mrD, Maps.has]
  | k + 1 => by
    show Maps.has (mrk (mrD c kf v k) (kf (c k)) (v k)) x = true ↔ _
    rw [mrk_has (mrD_tidy hk k) (hk _), mrD_has hk k]
    constructor
    · rintro (⟨j, hj, e⟩ | rfl)
      · exact ⟨j, by omega, e⟩
      · exact ⟨k, by omega, rfl⟩
    · rintro ⟨j, hj, e⟩
      rcases Nat.lt_or_eq_of_le (Nat.le_of_lt_succ hj) with h | rfl
      · exact .inl ⟨j, h, e⟩
      · exact .inr e.symm
theorem mrD_cl (hk : ∀ x, WideAt.IsKeyLit (kf x)) (hinj : ∀ i j, i < n → j < n → kf (c i) = kf (c j) → c i = c j) {k : Nat} (hkn : k < n) : Maps.has (mrD (H := H) c kf v k) (kf (c k)) = true ↔ fsE c k < k := by
  rw [mrD_has hk k]
  constructor
  · rintro ⟨j, hj, e⟩
    have e := hinj _ _ (by omega) hkn e
    have h1 := fsE_none c k j
    rcases Nat.lt_or_ge j (fsE c k) with g | g
    · exact absurd e (h1 g)
    · omega
  · intro h
    exact ⟨fsE c k, h, by rw [fsE_at c k]⟩
theorem mrD_at (hk : ∀ x, WideAt.IsKeyLit (kf x)) (hinj : ∀ i j, i < n → j < n → kf (c i) = kf (c j) → c i = c j) : ∀ k, k ≤ n → ∀ j, j < k → (mrD (H := H) c kf v k).atKey (kf (c j)) (.lit (.int .i64 0)) = .lit (.int .i64 (v (fsE c j)))
  | 0, _, j, h => absurd h (Nat.not_lt_zero _)
  | k + 1, hkn, j, hj => by
    show (mrk (mrD c kf v k) (kf (c k)) (v k)).atKey _ _ = _
    by_cases h : j < k
    · rw [mrk_old _ ((mrD_has hk k).2 ⟨j, h, rfl⟩)]
      exact mrD_at hk hinj k (by omega) j h
    · obtain rfl : j = k := by omega
      refine mrk_new (mrD_tidy hk j) (hk _) ⟨fun hh => ?_, fun hh => ?_⟩
      · have hf := (mrD_cl hk hinj (by omega)).1 hh
        have := mrD_at hk hinj j (by omega) (fsE c j) hf
        rw [fsE_at c j, fsE_first] at this
        exact this
      · have hf : ¬ fsE c j < j := fun h => by rw [(mrD_cl (H := H) (v := v) hk hinj (by omega)).2 h] at hh; cases hh
        rw [show fsE c j = j by have := fsE_le c j; omega]
theorem mrD_size (hk : ∀ x, WideAt.IsKeyLit (kf x)) (hinj : ∀ i j, i < n → j < n → kf (c i) = kf (c j) → c i = c j) : ∀ k, k ≤ n → Maps.size (mrD (H := H) c kf v k) = frC c k
  | 0, _ => rfl
  | k + 1, hkn => by
    show Maps.size (mrk (mrD c kf v k) (kf (c k)) (v k)) = _
    rw [mrk_size (mrD_tidy hk k), mrD_size hk hinj k (by omega)]
    have h := mrD_cl (H := H) (v := v) hk hinj (show k < n by omega)
    by_cases hf : fsE c k < k
    · rw [if_pos (h.2 hf), frC_same (by omega)]
    · rw [if_neg (fun e => hf (h.1 e)), frC_next (by have := fsE_le c k; omega)]
/-- the mark that the next class has -/
theorem mrD_val (hk : ∀ x, WideAt.IsKeyLit (kf x)) (hinj : ∀ i j, i < n → j < n → kf (c i) = kf (c j) → c i = c j) {k : Nat} (hkn : k < n) {z : Int} (hz : mrkV (mrD (H := H) c kf v k) (kf (c k)) (v k) z) : z = v (fsE c k) := by
  have h1 := mrk_new (mrD_tidy hk k) (hk _) hz
  have h2 := mrD_at (H := H) (v := v) hk hinj (k + 1) (by omega) k (by omega)
  have h3 := h1.symm.trans h2
  injection h3 with h3
  injection h3
end
section
open Go.ChangeMaps Go.MapKept Go.WideShapes
variable {H : Type} {P : Program} (w : World) {ops : Array Oper} {rest : List Oper} {o : Oper} {a : Act} {Q : Exit → Act → World → Prop}
/-- clear(m): nothing is left in the map -/
theorem clear_run {t k e : TypeId} {R : Value → Option (DataW H × List MemPlace)} {b n : Nat} {D : DataW H} (ht : P.underlying t = some (.map k e)) (hown : w.ownsMap P k R b n D) (ty : TypeId) :
    ∃ w', (Builtin.clear_ #[t] ty #[.map (some b)]).run P w = .ok (.tuple #[]) w' ∧ w'.ownsMap P k R b 0 (.map []) ∧ w.grownBy w' (some b) := by
  obtain ⟨es, clock, hb, F, hs, rfl⟩ := hown
  refine ⟨setBlock w b (.map #[] clock), ?_, ⟨#[], clock, heap_setBlock_same hb _, ⟨by simp, stamped_empty clock, by simp⟩, Nat.le_refl _, rfl⟩, World.mapTurned.grown ⟨es, clock, #[], clock, hb, rfl⟩⟩
  simp [Builtin.clear_, run_underlying ht, Go.MapKept.run_getObj_map hb, Go.MapKept.run_setObj_map _ hb, Result.andThen]
  rfl
theorem wpList_clear_own (hg : o.guard = none) (m : Operand) (t : TypeId) (hop : o.op = Op.call { callee := Callee.builtin Builtin.clear, args := #[m], argTypes := #[t] })
    (k e : TypeId) (ht : P.underlying t = some (.map k e)) (R : Value → Option (DataW H × List MemPlace)) (b n : Nat) (D : DataW H)
    (hm : a.eval m = .map (some b)) (hown : w.ownsMap P k R b n D)
    (hK : ∀ w', w'.ownsMap P k R b 0 (.map []) → w.grownBy w' (some b) → wpList P ops Q rest (a.put o.dst (.tuple #[])) w') :
    wpList P ops Q (o :: rest) a w := by
  refine wpList_plain hg fun K' hK' => ?_
  obtain ⟨w', hrun, r1, r2⟩ := clear_run w ht hown o.type
  unfold Oper.wp
  simp [execOp, hop, resolve, invoke, builtin, hm, hrun, Result.andThen]
  exact hK' _ _ (hK w' r1 r2)
end
end

end Go.Proofs.YtmknjifmmmnjjaaGreatDoor
