/-
  Plc.
-/
import Derived.Sort.Statements
import Derived.Shelf.SlSortCmp.Insertion
import Derived.Maps.Views
import Derived.Test.YtmknjifmmmnjjaaGreatDoorNA
namespace Go.Proofs.YtmknjifmmmnjjaaGreatDoor
set_option maxRecDepth 100000
set_option linter.unusedVariables false
set_option linter.unusedSimpArgs false
set_option linter.unusedSectionVars false

/-! Charts as keys: lists of one length compared by six numbers; what a map of places says, when a list of charts is filled in sorted; no program. -/
section
open Go.RowKit Go.Sort

/-! ### the order of six numbers -/
def six (T : Nat → Int) : List Int := [T 0, T 1, T 2, T 3, T 4, T 5]
def lt6 (L M : List Int) : Bool := lexB (six (ofL L)) (six (ofL M))
def cf6 (L M : List Int) : Int := if lt6 L M then -1 else if lt6 M L then 1 else 0
theorem lexB_app : ∀ {L M : List Int} (Z : List Int), L.length = M.length → lexB (L ++ Z) (M ++ Z) = lexB L M
  | [], [], Z, _ => by show lexB Z Z = false; exact lexB_irrefl Z
  | [], _ :: _, _, h => by simp at h
  | _ :: _, [], _, h => by simp at h
  | a :: L, b :: M, Z, h => by
    simp only [List.cons_append]
    unfold lexB
    by_cases e : a = b
    · rw [if_pos e, if_pos e]; exact lexB_app Z (by simpa using h)
    · rw [if_neg e, if_neg e]
theorem six_eq {L : List Int} (h : L.length ≤ 6) : six (ofL L) = L ++ List.replicate (6 - L.length) 0 := by
  apply List.ext_getElem?
  intro i
  rw [List.getElem?_append]
  by_cases hi : i < L.length
  · rw [if_pos hi, List.getElem?_eq_getElem hi]
    have h6 : i < 6 := by omega
    have : (six (ofL L))[i]? = some (ofL L i) := by
      match i, h6 with
      | 0, _ => rfl
      | 1, _ => rfl
      | 2, _ => rfl
      | 3, _ => rfl
      | 4, _ => rfl
      | 5, _ => rfl
      | k + 6, h => exact absurd h (by omega)
    rw [this]; unfold ofL; rw [List.getElem?_eq_getElem hi]; rfl
  · rw [if_neg hi, List.getElem?_replicate]
    by_cases h6 : i < 6
    · rw [if_pos (by omega)]
      have : (six (ofL L))[i]? = some (ofL L i) := by
        match i, h6 with
        | 0, _ => rfl
        | 1, _ => rfl
        | 2, _ => rfl
        | 3, _ => rfl
        | 4, _ => rfl
        | 5, _ => rfl
        | k + 6, h => exact absurd h (by omega)
      rw [this]; unfold ofL; rw [List.getElem?_eq_none (by omega)]; rfl
    · rw [if_neg (by omega)]; exact List.getElem?_eq_none (by simp [six]; omega)
theorem lt6_eq {L M : List Int} (h : L.length = M.length) (h6 : L.length ≤ 6) : lt6 L M = lexB L M := by
  unfold lt6; rw [six_eq h6, six_eq (by omega), ← h]; exact lexB_app _ h
theorem lt6_of_cf (L M : List Int) : Go.Proofs.ltOf cf6 L M = lt6 L M := by
  unfold Go.Proofs.ltOf cf6
  cases h : lt6 L M
  · cases h2 : lt6 M L <;> simp
  · simp
theorem swo6 : SWO (Go.Proofs.ltOf cf6) := by
  have e : Go.Proofs.ltOf cf6 = lt6 := by funext L M; exact lt6_of_cf L M
  rw [e]
  refine ⟨fun x => lexB_irrefl _, fun x y z h1 h2 => lexB_trans h1 h2, fun x y z h1 h2 => ?_⟩
  cases h : lt6 x z
  · rfl
  · cases h3 : lt6 y x
    · have e : six (ofL x) = six (ofL y) := lexB_total h1 h3
      unfold lt6 at h h2; rw [e, h2] at h; cases h
    · have := lexB_trans h3 h; unfold lt6 at h2; rw [h2] at this; cases this

/-! ### two sorted lists of the same entries -/
theorem eq_of_srt {α : Type} {R : α → α → Prop} : ∀ {l₁ l₂ : List α}, l₁.Perm l₂ → (∀ a b, a ∈ l₁ → b ∈ l₁ → R a b → R b a → a = b) → l₁.Pairwise R → l₂.Pairwise R → l₁ = l₂
  | [], l₂, hp, _, _, _ => (List.nil_perm.1 hp).symm
  | a :: l₁, [], hp, _, _, _ => absurd hp.length_eq (by simp)
  | a :: l₁, b :: l₂, hp, ha, h1, h2 => by
    have hab : a = b := by
      by_cases e : a = b
      · exact e
      · have hb : b ∈ l₁ := by
          have : b ∈ a :: l₁ := hp.mem_iff.2 List.mem_cons_self
          rcases List.mem_cons.1 this with rfl | h
          · exact absurd rfl e
          · exact h
        have ha' : a ∈ l₂ := by
          have : a ∈ b :: l₂ := hp.mem_iff.1 List.mem_cons_self
          rcases List.mem_cons.1 this with rfl | h
          · exact absurd rfl e
          · exact h
        exact ha a b List.mem_cons_self (List.mem_cons_of_mem _ hb) ((List.pairwise_cons.1 h1).1 b hb) ((List.pairwise_cons.1 h2).1 a ha')
    subst hab
    rw [eq_of_srt ((List.perm_cons a).1 hp) (fun x y hx hy => ha x y (List.mem_cons_of_mem _ hx) (List.mem_cons_of_mem _ hy)) (List.pairwise_cons.1 h1).2 (List.pairwise_cons.1 h2).2]

/-! ### the map of places -/
section
variable {H : Type}
/-- the map when k of the charts of S have their places -/
def mapP (kl : List Int → Lit) (S : List (List Int)) : Nat → DataW H
  | 0 => .map []
  | k + 1 => (mapP kl S k).put (kl (ent S k)) (.lit (.int .i64 (k : Int)))
theorem mapP_tidy {kl : List Int → Lit} (hk : ∀ L, WideAt.IsKeyLit (kl L)) (S : List (List Int)) : ∀ k, Maps.Tidy (mapP (H := H) kl S k)
  | 0 => Maps.tidy_empty
  | k + 1 => (mapP_tidy hk S k).put (hk _) _
theorem sameKey_self {a : Lit} (h : WideAt.IsKeyLit a) : a.sameKey a = true := by
  have h1 := Maps.has_put_same (H := Unit) Maps.isMap_empty h (.lit .nil)
  obtain ⟨es, he⟩ : ∃ es, (DataW.map [] : DataW Unit).put a (.lit .nil) = .map es := Maps.isMap_empty.put a _
  by_cases hh : a.sameKey a = true
  · exact hh
  · exfalso
    cases a <;> simp_all [Lit.sameKey, WideAt.IsKeyLit]
theorem mapP_has {kl : List Int → Lit} (hk : ∀ L, WideAt.IsKeyLit (kl L)) {S : List (List Int)} {x : Lit} : ∀ k, k ≤ S.length → (Maps.has (mapP (H := H) kl S k) x = true ↔ ∃ i, i < k ∧ kl (ent S i) = x)
  | 0, _ => by simp [mapP, Maps.has]
  | k + 1, h => by
    unfold mapP
    by_cases e : x = kl (ent S k)
    · subst e
      rw [Maps.has_put_same (mapP_tidy hk S k).isMap (hk _)]
      exact ⟨fun _ => ⟨k, by omega, rfl⟩, fun _ => rfl⟩
    · rw [Maps.has_put_other e, mapP_has hk k (by omega)]
      constructor
      · rintro ⟨i, hi, e⟩; exact ⟨i, by omega, e⟩
      · rintro ⟨i, hi, e'⟩
        rcases Nat.lt_or_eq_of_le (Nat.le_of_lt_succ hi) with h' | rfl
        · exact ⟨i, h', e'⟩
        · exact absurd e'.symm e
/-- the place of a chart -/
def atP (kl : List Int → Lit) (S : List (List Int)) : Nat → List Int → Nat
  | 0, _ => 0
  | k + 1, L => if L = ent S k then k else atP kl S k L
theorem mapP_at {kl : List Int → Lit} (hk : ∀ L, WideAt.IsKeyLit (kl L)) {S : List (List Int)} {P : List Int → Prop} (hinj : ∀ L M, P L → P M → kl L = kl M → L = M) (hS : ∀ L ∈ S, P L) {L : List Int} (hL : P L) :
    ∀ k, k ≤ S.length → (∃ i, i < k ∧ ent S i = L) → ∀ z, (mapP (H := H) kl S k).atKey (kl L) z = .lit (.int .i64 (atP kl S k L : Int))
  | 0, _, h, _ => by obtain ⟨i, hi, _⟩ := h; omega
  | k + 1, hkl, h, z => by
    unfold mapP atP
    by_cases e : L = ent S k
    · rw [if_pos e, e, Maps.atKey_put_same (mapP_tidy hk S k).isMap (hk _)]
    · rw [if_neg e, Maps.atKey_put_other (fun e' => e (hinj _ _ hL (hS _ (ent_mem (by omega))) e'))]
      refine mapP_at hk hinj hS hL k (by omega) ?_ z
      obtain ⟨i, hi, e'⟩ := h
      rcases Nat.lt_or_eq_of_le (Nat.le_of_lt_succ hi) with h' | rfl
      · exact ⟨i, h', e'⟩
      · exact absurd e'.symm e
theorem atP_is {kl : List Int → Lit} {S : List (List Int)} {L : List Int} : ∀ k, (∃ i, i < k ∧ ent S i = L) → atP kl S k L < k ∧ ent S (atP kl S k L) = L
  | 0, h => by obtain ⟨i, hi, _⟩ := h; omega
  | k + 1, h => by
    unfold atP
    by_cases e : L = ent S k
    · rw [if_pos e]; exact ⟨by omega, e.symm⟩
    · rw [if_neg e]
      have := atP_is (kl := kl) (S := S) (L := L) k (by
        obtain ⟨i, hi, e'⟩ := h
        rcases Nat.lt_or_eq_of_le (Nat.le_of_lt_succ hi) with h' | rfl
        · exact ⟨i, h', e'⟩
        · exact absurd e'.symm e)
      exact ⟨by omega, this.2⟩
/-- the last of those that are alike -/
theorem atP_last {kl : List Int → Lit} {S : List (List Int)} {L : List Int} : ∀ k i, i < k → ent S i = L → i ≤ atP kl S k L
  | 0, i, h, _ => by omega
  | k + 1, i, h, e => by
    unfold atP
    by_cases e2 : L = ent S k
    · rw [if_pos e2]; omega
    · rw [if_neg e2]
      rcases Nat.lt_or_eq_of_le (Nat.le_of_lt_succ h) with h' | rfl
      · exact atP_last k i h' e
      · exact absurd e.symm e2
end

/-! ### sorted: each has the place where it stands -/
/-- the entries of S are those of C, in order -/
structure Placed (C S : List (List Int)) : Prop where
  perm : S.Perm C
  srt : ∀ i j, i < j → j < S.length → lt6 (ent S j) (ent S i) = false
theorem ent_ext {C S : List (List Int)} (hl : S.length = C.length) (h : ∀ i, i < C.length → ent S i = ent C i) : S = C := by
  apply List.ext_getElem hl
  intro i h1 h2
  have := h i h2
  unfold ent at this
  rw [List.getElem?_eq_getElem h1, List.getElem?_eq_getElem h2] at this
  exact this
theorem pw_of_srt {S : List (List Int)} {R : List Int → List Int → Prop} (h : ∀ i j, i < j → j < S.length → R (ent S i) (ent S j)) : S.Pairwise R := by
  rw [List.pairwise_iff_getElem]
  intro i j hi hj hij
  have := h i j hij hj
  unfold ent at this
  rw [List.getElem?_eq_getElem hi, List.getElem?_eq_getElem hj] at this
  exact this
theorem placed_all {kl : List Int → Lit} {C S : List (List Int)} {n : Nat} (h : Placed C S) (hn : n ≤ 6) (hC : ∀ L ∈ C, L.length = n) (hat : ∀ i, i < C.length → atP kl S S.length (ent C i) = i) : S = C ∧ Srt C := by
  have hl := h.perm.length_eq
  have hmem : ∀ i, i < C.length → ∃ j, j < S.length ∧ ent S j = ent C i := fun i hi => mem_ent (h.perm.mem_iff.2 (ent_mem hi))
  have hSC : S = C := ent_ext hl fun i hi => by
    have := atP_is (kl := kl) S.length (hmem i hi)
    rw [hat i hi] at this; exact this.2
  refine ⟨hSC, fun i j hij hj => ?_⟩
  have hi : i < C.length := by omega
  have li := hC _ (ent_mem hi)
  have lj := hC _ (ent_mem hj)
  cases hlt : lexB (ent C i) (ent C j)
  · have h2 := h.srt i j hij (by omega)
    rw [hSC, lt6_eq (by omega) (by omega)] at h2
    have e := lexB_total hlt h2
    have h3 := atP_last (kl := kl) (S := S) (L := ent C i) S.length j (by omega) (by rw [hSC, e])
    rw [hat i hi] at h3; omega
  · rfl
theorem placed_srt {kl : List Int → Lit} {C S : List (List Int)} {n : Nat} (h : Placed C S) (hn : n ≤ 6) (hC : ∀ L ∈ C, L.length = n) (hs : Srt C) : S = C ∧ ∀ i, i < C.length → atP kl S S.length (ent C i) = i := by
  have hl := h.perm.length_eq
  have hS : ∀ L ∈ S, L.length = n := fun L hL => hC L (h.perm.mem_iff.1 hL)
  have hSC : S = C := by
    refine eq_of_srt (R := fun a b => lexB b a = false) h.perm (fun a b ha hb h1 h2 => lexB_total h2 h1) (pw_of_srt fun i j hij hj => ?_) (pw_of_srt fun i j hij hj => lexB_asymm (hs i j hij hj))
    have := h.srt i j hij hj
    rwa [lt6_eq (by rw [hS _ (ent_mem hj), hS _ (ent_mem (by omega))]) (by rw [hS _ (ent_mem hj)]; exact hn)] at this
  refine ⟨hSC, fun i hi => ?_⟩
  rw [hSC]
  have h1 := atP_is (kl := kl) (S := C) (L := ent C i) C.length ⟨i, hi, rfl⟩
  have h2 := atP_last (kl := kl) (S := C) (L := ent C i) C.length i hi rfl
  rcases Nat.lt_or_eq_of_le h2 with hlt | he
  · have := hs i _ hlt h1.1
    rw [h1.2, lexB_irrefl] at this; cases this
  · exact he.symm
end

end Go.Proofs.YtmknjifmmmnjjaaGreatDoor
