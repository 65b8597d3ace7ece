/-
  Plc Err Frm.
-/
import Derived.Sort.Statements
import Derived.Shelf.SlSortCmp.Insertion
import Derived.Maps.Views
import Derived.WalkKit
import Derived.LaidEql
import Derived.Stop.Asserts
import Derived.RowKitTokens
import Derived.Test.YtkfiehndlgplgaaGreatDoorMA
import Derived.Test.YtkfiehndlgplgaaGreatDoorMV
import Derived.Test.YtkfiehndlgplgaaGreatDoorNA
import Derived.Test.YtkfiehndlgplgaaGreatDoorNC
namespace Go.Proofs.YtkfiehndlgplgaaGreatDoor
set_option maxRecDepth 100000
set_option linter.unusedVariables false
set_option linter.unusedSimpArgs false
set_option linter.unusedSectionVars false

/-! Charts as keys: lists of one length compared by six numbers; what a map of places says, when a list of charts is filled in sorted; no program. -/
section
open Go.RowKit Go.Sort

/-! ### the order of six numbers -/
def six (T : Nat → Int) : List Int := [T 0, T 1, T 2, T 3, T 4, T 5]
def lt6 (L M : List Int) : Bool := lexB (six (ofL L)) (six (ofL M))
def cf6 (L M : List Int) : Int := if lt6 L M then -1 else if lt6 M L then 1 else 0
theorem lexB_app : ∀ {L M : List Int} (Z : List Int), L.length = M.length → lexB (L ++ Z) (M ++ Z) = lexB L M
  | [], [], Z, _ => by show lexB Z Z = false; exact lexB_irrefl Z
  | [], _ :: _, _, h => by simp at h
  | _ :: _, [], _, h => by simp at h
  | a :: L, b :: M, Z, h => by
    simp only [List.cons_append]
    unfold lexB
    by_cases e : a = b
    · rw [if_pos e, if_pos e]; exact lexB_app Z (by simpa using h)
    · rw [if_neg e, if_neg e]
theorem six_eq {L : List Int} (h : L.length ≤ 6) : six (ofL L) = L ++ List.replicate (6 - L.length) 0 := by
  apply List.ext_getElem?
  intro i
  rw [List.getElem?_append]
  by_cases hi : i < L.length
  · rw [if_pos hi, List.getElem?_eq_getElem hi]
    have h6 : i < 6 := by omega
    have : (six (ofL L))[i]? = some (ofL L i) := by
      match i, h6 with
      | 0, _ => rfl
      | 1, _ => rfl
      | 2, _ => rfl
      | 3, _ => rfl
      | 4, _ => rfl
      | 5, _ => rfl
      | k + 6, h => exact absurd h (by omega)
    rw [this]; unfold ofL; rw [List.getElem?_eq_getElem hi]; rfl
  · rw [if_neg hi, List.getElem?_replicate]
    by_cases h6 : i < 6
    · rw [if_pos (by omega)]
      have : (six (ofL L))[i]? = some (ofL L i) := by
        match i, h6 with
        | 0, _ => rfl
        | 1, _ => rfl
        | 2, _ => rfl
        | 3, _ => rfl
        | 4, _ => rfl
        | 5, _ => rfl
        | k + 6, h => exact absurd h (by omega)
      rw [this]; unfold ofL; rw [List.getElem?_eq_none (by omega)]; rfl
    · rw [if_neg (by omega)]; exact List.getElem?_eq_none (by simp [six]; omega)
theorem lt6_eq {L M : List Int} (h : L.length = M.length) (h6 : L.length ≤ 6) : lt6 L M = lexB L M := by
  unfold lt6; rw [six_eq h6, six_eq (by omega), ← h]; exact lexB_app _ h
theorem lt6_of_cf (L M : List Int) : Go.Proofs.ltOf cf6 L M = lt6 L M := by
  unfold Go.Proofs.ltOf cf6
  cases h : lt6 L M
  · cases h2 : lt6 M L <;> simp
  · simp
theorem swo6 : SWO (Go.Proofs.ltOf cf6) := by
  have e : Go.Proofs.ltOf cf6 = lt6 := by funext L M; exact lt6_of_cf L M
  rw [e]
  refine ⟨fun x => lexB_irrefl _, fun x y z h1 h2 => lexB_trans h1 h2, fun x y z h1 h2 => ?_⟩
  cases h : lt6 x z
  · rfl
  · cases h3 : lt6 y x
    · have e : six (ofL x) = six (ofL y) := lexB_total h1 h3
      unfold lt6 at h h2; rw [e, h2] at h; cases h
    · have := lexB_trans h3 h; unfold lt6 at h2; rw [h2] at this; cases this

/-! ### two sorted lists of the same entries -/
theorem eq_of_srt {α : Type} {R : α → α → Prop} : ∀ {l₁ l₂ : List α}, l₁.Perm l₂ → (∀ a b, a ∈ l₁ → b ∈ l₁ → R a b → R b a → a = b) → l₁.Pairwise R → l₂.Pairwise R → l₁ = l₂
  | [], l₂, hp, _, _, _ => (List.nil_perm.1 hp).symm
  | a :: l₁, [], hp, _, _, _ => absurd hp.length_eq (by simp)
  | a :: l₁, b :: l₂, hp, ha, h1, h2 => by
    have hab : a = b := by
      by_cases e : a = b
      · exact e
      · have hb : b ∈ l₁ := by
          have : b ∈ a :: l₁ := hp.mem_iff.2 List.mem_cons_self
          rcases List.mem_cons.1 this with rfl | h
          · exact absurd rfl e
          · exact h
        have ha' : a ∈ l₂ := by
          have : a ∈ b :: l₂ := hp.mem_iff.1 List.mem_cons_self
          rcases List.mem_cons.1 this with rfl | h
          · exact absurd rfl e
          · exact h
        exact ha a b List.mem_cons_self (List.mem_cons_of_mem _ hb) ((List.pairwise_cons.1 h1).1 b hb) ((List.pairwise_cons.1 h2).1 a ha')
    subst hab
    rw [eq_of_srt ((List.perm_cons a).1 hp) (fun x y hx hy => ha x y (List.mem_cons_of_mem _ hx) (List.mem_cons_of_mem _ hy)) (List.pairwise_cons.1 h1).2 (List.pairwise_cons.1 h2).2]

/-! ### the map of places -/
section
variable {H : Type}
/-- the map when k of the charts of S have their places -/
def mapP (kl : List Int → Lit) (S : List (List Int)) : Nat → DataW H
  | 0 => .map []
  | k + 1 => (mapP kl S k).put (kl (ent S k)) (.lit (.int .i64 (k : Int)))
theorem mapP_tidy {kl : List Int → Lit} (hk : ∀ L, WideAt.IsKeyLit (kl L)) (S : List (List Int)) : ∀ k, Maps.Tidy (mapP (H := H) kl S k)
  | 0 => Maps.tidy_empty
  | k + 1 => (mapP_tidy hk S k).put (hk _) _
theorem sameKey_self {a : Lit} (h : WideAt.IsKeyLit a) : a.sameKey a = true := by
  have h1 := Maps.has_put_same (H := Unit) Maps.isMap_empty h (.lit .nil)
  obtain ⟨es, he⟩ : ∃ es, (DataW.map [] : DataW Unit).put a (.lit .nil) = .map es := Maps.isMap_empty.put a _
  by_cases hh : a.sameKey a = true
  · exact hh
  · exfalso
    cases a <;> simp_all [Lit.sameKey, WideAt.IsKeyLit]
theorem mapP_has {kl : List Int → Lit} (hk : ∀ L, WideAt.IsKeyLit (kl L)) {S : List (List Int)} {x : Lit} : ∀ k, k ≤ S.length → (Maps.has (mapP (H := H) kl S k) x = true ↔ ∃ i, i < k ∧ kl (ent S i) = x)
  | 0, _ => by simp [mapP, Maps.has]
  | k + 1, h => by
    unfold mapP
    by_cases e : x = kl (ent S k)
    · subst e
      rw [Maps.has_put_same (mapP_tidy hk S k).isMap (hk _)]
      exact ⟨fun _ => ⟨k, by omega, rfl⟩, fun _ => rfl⟩
    · rw [Maps.has_put_other e, mapP_has hk k (by omega)]
      constructor
      · rintro ⟨i, hi, e⟩; exact ⟨i, by omega, e⟩
      · rintro ⟨i, hi, e'⟩
        rcases Nat.lt_or_eq_of_le (Nat.le_of_lt_succ hi) with h' | rfl
        · exact ⟨i, h', e'⟩
        · exact absurd e'.symm e
/-- the place of a chart -/
def atP (kl : List Int → Lit) (S : List (List Int)) : Nat → List Int → Nat
  | 0, _ => 0
  | k + 1, L => if L = ent S k then k else atP kl S k L
theorem mapP_at {kl : List Int → Lit} (hk : ∀ L, WideAt.IsKeyLit (kl L)) {S : List (List Int)} {P : List Int → Prop} (hinj : ∀ L M, P L → P M → kl L = kl M → L = M) (hS : ∀ L ∈ S, P L) {L : List Int} (hL : P L) :
    ∀ k, k ≤ S.length → (∃ i, i < k ∧ ent S i = L) → ∀ z, (mapP (H := H) kl S k).atKey (kl L) z = .lit (.int .i64 (atP kl S k L : Int))
  | 0, _, h, _ => by obtain ⟨i, hi, _⟩ := h; omega
  | k + 1, hkl, h, z => by
    unfold mapP atP
    by_cases e : L = ent S k
    · rw [if_pos e, e, Maps.atKey_put_same (mapP_tidy hk S k).isMap (hk _)]
    · rw [if_neg e, Maps.atKey_put_other (fun e' => e (hinj _ _ hL (hS _ (ent_mem (by omega))) e'))]
      refine mapP_at hk hinj hS hL k (by omega) ?_ z
      obtain ⟨i, hi, e'⟩ := h
      rcases Nat.lt_or_eq_of_le (Nat.le_of_lt_succ hi) with h' | rfl
      · exact ⟨i, h', e'⟩
      · exact absurd e'.symm e
theorem atP_is {kl : List Int → Lit} {S : List (List Int)} {L : List Int} : ∀ k, (∃ i, i < k ∧ ent S i = L) → atP kl S k L < k ∧ ent S (atP kl S k L) = L
  | 0, h => by obtain ⟨i, hi, _⟩ := h; omega
  | k + 1, h => by
    unfold atP
    by_cases e : L = ent S k
    · rw [if_pos e]; exact ⟨by omega, e.symm⟩
    · rw [if_neg e]
      have := atP_is (kl := kl) (S := S) (L := L) k (by
        obtain ⟨i, hi, e'⟩ := h
        rcases Nat.lt_or_eq_of_le (Nat.le_of_lt_succ hi) with h' | rfl
        · exact ⟨i, h', e'⟩
        · exact absurd e'.symm e)
      exact ⟨by omega, this.2⟩
/-- the last of those that are alike -/
theorem atP_last {kl : List Int → Lit} {S : List (List Int)} {L : List Int} : ∀ k i, i < k → ent S i = L → i ≤ atP kl S k L
  | 0, i, h, _ => by omega
  | k + 1, i, h, e => by
    unfold atP
    by_cases e2 : L = ent S k
    · rw [if_pos e2]; omega
    · rw [if_neg e2]
      rcases Nat.lt_or_eq_of_le (Nat.le_of_lt_succ h) with h' | rfl
      · exact atP_last k i h' e
      · exact absurd e.symm e2
end

/-! ### sorted: each has the place where it stands -/
/-- the entries of S are those of C, in order -/
structure Placed (C S : List (List Int)) : Prop where
  perm : S.Perm C
  srt : ∀ i j, i < j → j < S.length → lt6 (ent S j) (ent S i) = false
theorem ent_ext {C S : List (List Int)} (hl : S.length = C.length) (h : ∀ i, i < C.length → ent S i = ent C i) : S = C := by
  apply List.ext_getElem hl
  intro i h1 h2
  have := h i h2
  unfold ent at this
  rw [List.getElem?_eq_getElem h1, List.getElem?_eq_getElem h2] at this
  exact this
theorem pw_of_srt {S : List (List Int)} {R : List Int → List Int → Prop} (h : ∀ i j, i < j → j < S.length → R (ent S i) (ent S j)) : S.Pairwise R := by
  rw [List.pairwise_iff_getElem]
  intro i j hi hj hij
  have := h i j hij hj
  unfold ent at this
  rw [List.getElem?_eq_getElem hi, List.getElem?_eq_getElem hj] at this
  exact this
theorem placed_all {kl : List Int → Lit} {C S : List (List Int)} {n : Nat} (h : Placed C S) (hn : n ≤ 6) (hC : ∀ L ∈ C, L.length = n) (hat : ∀ i, i < C.length → atP kl S S.length (ent C i) = i) : S = C ∧ Srt C := by
  have hl := h.perm.length_eq
  have hmem : ∀ i, i < C.length → ∃ j, j < S.length ∧ ent S j = ent C i := fun i hi => mem_ent (h.perm.mem_iff.2 (ent_mem hi))
  have hSC : S = C := ent_ext hl fun i hi => by
    have := atP_is (kl := kl) S.length (hmem i hi)
    rw [hat i hi] at this; exact this.2
  refine ⟨hSC, fun i j hij hj => ?_⟩
  have hi : i < C.length := by omega
  have li := hC _ (ent_mem hi)
  have lj := hC _ (ent_mem hj)
  cases hlt : lexB (ent C i) (ent C j)
  · have h2 := h.srt i j hij (by omega)
    rw [hSC, lt6_eq (by omega) (by omega)] at h2
    have e := lexB_total hlt h2
    have h3 := atP_last (kl := kl) (S := S) (L := ent C i) S.length j (by omega) (by rw [hSC, e])
    rw [hat i hi] at h3; omega
  · rfl
theorem placed_srt {kl : List Int → Lit} {C S : List (List Int)} {n : Nat} (h : Placed C S) (hn : n ≤ 6) (hC : ∀ L ∈ C, L.length = n) (hs : Srt C) : S = C ∧ ∀ i, i < C.length → atP kl S S.length (ent C i) = i := by
  have hl := h.perm.length_eq
  have hS : ∀ L ∈ S, L.length = n := fun L hL => hC L (h.perm.mem_iff.1 hL)
  have hSC : S = C := by
    refine eq_of_srt (R := fun a b => lexB b a = false) h.perm (fun a b ha hb h1 h2 => lexB_total h2 h1) (pw_of_srt fun i j hij hj => ?_) (pw_of_srt fun i j hij hj => lexB_asymm (hs i j hij hj))
    have := h.srt i j hij hj
    rwa [lt6_eq (by rw [hS _ (ent_mem hj), hS _ (ent_mem (by omega))]) (by rw [hS _ (ent_mem hj)]; exact hn)] at this
  refine ⟨hSC, fun i hi => ?_⟩
  rw [hSC]
  have h1 := atP_is (kl := kl) (S := C) (L := ent C i) C.length ⟨i, hi, rfl⟩
  have h2 := atP_last (kl := kl) (S := C) (L := ent C i) C.length i hi rfl
  rcases Nat.lt_or_eq_of_le h2 with hlt | he
  · have := hs i _ hlt h1.1
    rw [h1.2, lexB_irrefl] at this; cases this
  · exact he.symm
end

/-! errors.As at the program's own error, whose target is a variable of its type: a nil error: false; such an error: true. (After the guide's worked example of errors.As: the closed facts at this program's numbers.) -/
section
open Go.RowKit Go.Extern.Stop Go.Stop Go.Extern

/-- what the listed variable errors.errorType holds -/
def EtAt (w : World) : Prop := w.cell? ⟨0, 0, none⟩ = some (.iface 172 (.agg #[.pointer (some ⟨1, 110, none⟩)]))
theorem EtAt.lt {w : World} (h : EtAt w) : 0 < w.heap.size := by
  rcases Nat.eq_zero_or_pos w.heap.size with h0 | h1
  · unfold EtAt at h; simp [World.cell?, h0] at h
  · exact h1
theorem EtAt.below {w w' : World} (h : EtAt w) (hb : Below w.heap.size w w') : EtAt w' := (hb.cell (p := ⟨0, 0, none⟩) h.lt).trans h

/-- errors.As(nil, target). -/
theorem as_nil (t : Value) (w : World) :
    Calls Tryz.prog 129 #[.nilIface, t] w fun e w' => e = .returned (.bool false) ∧ w' = w := by
  go_enter Tryz.func129, Tryz.ntmps129
  go_wp2
  go_ret
  exact ⟨rfl, rfl⟩

theorem as_valueOfP (t : Addr) (w : World) : (ReflectliteValue.unpack (.iface 140 (.pointer (some t)))).run Tryz.prog w
    = .ok (.agg #[.pointer (some ⟨1, 140, none⟩), .pointer (some ⟨w.heap.size, 0, none⟩), .int .u64 150]) (w.alloc (.cells #[.pointer (some t)] 140)) := by kernel_rfl
theorem as_typeP (a : Addr) (w : World) : (ReflectliteValue.methodAny (ReflectliteValue.valueError "reflectlite.Value.Type" 0) (fun t _ _ _ => ReflectliteType.toType t) #[.agg #[.pointer (some ⟨1, 140, none⟩), .pointer (some a), .int .u64 150]]).run Tryz.prog w
    = .ok (.iface 172 (.agg #[.pointer (some ⟨1, 140, none⟩)])) w := by kernel_rfl
theorem as_methodKind (h : Value) (w : World) : (Go.method 332 172 (.agg #[h]) "Kind").run Tryz.prog w = .ok (187, h) w := by kernel_rfl
theorem as_kindP (w : World) : ((ReflectliteType.abiMethod fun t => (fun a : Nat => Value.int IntKind.u8 (a : Int)) <$> Rtype.kind t) #[.pointer (some ⟨1, 140, none⟩)]).run Tryz.prog w = .ok (.int .u8 22) w := by kernel_rfl
theorem as_kindE (w : World) : ((ReflectliteType.abiMethod fun t => (fun a : Nat => Value.int IntKind.u8 (a : Int)) <$> Rtype.kind t) #[.pointer (some ⟨1, 136, none⟩)]).run Tryz.prog w = .ok (.int .u8 25) w := by kernel_rfl

theorem as_meth (z : Sem Value) (f : TypeId → Addr → Nat → Nat → Sem Value) (a : Addr) (W : World) :
    (ReflectliteValue.method z f #[.agg #[.pointer (some ⟨1, 140, none⟩), .pointer (some a), .int .u64 150]]).run Tryz.prog W = (f 140 a 150 22).run Tryz.prog W := by kernel_rfl
theorem as_isNilP (a p : Addr) (W : World) (ha : W.cell? a = some (.pointer (some p))) :
    (ReflectliteValue.method (ReflectliteValue.valueError "reflectlite.Value.IsNil" 0) ReflectliteValue.isNil #[.agg #[.pointer (some ⟨1, 140, none⟩), .pointer (some a), .int .u64 150]]).run Tryz.prog W = .ok (.bool false) W := by
  rw [as_meth]
  simp [ReflectliteValue.isNil, loadVar, isAgg, underlying, Tryz.underlying140, ha, Result.andThen]

theorem as_methodElem (h : Value) (w : World) : (Go.method 332 172 (.agg #[h]) "Elem").run Tryz.prog w = .ok (211, .agg #[h]) w := by kernel_rfl
theorem as_methodImplements (h : Value) (w : World) : (Go.method 332 172 (.agg #[h]) "Implements").run Tryz.prog w = .ok (212, .agg #[h]) w := by kernel_rfl
theorem as_methodAssignableTo (h : Value) (w : World) : (Go.method 332 172 (.agg #[h]) "AssignableTo").run Tryz.prog w = .ok (209, .agg #[h]) w := by kernel_rfl
theorem as_elemP (w : World) : (ReflectliteType.method ReflectliteType.elem #[.agg #[.pointer (some ⟨1, 140, none⟩)]]).run Tryz.prog w = .ok (.iface 172 (.agg #[.pointer (some ⟨1, 136, none⟩)])) w := by kernel_rfl
theorem as_implementsE (w : World) : (ReflectliteType.relation "Implements" ReflectliteType.implements_ #[.agg #[.pointer (some ⟨1, 136, none⟩)], .iface 172 (.agg #[.pointer (some ⟨1, 110, none⟩)])]).run Tryz.prog w = .ok (.bool true) w := by kernel_rfl
theorem as_typeOfE (v : Value) (w : World) : (ReflectliteType.typeOf #[.iface 136 v]).run Tryz.prog w = .ok (.iface 172 (.agg #[.pointer (some ⟨1, 136, none⟩)])) w := by kernel_rfl
theorem as_assignableE (w : World) : (ReflectliteType.relation "AssignableTo" ReflectliteType.assignableTo #[.agg #[.pointer (some ⟨1, 136, none⟩)], .iface 172 (.agg #[.pointer (some ⟨1, 136, none⟩)])]).run Tryz.prog w = .ok (.bool true) w := by kernel_rfl
theorem as_valueOfE (s : ByteArray) (w : World) : (ReflectliteValue.unpack (.iface 136 (.agg #[.string s]))).run Tryz.prog w
    = .ok (.agg #[.pointer (some ⟨1, 136, none⟩), .pointer (some ⟨w.heap.size, 0, none⟩), .int .u64 153]) (w.alloc (.cells #[.string s] 136)) := by kernel_rfl
theorem as_elemOfP (w : World) : (Rtype.elem? 140).run Tryz.prog w = .ok (some 136) w := by kernel_rfl
theorem as_mkE (p : Addr) (w : World) : (ReflectliteValue.mk 136 p ReflectliteValue.flagAddr).run Tryz.prog w = .ok (.agg #[.pointer (some ⟨1, 136, none⟩), .pointer (some p), .int .u64 409]) w := by kernel_rfl
theorem as_elemVP (a p : Addr) (W : World) (ha : W.cell? a = some (.pointer (some p))) :
    (ReflectliteValue.method (ReflectliteValue.valueError "reflectlite.Value.Elem" 0) ReflectliteValue.elem #[.agg #[.pointer (some ⟨1, 140, none⟩), .pointer (some a), .int .u64 150]]).run Tryz.prog W
      = .ok (.agg #[.pointer (some ⟨1, 136, none⟩), .pointer (some p), .int .u64 409]) W := by
  rw [as_meth]
  simp [ReflectliteValue.elem, loadVar, isAgg, underlying, Tryz.underlying140, ha, Result.andThen, as_elemOfP, as_mkE]
theorem as_aggE (w : World) : (isAgg 136).run Tryz.prog w = .ok true w := by kernel_rfl
theorem as_sizeE (w : World) : (sizeOf 136).run Tryz.prog w = .ok 1 w := by kernel_rfl
theorem as_loadE (b : Addr) (s : ByteArray) (W : World) (hb : W.cell? b = some (.string s)) : (loadVar 136 b).run Tryz.prog W = .ok (.agg #[.string s]) W := by
  have hb' : W.cell? (b.add 0) = some (.string s) := by unfold Addr.add; simpa using hb
  simp [loadVar, as_aggE, as_sizeE, loadCells, loadCellsFrom, hb', Result.andThen]
theorem as_setR (ta b : Addr) (W : World) :
    (ReflectliteValue.set #[.agg #[.pointer (some ⟨1, 136, none⟩), .pointer (some ta), .int .u64 409], .agg #[.pointer (some ⟨1, 136, none⟩), .pointer (some b), .int .u64 153]]).run Tryz.prog W
      = (do let val ← loadVar 136 b; storeVar 136 ta val; pure (Value.tuple #[])).run Tryz.prog W := by kernel_rfl
theorem as_setE (ta b : Addr) (s : ByteArray) (old : Value) (W : World) (hb : W.cell? b = some (.string s)) (ht : W.cell? ta = some old) (hf : W.frozen? ta = false) :
    (ReflectliteValue.set #[.agg #[.pointer (some ⟨1, 136, none⟩), .pointer (some ta), .int .u64 409], .agg #[.pointer (some ⟨1, 136, none⟩), .pointer (some b), .int .u64 153]]).run Tryz.prog W
      = .ok (.tuple #[]) (W.setCell ta (.string s)) := by
  rw [as_setR]
  simp [as_loadE b s W hb, Result.andThen, storeVar, as_sizeE, Value.cells, storeCells, Addr.add]
  rw [run_store Tryz.prog W ta _ _ (by rfl)]
  simp [ht, hf]

set_option maxHeartbeats 4000000 in
theorem as_hit (s : ByteArray) (t : Addr) (old : Value) (w : World) (hg : EtAt w) (ht0 : w.cell? t = some old) (hf0 : w.frozen? t = false) :
    Calls Tryz.prog 129 #[.iface 136 (.agg #[.string s]), .iface 140 (.pointer (some t))] w fun ev w' => ev = .returned (.bool true) ∧ w' = ((((w.alloc (.cells #[.pointer (some t)] 140)).alloc (.cells #[.pointer (some ⟨1, 140, none⟩), .pointer (some ⟨w.heap.size, 0, none⟩), .int .u64 150] 160)).alloc (.cells #[.pointer (some ⟨1, 140, none⟩), .pointer (some ⟨w.heap.size, 0, none⟩), .int .u64 150] 160)).alloc (.cells #[.string s] 136)).setCell t (.string s) := by
  have h6 := @ run_callFunc_extern Tryz.prog 141 _ (fun args => ReflectliteValue.unpack (args.getD 0 (.tuple #[]))) Tryz.func141 (by kernel_rfl) (by kernel_rfl) (by kernel_rfl) (by kernel_rfl)
  have h7 := @ run_callFunc_extern Tryz.prog 142 _ (ReflectliteValue.methodAny (ReflectliteValue.valueError "reflectlite.Value.Type" 0) (fun t _ _ _ => ReflectliteType.toType t)) Tryz.func142 (by kernel_rfl) (by kernel_rfl) (by kernel_rfl) (by kernel_rfl)
  have h8 := @ run_callFunc_extern Tryz.prog 143 _ (ReflectliteValue.method (ReflectliteValue.valueError "reflectlite.Value.IsNil" 0) ReflectliteValue.isNil) Tryz.func143 (by kernel_rfl) (by kernel_rfl) (by kernel_rfl) (by kernel_rfl)
  have h27 := @ run_callFunc_extern Tryz.prog 187 _ (ReflectliteType.abiMethod fun t => do pure (.int .u8 (← Rtype.kind t))) Tryz.func187 (by kernel_rfl) (by kernel_rfl) (by kernel_rfl) (by kernel_rfl)
  have h37 := @ run_callFunc_extern Tryz.prog 211 _ (ReflectliteType.method ReflectliteType.elem) Tryz.func211 (by kernel_rfl) (by kernel_rfl) (by kernel_rfl) (by kernel_rfl)
  have h38 := @ run_callFunc_extern Tryz.prog 212 _ (ReflectliteType.relation "Implements" ReflectliteType.implements_) Tryz.func212 (by kernel_rfl) (by kernel_rfl) (by kernel_rfl) (by kernel_rfl)
  have h10 := @ run_callFunc_extern Tryz.prog 150 _ ReflectliteType.typeOf Tryz.func150 (by kernel_rfl) (by kernel_rfl) (by kernel_rfl) (by kernel_rfl)
  have h35 := @ run_callFunc_extern Tryz.prog 209 _ (ReflectliteType.relation "AssignableTo" ReflectliteType.assignableTo) Tryz.func209 (by kernel_rfl) (by kernel_rfl) (by kernel_rfl) (by kernel_rfl)
  have h11 := @ run_callFunc_extern Tryz.prog 151 _ (ReflectliteValue.method (ReflectliteValue.valueError "reflectlite.Value.Elem" 0) ReflectliteValue.elem) Tryz.func151 (by kernel_rfl) (by kernel_rfl) (by kernel_rfl) (by kernel_rfl)
  have h12 := @ run_callFunc_extern Tryz.prog 152 _ ReflectliteValue.set Tryz.func152 (by kernel_rfl) (by kernel_rfl) (by kernel_rfl) (by kernel_rfl)
  have tO := as_typeOfE
  have mA := as_methodAssignableTo
  have a25 := as_assignableE
  have v25 := as_valueOfE
  have f6 := as_valueOfP
  have f7 := as_typeP
  have mK := as_methodKind
  have mE := as_methodElem
  have mI := as_methodImplements
  have k27 := as_kindP
  have k25 := as_kindE
  have e27 := as_elemP
  have i25 := as_implementsE
  have n8 := as_isNilP ⟨w.heap.size, 0, none⟩ t ((w.alloc (.cells #[.pointer (some t)] 140)).alloc (.cells #[.pointer (some ⟨1, 140, none⟩), .pointer (some ⟨w.heap.size, 0, none⟩), .int .u64 150] 160)) (by simp)
  have hlt : 0 < w.heap.size := hg.lt
  have hg2 : ((w.alloc (.cells #[.pointer (some t)] 140)).alloc (.cells #[.pointer (some ⟨1, 140, none⟩), .pointer (some ⟨w.heap.size, 0, none⟩), .int .u64 150] 160)).cell? ⟨0, 0, none⟩ = some (.iface 172 (.agg #[.pointer (some ⟨1, 110, none⟩)])) := by
    rw [World.cell?_alloc_lt _ _ ⟨0, 0, none⟩ (by simp), World.cell?_alloc_lt _ _ ⟨0, 0, none⟩ hlt]; exact hg
  have htl : t.block < w.heap.size := by
    rcases Nat.lt_or_ge t.block w.heap.size with h | h
    · exact h
    · simp [World.cell?, Array.getElem?_eq_none h] at ht0
  have el := as_elemVP ⟨w.heap.size, 0, none⟩ t (((w.alloc (.cells #[.pointer (some t)] 140)).alloc (.cells #[.pointer (some ⟨1, 140, none⟩), .pointer (some ⟨w.heap.size, 0, none⟩), .int .u64 150] 160)).alloc (.cells #[.pointer (some ⟨1, 140, none⟩), .pointer (some ⟨w.heap.size, 0, none⟩), .int .u64 150] 160)) (by rw [World.cell?_alloc_lt _ _ ⟨w.heap.size, 0, none⟩ (by simp; omega)]; simp)
  have st := as_setE t ⟨w.heap.size + 1 + 1 + 1, 0, none⟩ s old ((((w.alloc (.cells #[.pointer (some t)] 140)).alloc (.cells #[.pointer (some ⟨1, 140, none⟩), .pointer (some ⟨w.heap.size, 0, none⟩), .int .u64 150] 160)).alloc (.cells #[.pointer (some ⟨1, 140, none⟩), .pointer (some ⟨w.heap.size, 0, none⟩), .int .u64 150] 160)).alloc (.cells #[.string s] 136))
    (by rw [World.cell?_alloc_at _ _ _ _ (by simp)]; rfl)
    (by rw [World.cell?_alloc_lt _ _ t (by simp; omega), World.cell?_alloc_lt _ _ t (by simp; omega), World.cell?_alloc_lt _ _ t (by simp; omega), World.cell?_alloc_lt _ _ t htl]; exact ht0)
    (by rw [World.frozen?_alloc_old _ _ t (by simp; omega), World.frozen?_alloc_old _ _ t (by simp; omega), World.frozen?_alloc_old _ _ t (by simp; omega), World.frozen?_alloc_old _ _ t (Nat.ne_of_lt htl)]; exact hf0)
  unfold EtAt at hg
  go_enter Tryz.func129, Tryz.ntmps129
  go_wp2
  refine wp_loop_rounds 1 ?_
  rw [rounds_succ]
  go_wp2
  go_ret
  exact ⟨rfl, rfl⟩

/-- impl.isNone: nil is none; the program's own error is one -/
theorem isNone_nil (w : World) : Calls Tryz.prog 98 #[.nilIface] w fun e w' => e = .returned (.bool false) ∧ Below w.heap.size w w' := by
  go_enter Tryz.func98, Tryz.ntmps98
  go_wp2_with fail
  refine (as_nil _ _).mono ?_
  rintro e w' ⟨rfl, rfl⟩
  go_wp2
  go_ret
  exact ⟨rfl, (Below.refl _ _).alloc (Nat.le_refl _) _⟩
theorem isNone_hit (s : ByteArray) (w : World) (hg : EtAt w) : Calls Tryz.prog 98 #[.iface 136 (.agg #[.string s])] w fun e w' => e = .returned (.bool true) ∧ Below w.heap.size w w' := by
  have hg' : EtAt (w.alloc (.cells #[.string ⟨#[]⟩] 136)) := hg.below ((Below.refl _ w).alloc (Nat.le_refl _) _)
  have hA := as_hit s ⟨w.heap.size, 0, none⟩ (.string ⟨#[]⟩) (w.alloc (.cells #[.string ⟨#[]⟩] 136)) hg' (by simp) (by simp)
  clear hg hg'
  go_enter Tryz.func98, Tryz.ntmps98
  go_wp2_with fail
  refine hA.mono ?_
  rintro e w' ⟨rfl, rfl⟩
  go_wp2
  go_ret
  exact ⟨rfl, ((((((Below.refl _ w).alloc (Nat.le_refl _) _).alloc (by simp) _).alloc (by simp; omega) _).alloc (by simp; omega) _).alloc (by simp; omega) _)⟩
end

/-! impl.chartsFrom: lists read as charts of as many points. -/
section
open Go.RowKit

theorem chartOf_c (A : Option Addr) (n c : Nat) (L : List Int) (w : World) (h : RI w A n L) :
    Calls Tryz.prog 49 #[.slice A n c] w fun e w' => (isC L = true → e = .returned (.tuple #[.agg #[.int .i64 ((L.length : Int)), .int .i64 (ofL L 0), .int .i64 (ofL L 1), .int .i64 (ofL L 2), .int .i64 (ofL L 3), .int .i64 (ofL L 4), .int .i64 (ofL L 5)], .bool true])) ∧ (isC L = false → e = .returned (.tuple #[.agg #[.int .i64 (((0 : Nat) : Int)), .int .i64 ((fun _ => (0 : Int)) 0), .int .i64 ((fun _ => (0 : Int)) 1), .int .i64 ((fun _ => (0 : Int)) 2), .int .i64 ((fun _ => (0 : Int)) 3), .int .i64 ((fun _ => (0 : Int)) 4), .int .i64 ((fun _ => (0 : Int)) 5)], .bool false])) ∧ Below w.heap.size w w' :=
  (chartOf_any A n c L w h).mono fun e w' ⟨k, T, he, hy, hn, hb⟩ => by
    refine ⟨fun hc => ?_, fun hc => ?_, hb⟩
    · obtain ⟨rfl, hT⟩ := hy hc
      rw [he, hc, hT 0 (by omega), hT 1 (by omega), hT 2 (by omega), hT 3 (by omega), hT 4 (by omega), hT 5 (by omega)]
    · obtain ⟨rfl, hT⟩ := hn hc
      rw [he, hc, hT 0 (by omega), hT 1 (by omega), hT 2 (by omega), hT 3 (by omega), hT 4 (by omega), hT 5 (by omega)]

theorem cwc_take {n k : Nat} {zs : List (List Int)} (hk : k < zs.length) : cwc n (zs.take (k + 1)) = cwc n (zs.take k) ++ c7 n (ofL (ent zs k)) := by
  rw [List.take_succ_eq_append_getElem hk, cwc_append]
  have : ent zs k = zs[k] := by unfold ent; rw [List.getElem?_eq_getElem hk]; rfl
  rw [this]; simp [cwc]

/-- lists that are charts of as many points, at most so many -/
def cfB (zs : List (List Int)) (m : Nat) : Bool := chB zs && decide (zs.length ≤ m)

set_option maxHeartbeats 2000000 in
theorem chartsFrom_any (A : Option Addr) (n c m : Nat) (hm : m ≤ 1048576) (zs : List (List Int)) (w : World) (h : RSS w A n zs) :
    Calls Tryz.prog 125 #[.slice A n c, .int .i64 (m : Int)] w fun e w' => ∃ v, e = .returned (.tuple #[v, .bool (cfB zs m)]) ∧ (cfB zs m = true → w'.ownsRow w.heap.size 58 7 v n (cwc (ent zs 0).length zs)) ∧ (cfB zs m = false → v = .slice none 0 0) ∧ Below w.heap.size w w' := by
  obtain ⟨i1, hj, hj0, hj1, hj2⟩ := info_parts info_chart7
  have HL := Lib.hid h.len
  by_cases hn1 : n < 1
  · have HF : Hid (cfB zs m = false) := by show _ = _; unfold cfB chB; rw [HL.out, decide_eq_false (by omega)]; simp
    obtain rfl : n = 0 := by omega
    clear h
    go_enter Tryz.func125, Tryz.ntmps125
    go_wp2
    go_ret2
    exact ⟨_, by rw [HF.out]; rfl, fun e => (by rw [HF.out] at e; cases e), fun _ => rfl, Below.refl _ _⟩
  by_cases hnm : m < n
  · have HF : Hid (cfB zs m = false) := by show _ = _; unfold cfB; rw [HL.out, decide_eq_false (by omega)]; simp
    have hd : decide ((n : Int) < 1) = false := by simp; omega
    have hd2 : decide ((m : Int) < (n : Int)) = true := by simp; omega
    clear h
    go_enter Tryz.func125, Tryz.ntmps125
    go_wp2
    go_ret2
    exact ⟨_, by rw [HF.out]; rfl, fun e => (by rw [HF.out] at e; cases e), fun _ => rfl, Below.refl _ _⟩
  have HC : Hid (cfB zs m = chB zs) := by show _ = _; unfold cfB; rw [HL.out, decide_eq_true (by omega)]; simp
  have hd : decide ((n : Int) < 1) = false := by simp; omega
  have hd2 : decide ((m : Int) < (n : Int)) = false := by simp; omega
  have hn6 : n ≤ 1048576 := by omega
  go_enter Tryz.func125, Tryz.ntmps125
  go_wp2
  clear hd hd2
  go_loopw [6, 8, 9, 10, 22] (fun v _ _ _ i wr => ∃ k : Nat, k ≤ n ∧ i = .int .i64 (k : Int) ∧ Hid ((zs.take k).all (fun L => isC L && decide (L.length = (ent zs 0).length)) = true) ∧ wr.ownsRow w.heap.size 58 7 v k (cwc (ent zs 0).length (zs.take k)) ∧ Below w.heap.size w wr) (fun _ _ _ _ i _ => n - (intOf i).toNat)
  case atStart => exact ⟨0, Nat.zero_le _, rfl, Lib.hid rfl, World.ownsRow_nil _ _ _ _, Below.refl _ _⟩
  case round =>
    obtain ⟨k, hk, rfl, HT, hrow, hB⟩ := hrel
    by_cases hlt : k < n
    · have hR : RSS wr A n zs := h.below hB
      obtain ⟨ad, Ai, ci, rfl, hab, hc, hr⟩ := hR.at_ hlt
      obtain ⟨ad', A0, c0, he, hab', hc', hr'⟩ := hR.at_ (show 0 < n by omega)
      obtain rfl := Option.some.inj he
      have hkl : k < zs.length := by have := HL.out; omega
      have hent : zs[k]?.getD [] = ent zs k := rfl
      have hent0 : zs[0]?.getD [] = ent zs 0 := rfl
      rw [hent] at hc hr
      rw [hent0, add_zero_] at hc'
      have HNO := Lib.hid (chB_no hkl)
      have HST := Lib.hid (chB_step hkl _ HT.out)
      have HTK := Lib.hid (cwc_take (n := (ent zs 0).length) hkl)
      have hbk : ad.block < wr.heap.size := by have := hB.size; omega
      clear hent hent0 hab hab' hr' hR he hkl h
      go_wp2_with fail
      refine (chartOf_c _ _ _ _ _ hr).mono ?_
      rintro e w1 ⟨hy, hno, hb1⟩
      have hc2 := (hb1.cell (p := ad) hbk).trans hc'
      have hbk1 : ad.block < w1.heap.size := by have := hb1.size; omega
      have hB1 := hB.trans (hb1.mono hB.size)
      have hrow1 := own_below hrow hb1
      clear hr hb1 hrow hB hc hc'
      cases hC : isC (ent zs k)
      · obtain rfl := hno hC
        have HF := Lib.hid (HNO.out (by rw [hC]; rfl))
        clear hy hno hC
        generalize (ent zs k).length = l1 at *
        generalize (ent zs 0).length = l0 at *
        go_wp2
        go_quiet (fail)
        all_goals go_wp2
        all_goals go_ret2
        all_goals exact ⟨_, by rw [HC.out, HF.out]; rfl, fun e => (by rw [HC.out, HF.out] at e; cases e), fun _ => rfl, below_drewN (hB1.alloc hB1.size _) _⟩
      · obtain rfl := hy hC
        clear hy hno
        by_cases hd : (ent zs k).length = (ent zs 0).length
        · have HS1 := Lib.hid (HST.out (by rw [hC, decide_eq_true hd]; rfl))
          have hbe : (((ent zs k).length : Int) != ((ent zs 0).length : Int)) = false := by simp [hd]
          have hc2' := (World.cell?_alloc_lt w1 (.cells #[.int .i64 (((ent zs k).length : Int)), .int .i64 (ofL (ent zs k) 0), .int .i64 (ofL (ent zs k) 1), .int .i64 (ofL (ent zs k) 2), .int .i64 (ofL (ent zs k) 3), .int .i64 (ofL (ent zs k) 4), .int .i64 (ofL (ent zs k) 5)] 58) ad hbk1).trans hc2
          have p1 : k + 1 ≤ maxLen := by unfold maxLen; omega
          have p2 : (k + 1) * 56 ≤ 140737488355328 := by omega
          have HD := Lib.hid hd
          obtain ⟨b0, b1, b2, b3, b4, b5, b6⟩ := (Cb.new w1 ((ent zs k).length : Int) (ofL (ent zs k))).all
          clear hC hc2 hd
          generalize (ent zs k).length = l1 at *
          generalize hl0 : (ent zs 0).length = l0 at *
          have HL0 := Lib.hid hl0
          clear hl0
          have HRW : Hid (∀ q, (((w1.alloc (.cells #[.int .i64 ((l1 : Int)), .int .i64 (ofL (ent zs k) 0), .int .i64 (ofL (ent zs k) 1), .int .i64 (ofL (ent zs k) 2), .int .i64 (ofL (ent zs k) 3), .int .i64 (ofL (ent zs k) 4), .int .i64 (ofL (ent zs k) 5)] 58)).drewN q).alloc (.cells #[.int .i64 ((l1 : Int)), .int .i64 (ofL (ent zs k) 0), .int .i64 (ofL (ent zs k) 1), .int .i64 (ofL (ent zs k) 2), .int .i64 (ofL (ent zs k) 3), .int .i64 (ofL (ent zs k) 4), .int .i64 (ofL (ent zs k) 5)] 58)).ownsRow w.heap.size 58 7 u6 k (cwc l0 (zs.take k))) := fun q => (own_below (hrow1.alloc (.cells #[.int .i64 ((l1 : Int)), .int .i64 (ofL (ent zs k) 0), .int .i64 (ofL (ent zs k) 1), .int .i64 (ofL (ent zs k) 2), .int .i64 (ofL (ent zs k) 3), .int .i64 (ofL (ent zs k) 4), .int .i64 (ofL (ent zs k) 5)] 58)) (below_drewN (Below.refl _ _) q)).alloc (.cells #[.int .i64 ((l1 : Int)), .int .i64 (ofL (ent zs k) 0), .int .i64 (ofL (ent zs k) 1), .int .i64 (ofL (ent zs k) 2), .int .i64 (ofL (ent zs k) 3), .int .i64 (ofL (ent zs k) 4), .int .i64 (ofL (ent zs k) 5)] 58)
          have HCL : Hid (∀ q, ∀ (j : Nat) (x : Value), (c7 l1 (ofL (ent zs k)))[j]? = some x → (((w1.alloc (.cells #[.int .i64 ((l1 : Int)), .int .i64 (ofL (ent zs k) 0), .int .i64 (ofL (ent zs k) 1), .int .i64 (ofL (ent zs k) 2), .int .i64 (ofL (ent zs k) 3), .int .i64 (ofL (ent zs k) 4), .int .i64 (ofL (ent zs k) 5)] 58)).drewN q).alloc (.cells #[.int .i64 ((l1 : Int)), .int .i64 (ofL (ent zs k) 0), .int .i64 (ofL (ent zs k) 1), .int .i64 (ofL (ent zs k) 2), .int .i64 (ofL (ent zs k) 3), .int .i64 (ofL (ent zs k) 4), .int .i64 (ofL (ent zs k) 5)] 58)).cell? ((⟨w1.heap.size + 1, 0, none⟩ : Addr).add j) = some x) := fun q => by
            have := cell_7_new ((w1.alloc (.cells #[.int .i64 ((l1 : Int)), .int .i64 (ofL (ent zs k) 0), .int .i64 (ofL (ent zs k) 1), .int .i64 (ofL (ent zs k) 2), .int .i64 (ofL (ent zs k) 3), .int .i64 (ofL (ent zs k) 4), .int .i64 (ofL (ent zs k) 5)] 58)).drewN q) l1 (ofL (ent zs k))
            have hz : ((w1.alloc (.cells #[.int .i64 ((l1 : Int)), .int .i64 (ofL (ent zs k) 0), .int .i64 (ofL (ent zs k) 1), .int .i64 (ofL (ent zs k) 2), .int .i64 (ofL (ent zs k) 3), .int .i64 (ofL (ent zs k) 4), .int .i64 (ofL (ent zs k) 5)] 58)).drewN q).heap.size = w1.heap.size + 1 := by show (w1.alloc (.cells #[.int .i64 ((l1 : Int)), .int .i64 (ofL (ent zs k) 0), .int .i64 (ofL (ent zs k) 1), .int .i64 (ofL (ent zs k) 2), .int .i64 (ofL (ent zs k) 3), .int .i64 (ofL (ent zs k) 4), .int .i64 (ofL (ent zs k) 5)] 58)).heap.size = _; simp
            rwa [hz] at this
          have hs1 := hB1.size
          have HP3 : Hid (∀ q, w.heap.size ≤ (((w1.alloc (.cells #[.int .i64 ((l1 : Int)), .int .i64 (ofL (ent zs k) 0), .int .i64 (ofL (ent zs k) 1), .int .i64 (ofL (ent zs k) 2), .int .i64 (ofL (ent zs k) 3), .int .i64 (ofL (ent zs k) 4), .int .i64 (ofL (ent zs k) 5)] 58)).drewN q).alloc (.cells #[.int .i64 ((l1 : Int)), .int .i64 (ofL (ent zs k) 0), .int .i64 (ofL (ent zs k) 1), .int .i64 (ofL (ent zs k) 2), .int .i64 (ofL (ent zs k) 3), .int .i64 (ofL (ent zs k) 4), .int .i64 (ofL (ent zs k) 5)] 58)).heap.size) := fun q => by
            have hz : (((w1.alloc (.cells #[.int .i64 ((l1 : Int)), .int .i64 (ofL (ent zs k) 0), .int .i64 (ofL (ent zs k) 1), .int .i64 (ofL (ent zs k) 2), .int .i64 (ofL (ent zs k) 3), .int .i64 (ofL (ent zs k) 4), .int .i64 (ofL (ent zs k) 5)] 58)).drewN q).alloc (.cells #[.int .i64 ((l1 : Int)), .int .i64 (ofL (ent zs k) 0), .int .i64 (ofL (ent zs k) 1), .int .i64 (ofL (ent zs k) 2), .int .i64 (ofL (ent zs k) 3), .int .i64 (ofL (ent zs k) 4), .int .i64 (ofL (ent zs k) 5)] 58)).heap.size = w1.heap.size + 1 + 1 := by rw [World.size_alloc]; show (w1.alloc (.cells #[.int .i64 ((l1 : Int)), .int .i64 (ofL (ent zs k) 0), .int .i64 (ofL (ent zs k) 1), .int .i64 (ofL (ent zs k) 2), .int .i64 (ofL (ent zs k) 3), .int .i64 (ofL (ent zs k) 4), .int .i64 (ofL (ent zs k) 5)] 58)).heap.size + 1 = _; simp
            rw [hz]; omega
          have HB2 : Hid (∀ q, Below w.heap.size w (((w1.alloc (.cells #[.int .i64 ((l1 : Int)), .int .i64 (ofL (ent zs k) 0), .int .i64 (ofL (ent zs k) 1), .int .i64 (ofL (ent zs k) 2), .int .i64 (ofL (ent zs k) 3), .int .i64 (ofL (ent zs k) 4), .int .i64 (ofL (ent zs k) 5)] 58)).drewN q).alloc (.cells #[.int .i64 ((l1 : Int)), .int .i64 (ofL (ent zs k) 0), .int .i64 (ofL (ent zs k) 1), .int .i64 (ofL (ent zs k) 2), .int .i64 (ofL (ent zs k) 3), .int .i64 (ofL (ent zs k) 4), .int .i64 (ofL (ent zs k) 5)] 58))) := fun q => (below_drewN (hB1.alloc hs1 (.cells #[.int .i64 ((l1 : Int)), .int .i64 (ofL (ent zs k) 0), .int .i64 (ofL (ent zs k) 1), .int .i64 (ofL (ent zs k) 2), .int .i64 (ofL (ent zs k) 3), .int .i64 (ofL (ent zs k) 4), .int .i64 (ofL (ent zs k) 5)] 58)) q).alloc (by show _ ≤ (w1.alloc (.cells #[.int .i64 ((l1 : Int)), .int .i64 (ofL (ent zs k) 0), .int .i64 (ofL (ent zs k) 1), .int .i64 (ofL (ent zs k) 2), .int .i64 (ofL (ent zs k) 3), .int .i64 (ofL (ent zs k) 4), .int .i64 (ofL (ent zs k) 5)] 58)).heap.size; simp; omega) (.cells #[.int .i64 ((l1 : Int)), .int .i64 (ofL (ent zs k) 0), .int .i64 (ofL (ent zs k) 1), .int .i64 (ofL (ent zs k) 2), .int .i64 (ofL (ent zs k) 3), .int .i64 (ofL (ent zs k) 4), .int .i64 (ofL (ent zs k) 5)] 58)
          go_wp2
          go_quiet (fail)
          all_goals go_wp2_with (at_builtin; refine wpList_append_own _ rfl _ _ 65 rfl w.heap.size 58 i1 (.agg #[.int .i64 ((0 : Int)), .int .i64 ((fun _ => (0 : Int)) 0), .int .i64 ((fun _ => (0 : Int)) 1), .int .i64 ((fun _ => (0 : Int)) 2), .int .i64 ((fun _ => (0 : Int)) 3), .int .i64 ((fun _ => (0 : Int)) 4), .int .i64 ((fun _ => (0 : Int)) 5)]) 7 56 Tryz.underlying65 hj hj0 hj1 hj2 rfl (by decide) _ _ _ rfl (HRW.out _) ⟨w1.heap.size + 1, 0, none⟩ 1 1 (c7 l1 (ofL (ent zs k))) rfl rfl (HCL.out _) (c7_one _ _) p1 p2 (HP3.out _) ?_; intro v' w4 hown' hgrow _)
          all_goals go_roundw
          case rel => exact ⟨k + 1, by omega, by go_num, by rw [HL0.out]; exact HS1, (by have h2 := hown'; rw [HD.out] at h2; rw [HL0.out, HTK.out]; exact h2), (HB2.out nq).grown hgrow (HP3.out nq) (fun g e => ((HRW.out nq).lt g e).1)⟩
          case measure => simp [intOf]; omega
        · have HF := Lib.hid (HNO.out (by rw [decide_eq_false hd, Bool.and_false]))
          have hbe : (((ent zs k).length : Int) != ((ent zs 0).length : Int)) = true := by simp; omega
          have hc2' := (World.cell?_alloc_lt w1 (.cells #[.int .i64 (((ent zs k).length : Int)), .int .i64 (ofL (ent zs k) 0), .int .i64 (ofL (ent zs k) 1), .int .i64 (ofL (ent zs k) 2), .int .i64 (ofL (ent zs k) 3), .int .i64 (ofL (ent zs k) 4), .int .i64 (ofL (ent zs k) 5)] 58) ad hbk1).trans hc2
          obtain ⟨b0, b1, b2, b3, b4, b5, b6⟩ := (Cb.new w1 ((ent zs k).length : Int) (ofL (ent zs k))).all
          clear hC hd hc2
          generalize (ent zs k).length = l1 at *
          generalize (ent zs 0).length = l0 at *
          go_wp2
          go_quiet (fail)
          all_goals go_wp2
          all_goals go_ret2
          all_goals exact ⟨_, by rw [HC.out, HF.out]; rfl, fun e => (by rw [HC.out, HF.out] at e; cases e), fun _ => rfl, below_drewN (hB1.alloc hB1.size _) _⟩
    · obtain rfl : k = n := by omega
      have HF : Hid (chB zs = true) := by
        show _ = _
        have := HT.out
        rw [List.take_of_length_le (by rw [HL.out]; exact Nat.le_refl _)] at this
        unfold chB; rw [this, HL.out, Bool.true_and]; exact decide_eq_true (by omega)
      have HTK : Hid (zs.take k = zs) := List.take_of_length_le (by rw [HL.out]; exact Nat.le_refl _)
      go_wp2
      go_ret2
      exact ⟨_, by rw [HC.out, HF.out]; rfl, fun _ => by rw [HTK.out] at hrow; exact hrow, fun e => (by rw [HC.out, HF.out] at e; cases e), hB⟩
end

end Go.Proofs.YtkfiehndlgplgaaGreatDoor
