/-
  Stl.
-/
import Derived.StillTailTactics
import Derived.OrdersIn
import Derived.Test.YtonoepggcgjfhaaMA
namespace Go.Proofs.Ytonoepggcgjfhaa
set_option maxRecDepth 100000
set_option linter.unusedVariables false
set_option linter.unusedSimpArgs false
set_option linter.unusedSectionVars false

/-! A region that draws its order, inside a fence or a round, whose operations read but for a tail of stores: one order serves. -/
section
open Go

/-- operations that neither call nor put off -/
def plainO (o : Oper) : Bool :=
  match o.op with
  | .move _ => true
  | .assign _ => true
  | .load _ _ => true
  | .store _ _ _ => true
  | .nilCheck _ => true
  | .fieldAddr _ _ _ => true
  | .indexAddr _ _ _ => true
  | .binOp _ _ _ _ _ => true
  | _ => false
section
variable {P : Program} {w : World}
def NoEnter (r : Result Next) : Prop := ∀ f args w', r ≠ .ok (.enter f args) w'
theorem noEnter_bind {α : Type} {m : Sem α} {g : α → Sem Next} (h : ∀ x w1, NoEnter ((g x).run P w1)) : NoEnter ((m >>= g).run P w) := fun f args w' e => by
  rw [Sem.run_bind] at e
  cases hm : m.run P w with
  | ok x w1 => rw [hm] at e; exact h x w1 f args w' e
  | halt x w1 => rw [hm] at e; simp [Result.andThen] at e
theorem noEnter_pure (u : Value) : NoEnter ((pure (Next.value u) : Sem Next).run P w) := fun f args w' e => by simp at e
theorem noEnter_v (m : Sem Value) : NoEnter ((do pure (Next.value (← m)) : Sem Next).run P w) := fun f args w' e => by
  rw [Sem.run_bind] at e
  cases hm : m.run P w with
  | ok x w1 => rw [hm] at e; simp [Result.andThen] at e
  | halt x w1 => rw [hm] at e; simp [Result.andThen] at e
theorem noEnter_u (m : Sem Unit) : NoEnter ((do m; pure Next.skip : Sem Next).run P w) := fun f args w' e => by
  rw [Sem.run_bind] at e
  cases hm : m.run P w with
  | ok x w1 => rw [hm] at e; simp [Result.andThen] at e
  | halt x w1 => rw [hm] at e; simp [Result.andThen] at e
theorem plain_noEnter {o : Oper} (h : plainO o = true) (ρ : Operand → Value) : NoEnter ((execOp ρ o).run P w) := by
  unfold plainO at h
  unfold execOp
  cases ho : o.op <;> simp only [ho] at h ⊢ <;> first
    | (cases h; done)
    | exact noEnter_v _
    | exact noEnter_u _
    | (intro f args w' e; simp at e; done)
    | skip
  rename_i x
  intro f args w' e
  cases hx : ρ x <;> simp only [hx] at e <;> first
    | (simp [runtimePanic] at e; done)
    | skip
  case nilCheck.pointer => rename_i y; cases y <;> simp [runtimePanic] at e
  case nilCheck.func =>
    rename_i fn first captured
    cases fn <;> simp only at e <;> first
      | (simp at e; done)
      | skip
    split at e <;> first
      | (simp [runtimePanic] at e; done)
      | skip
    refine noEnter_bind (fun y w1 => noEnter_bind (fun z w2 => ?_)) f args w' e
    split
    · exact noEnter_bind (fun _ _ => noEnter_pure _)
    · exact noEnter_pure _
end
section
variable {F : Fence} {n : Nat} {P : Program} {ops : Array Oper} {md : Region.Mode} {w : World}
theorem plain_about {o : Oper} (h : plainO o = true) (ρ : Operand → Value) : o.about P w ρ = none := by
  unfold plainO at h
  unfold Oper.about
  cases ho : o.op <;> simp only [ho] at h ⊢ <;> first | (cases h; done) | rfl
theorem plain_defer {o : Oper} (h : plainO o = true) : ∀ c, o.op ≠ .defer c := fun c e => by
  unfold plainO at h; rw [e] at h; cases h
theorem wpIn_of_still {o : Oper} {a : Act} {K : Act → Prop} {K' : Act → World → Prop} {Q' : Exit → Act → World → Prop} (hp : plainO o = true) (h : ∀ a, K a → K' a w) (hh : o.still P a w K) : o.wpIn F n P a w K' Q' := by
  refine ⟨fun f hf => (by rw [plain_about hp] at hf; cases hf), ?_⟩
  rw [Oper.semAt_eq _ _ _ (plain_defer hp)]
  have hne := plain_noEnter (P := P) (w := w) hp a.eval
  unfold Oper.still at hh
  generalize (execOp a.eval o).run P w = r at *
  cases r with
  | ok n w' =>
    cases n <;> simp only [Oper.stillUpon] at hh <;> simp only [Oper.uponIn]
    case enter f args => exact absurd rfl (hne f args w')
    all_goals (obtain ⟨rfl, h2⟩ := hh; exact h _ h2)
  | halt x w' => simp only [Oper.stillUpon] at hh
theorem wpOpIn_of_stOp {i : Nat} {a : Act} {K : Act → Prop} {K' : Act → World → Prop} {Q' : Exit → Act → World → Prop} (hp : ∀ o, ops[i]? = some o → plainO o = true) (h : ∀ a, K a → K' a w) (hh : stOp P ops w i K a) : wpOpIn F n P ops Q' i K' a w := by
  unfold stOp at hh
  unfold wpOpIn
  split
  · rename_i ho; simp only [ho] at hh; exact h _ hh
  · rename_i o ho
    simp only [ho] at hh
    split
    · rename_i hw; simp only [hw, if_true] at hh; exact wpIn_of_still (hp o ho) h hh
    · rename_i hw; simp only [hw] at hh; exact ⟨fun f hf => (by rw [plain_about (hp o ho)] at hf; cases hf), h _ hh⟩
theorem wpAnyIn_of_head {k g : Nat} {L : Array Bool → Act → Prop} {Q' : Exit → Act → World → Prop} (hp : ∀ (i : Nat) (o : Oper), ops[i]? = some o → plainO o = true) (hL : ∀ listed a, L listed a → wpAnyIn F n P md ops Q' g listed a w) :
    ∀ (f : Nat) (listed : Array Bool) (a : Act), wpAnyL P md ops w k L f listed a → wpAnyIn F n P md ops Q' (f + g) listed a w
  | 0, listed, a, h => by rw [Nat.zero_add]; exact hL _ _ h
  | f + 1, listed, a, h => by
    rw [show f + 1 + g = (f + g) + 1 by omega]
    exact ⟨fun h0 => absurd h0 h.1, fun i hi => wpOpIn_of_stOp (hp i) (fun a' h' => wpAnyIn_of_head hp hL f _ a' h') (h.2 i hi).2⟩
theorem wpAnyIn_of_seq {Q' : Exit → Act → World → Prop} : ∀ (l : List Oper) (k : Nat) (listed : Array Bool) (a : Act) (w : World), (∀ j, l[j]? = ops[k + j]?) →
    Region.seqB md ops l.length k listed = true → wpListIn F n P ops Q' l a w → wpAnyIn F n P md ops Q' l.length listed a w
  | [], _, _, _, _, _, hB, h => ⟨by simpa [Region.seqB] using hB, h⟩
  | o :: l, k, listed, a, w, hl, hB, h => by
    have h0 : ops[k]? = some o := by simpa using (hl 0).symm
    simp only [List.length_cons, Region.seqB, Bool.and_eq_true, decide_eq_true_eq] at hB
    refine ⟨fun h1 => (by rw [hB.1] at h1; cases h1), fun i hi => ?_⟩
    rw [hB.1] at hi
    have hik : i = k := by simpa using hi
    subst hik
    have hw : wpOpIn F n P ops Q' i (wpListIn F n P ops Q' l) a w := by unfold wpOpIn; simp only [h0]; exact h
    exact wpOpIn_mono (fun a' w' h' => wpAnyIn_of_seq l (i + 1) _ a' w' (fun j => by have := hl (j + 1); simpa [Nat.add_assoc, Nat.add_comm 1 j] using this) hB.2 h') hw
theorem wpIn_region_still_tail {id : Nat} {Q : Exit → Act → World → Prop} {a : Act} {w : World} {l : List Oper} (k : Nat) (hm : P.follows .mixedOrders = true) (hB : Region.lexTailB .any l.toArray k = true) (hp : l.all plainO = true)
    (h : wpStill P l.toArray { w with drawn := w.drawn + 1 } (fun a' => wpListIn F n P l.toArray Q (l.drop k) a' { w with drawn := w.drawn + 1 }) (l.take k) a) : (Code.region id l.toArray true).wpIn F n P Q a w := by
  simp only [Region.lexTailB, Bool.and_eq_true, decide_eq_true_eq] at hB
  obtain ⟨⟨⟨⟨hsel, hn⟩, hs⟩, hc⟩, hlex⟩ := hB
  have hpl : ∀ (i : Nat) (o : Oper), l.toArray[i]? = some o → plainO o = true := fun i o ho => List.all_eq_true.1 hp o (List.mem_of_getElem? (i := i) (by simpa using ho))
  have hn' : k < l.length := by simpa using hn
  have htl : (l.take k).length = k := by simp; omega
  have hdl : (l.drop k).length = l.toArray.size - k := by simp
  have inv0 : HeadInv .any l.toArray k (Array.replicate l.toArray.size false) :=
    ⟨by simp, fun j oj _ hl => (by rw [getD_replicate_false] at hl; cases hl), fun t _ ht => getD_in (by simpa using ht) (getD_replicate_false _ _)⟩
  have H := wpAnyL_lex (md := .any) (g := l.toArray.size - k) hsel hs hc hn (l.take k) 0 _ a (fun j hj => by
    have hj' : j < k := by rw [htl] at hj; exact hj
    simp [hj']) (by simpa using htl) inv0 (by rw [htl]; exact hlex) h
  refine wpIn_region_any hm ?_
  have := wpAnyIn_of_head (F := F) (n := n) (Q' := Q) (g := l.toArray.size - k) hpl (fun listed a' hL => by
    have := wpAnyIn_of_seq (F := F) (n := n) (md := .any) (Q' := Q) (l.drop k) k listed a' { w with drawn := w.drawn + 1 } (fun j => by simp [List.getElem?_drop]) (by rw [hdl]; exact hL.1) hL.2
    rwa [hdl] at this) _ _ _ H
  rw [htl, show k + (l.toArray.size - k) = l.toArray.size by omega] at this
  exact this
end
end

end Go.Proofs.Ytonoepggcgjfhaa
