/-
  Pm.
-/
import Derived.Test.YtlfbocmcbkcfhaaDoorUI
namespace Go.Proofs.YtlfbocmcbkcfhaaDoor
set_option maxRecDepth 100000
set_option linter.unusedVariables false
set_option linter.unusedSimpArgs false
set_option linter.unusedSectionVars false

/-! What the promises of chapter 4 say of trees as they are answered: t·t⁻¹·t, (t·u)·t, turned twice. -/
section
open Go.RowKit

theorem ok_tin {S : List (List (Fin 4))} {u : List (Fin 4)} (hT : Tin S) (hu : u ∈ S) : TinS (resL (some (S, u))) (resE (some (S, u))) S u := ⟨rfl, rfl, hu, hT⟩
theorem tinS_of {L : List (List (Fin 4))} {u : List (Fin 4)} (T : Tre L) (ho : Ord L) (hu : u ∈ L) (hs : smlB L = true) : TinS (resL (some (L, u))) (resE (some (L, u))) L u := by
  obtain ⟨X, v, h⟩ := (tinq_sml T ho hu).2 hs
  have e1 : X = L := strs_inj h.1.symm
  have e2 : v = u := strOf_inj h.2.1.symm
  subst e1; subst e2
  exact h
theorem nil_mem {S : List (List (Fin 4))} (h : Tin S) : [] ∈ S := h.nil

/-! ### turned -/
theorem turn_some {zs : List ByteArray} {s : ByteArray} {S : List (List (Fin 4))} {u : List (Fin 4)} (h : TinS zs s S u) {R : Option (List (List (Fin 4)) × List (Fin 4))} (hk : TurnOk zs s R) :
    ∃ L, Ord L ∧ Tre L ∧ invW u ∈ L ∧ (∀ x, x ∈ L ↔ ∃ v ∈ S, x = mulW (invW u) v) ∧ R = if smlB L = true then some (L, invW u) else none := by
  rcases hk with ⟨hn, _⟩ | ⟨S', u', L, h', ho, hL, hR⟩
  · exact absurd ⟨_, _, h⟩ hn
  · obtain ⟨rfl, rfl⟩ := h.uniq h'
    exact ⟨L, ho, tre_turn h.2.2.2 h.2.2.1 ho hL, (hL _).2 ⟨[], h.2.2.2.nil, rfl⟩, hL, hR⟩
theorem turn_at {zs : List ByteArray} {s : ByteArray} {S : List (List (Fin 4))} {u : List (Fin 4)} (h : TinS zs s S u) {R : Option (List (List (Fin 4)) × List (Fin 4))} (hk : TurnOk zs s R) (hR : R.isSome = true) :
    ∃ L, (∀ x, x ∈ L ↔ ∃ v ∈ S, x = mulW (invW u) v) ∧ R = some (L, invW u) ∧ TinS (resL R) (resE R) L (invW u) := by
  obtain ⟨L, ho, hT, he, hL, e⟩ := turn_some h hk
  cases hs : smlB L with
  | false => rw [e, hs] at hR; simp at hR
  | true =>
    rw [hs] at e
    simp only [if_pos] at e
    subst e
    exact ⟨L, hL, rfl, tinS_of hT ho he hs⟩
theorem turn_no {zs : List ByteArray} {s : ByteArray} (h : ¬ TinQ zs s) {R : Option (List (List (Fin 4)) × List (Fin 4))} (hk : TurnOk zs s R) : R = none := by
  rcases hk with ⟨_, e⟩ | ⟨S', u', L, h', _⟩
  · exact e
  · exact absurd ⟨_, _, h'⟩ h
theorem turn_tin {zs : List ByteArray} {s : ByteArray} {R : Option (List (List (Fin 4)) × List (Fin 4))} (hk : TurnOk zs s R) (hR : R.isSome = true) : ∃ S u, TinS zs s S u := by
  rcases hk with ⟨_, e⟩ | ⟨S', u', L, h', _⟩
  · rw [e] at hR; cases hR
  · exact ⟨_, _, h'⟩
/-! ### times -/
theorem times_at {zs ys : List ByteArray} {s t : ByteArray} {S S' : List (List (Fin 4))} {u u' : List (Fin 4)} (h : TinS zs s S u) (h' : TinS ys t S' u') {R : Option (List (List (Fin 4)) × List (Fin 4))} (hk : TimesOk zs ys s t R) (hR : R.isSome = true) :
    ∃ L, (∀ x, x ∈ L ↔ x ∈ S ∨ ∃ v ∈ S', x = mulW u v) ∧ R = some (L, mulW u u') ∧ TinS (resL R) (resE R) L (mulW u u') := by
  rcases hk with ⟨hn, _⟩ | ⟨X, v, X', v', L, k1, k2, ho, hL, e⟩
  · exact absurd ⟨⟨_, _, h⟩, ⟨_, _, h'⟩⟩ hn
  · obtain ⟨rfl, rfl⟩ := h.uniq k1
    obtain ⟨rfl, rfl⟩ := h'.uniq k2
    have hT := tre_mul h.2.2.2 h.2.2.1 h'.2.2.2 ho hL
    have he : mulW u u' ∈ L := (hL _).2 (.inr ⟨u', h'.2.2.1, rfl⟩)
    cases hs : smlB L with
    | false => rw [e, hs] at hR; simp at hR
    | true =>
      rw [hs] at e
      simp only [if_pos] at e
      subst e
      exact ⟨L, hL, rfl, tinS_of hT ho he hs⟩
theorem times_tin {zs ys : List ByteArray} {s t : ByteArray} {R : Option (List (List (Fin 4)) × List (Fin 4))} (hk : TimesOk zs ys s t R) (hR : R.isSome = true) : (∃ S u, TinS zs s S u) ∧ ∃ S u, TinS ys t S u := by
  rcases hk with ⟨_, e⟩ | ⟨X, v, X', v', L, k1, k2, _⟩
  · rw [e] at hR; cases hR
  · exact ⟨⟨_, _, k1⟩, ⟨_, _, k2⟩⟩
theorem tin_eq {zs ys : List ByteArray} {s t : ByteArray} {S S' : List (List (Fin 4))} {u u' : List (Fin 4)} (h : TinS zs s S u) (h' : TinS ys t S' u') (hS : ∀ x, x ∈ S ↔ x ∈ S') (hu : u = u') : zs = ys ∧ s = t := by
  have := ord_eq h.2.2.2.ord h'.2.2.2.ord hS
  subst this; subst hu
  exact ⟨h.1.trans h'.1.symm, h.2.1.trans h'.2.1.symm⟩

abbrev TR := Option (List (List (Fin 4)) × List (Fin 4))
/-- t·t⁻¹ -/
theorem own_at {zs : List ByteArray} {s : ByteArray} {R1 R2 : TR} {S : List (List (Fin 4))} {u : List (Fin 4)} (h : TinS zs s S u) (h1 : TurnOk zs s R1) (s1 : R1.isSome = true) (h2 : TimesOk zs (resL R1) s (resE R1) R2) (s2 : R2.isSome = true) :
    TinS (resL R2) (resE R2) S [] := by
  obtain ⟨L1, hL1, e1, t1⟩ := turn_at h h1 s1
  obtain ⟨L2, hL2, e2, t2⟩ := times_at h t1 h2 s2
  have hr := h.2.2.2.rd u h.2.2.1
  rw [mul_inv hr] at t2
  have hS : L2 = S := ord_eq t2.2.2.2.ord h.2.2.2.ord fun x => (hL2 x).trans ⟨fun hx => by
    rcases hx with hx | ⟨v, hv, rfl⟩
    · exact hx
    · obtain ⟨y, hy, rfl⟩ := (hL1 v).1 hv
      rw [mul_inv_cancel hr (h.2.2.2.rd y hy)]; exact hy, .inl⟩
  rw [hS] at t2
  exact t2
/-- t·t⁻¹·t = t -/
theorem tree_law {zs : List ByteArray} {s : ByteArray} {R1 R2 R3 : TR} (h : TinQ zs s) (h1 : TurnOk zs s R1) (s1 : R1.isSome = true) (h2 : TimesOk zs (resL R1) s (resE R1) R2) (s2 : R2.isSome = true)
    (h3 : TimesOk (resL R2) zs (resE R2) s R3) (s3 : R3.isSome = true) : resL R3 = zs ∧ resE R3 = s := by
  obtain ⟨S, u, h⟩ := h
  have t2 := own_at h h1 s1 h2 s2
  obtain ⟨L3, hL3, e3, t3⟩ := times_at t2 h h3 s3
  exact tin_eq t3 h (fun x => (hL3 x).trans ⟨fun hx => by
    rcases hx with hx | ⟨v, hv, rfl⟩
    · exact hx
    · rw [nil_mulW (h.2.2.2.rd v hv)]; exact hv, .inl⟩) (nil_mulW (h.2.2.2.rd u h.2.2.1))
/-- below: t·t⁻¹·u = t -/
theorem below_law {zs ys : List ByteArray} {s t : ByteArray} {R1 R2 R3 : TR} {S S' : List (List (Fin 4))} {u : List (Fin 4)} (h : TinS zs s S u) (h' : TinS ys t S' u) (hsub : ∀ x ∈ S', x ∈ S) (h1 : TurnOk zs s R1) (s1 : R1.isSome = true) (h2 : TimesOk zs (resL R1) s (resE R1) R2) (s2 : R2.isSome = true)
    (h3 : TimesOk (resL R2) ys (resE R2) t R3) (s3 : R3.isSome = true) : resL R3 = zs ∧ resE R3 = s := by
  have t2 := own_at h h1 s1 h2 s2
  obtain ⟨L3, hL3, e3, t3⟩ := times_at t2 h' h3 s3
  exact tin_eq t3 h (fun x => (hL3 x).trans ⟨fun hx => by
    rcases hx with hx | ⟨v, hv, rfl⟩
    · exact hx
    · rw [nil_mulW (h'.2.2.2.rd v hv)]; exact hsub v hv, .inl⟩) (nil_mulW (h'.2.2.2.rd u h'.2.2.1))
/-- idempotent: t·t = t -/
theorem idem_law {zs : List ByteArray} {s : ByteArray} {R : TR} (h : TinQ zs s) (he : s = ⟨#[]⟩) (h1 : TimesOk zs zs s s R) (s1 : R.isSome = true) : resL R = zs ∧ resE R = s := by
  obtain ⟨S, u, h⟩ := h
  have hu : u = [] := strOf_inj (h.2.1.symm.trans (he.trans (show (⟨#[]⟩ : ByteArray) = strOf [] from rfl)))
  subst hu
  obtain ⟨L, hL, e, t⟩ := times_at h h h1 s1
  exact tin_eq t h (fun x => (hL x).trans ⟨fun hx => by
    rcases hx with hx | ⟨v, hv, rfl⟩
    · exact hx
    · rw [nil_mulW (h.2.2.2.rd v hv)]; exact hv, .inl⟩) (nil_mulW (h.2.2.2.rd [] h.2.2.1))
/-- idempotent: t⁻¹ = t -/
theorem idem_turn {zs : List ByteArray} {s : ByteArray} {R : TR} (h : TinQ zs s) (he : s = ⟨#[]⟩) (h1 : TurnOk zs s R) : R.isSome = true ∧ resL R = zs ∧ resE R = s := by
  obtain ⟨S, u, h⟩ := h
  have hu : u = [] := strOf_inj (h.2.1.symm.trans (he.trans (show (⟨#[]⟩ : ByteArray) = strOf [] from rfl)))
  subst hu
  obtain ⟨L, ho, hT, hm, hL, e⟩ := turn_some h h1
  have hS : L = S := ord_eq ho h.2.2.2.ord fun x => (hL x).trans ⟨fun ⟨v, hv, e⟩ => by rw [e, invW_nil, nil_mulW (h.2.2.2.rd v hv)]; exact hv, fun hx => ⟨x, hx, by rw [invW_nil, nil_mulW (h.2.2.2.rd x hx)]⟩⟩
  subst hS
  rw [h.2.2.2.sml] at e
  simp only [if_pos] at e
  subst e
  exact ⟨rfl, h.1.symm, h.2.1.symm⟩
/-- turned twice, and of the same size -/
theorem turn_law {zs : List ByteArray} {s : ByteArray} {R1 R2 : TR} (h1 : TurnOk zs s R1) (s1 : R1.isSome = true) (h2 : TurnOk (resL R1) (resE R1) R2) : (R2.isSome = true → resL R2 = zs ∧ resE R2 = s) ∧ (resL R1).length = zs.length := by
  obtain ⟨S, u, h⟩ := turn_tin h1 s1
  obtain ⟨L1, hL1, e1, t1⟩ := turn_at h h1 s1
  have hr := h.2.2.2.rd u h.2.2.1
  refine ⟨fun s2 => ?_, ?_⟩
  · obtain ⟨L2, hL2, e2, t2⟩ := turn_at t1 h2 s2
    rw [invW_invW] at t2 hL2
    exact tin_eq t2 h (fun x => (hL2 x).trans ⟨fun ⟨v, hv, e⟩ => by
      obtain ⟨y, hy, rfl⟩ := (hL1 v).1 hv
      rw [e, mul_inv_cancel hr (h.2.2.2.rd y hy)]; exact hy, fun hx => ⟨mulW (invW u) x, (hL1 _).2 ⟨x, hx, rfl⟩, by rw [mul_inv_cancel hr (h.2.2.2.rd x hx)]⟩⟩) rfl
  · have hp : L1.Perm (S.map (mulW (invW u))) := (List.perm_ext_iff_of_nodup (ord_nodup t1.2.2.2.ord) (List.Pairwise.map _ (R := fun a b => a ∈ S ∧ b ∈ S ∧ a ≠ b) (fun a b hab e => hab.2.2 (by
        have := congrArg (mulW u) e
        rwa [mul_inv_cancel hr (h.2.2.2.rd a hab.1), mul_inv_cancel hr (h.2.2.2.rd b hab.2.1)] at this)) (List.Pairwise.imp_of_mem (fun ha hb hne => ⟨ha, hb, hne⟩) (ord_nodup h.2.2.2.ord)))).2 fun x => by
        rw [hL1 x, List.mem_map]
        exact ⟨fun ⟨v, hv, e⟩ => ⟨v, hv, e.symm⟩, fun ⟨v, hv, e⟩ => ⟨v, hv, e.symm⟩⟩
    have := hp.length_eq
    rw [List.length_map] at this
    rw [t1.1, h.1, List.length_map, List.length_map, this]
/-- (t·u)·t = t·(u·t) -/
theorem assoc_law {zs ys : List ByteArray} {s t : ByteArray} {R Ra Rb Rc : TR} (h : TimesOk zs ys s t R) (s0 : R.isSome = true) (ha : TimesOk (resL R) zs (resE R) s Ra) (sa : Ra.isSome = true) (hb : TimesOk ys zs t s Rb) (sb : Rb.isSome = true)
    (hc : TimesOk zs (resL Rb) s (resE Rb) Rc) (sc : Rc.isSome = true) : resL Ra = resL Rc ∧ resE Ra = resE Rc := by
  obtain ⟨⟨S, u, h1⟩, S', u', h2⟩ := times_tin h s0
  obtain ⟨L, hL, _, t0⟩ := times_at h1 h2 h s0
  obtain ⟨La, hLa, _, ta⟩ := times_at t0 h1 ha sa
  obtain ⟨Lb, hLb, _, tb⟩ := times_at h2 h1 hb sb
  obtain ⟨Lc, hLc, _, tc⟩ := times_at h1 tb hc sc
  have hr := h1.2.2.2.rd u h1.2.2.1
  refine tin_eq ta tc (fun x => ?_) (mulW_assoc hr u' u).symm
  rw [hLa x, hLc x, hL x]
  constructor
  · rintro ((hx | ⟨v, hv, rfl⟩) | ⟨v, hv, rfl⟩)
    · exact .inl hx
    · exact .inr ⟨v, (hLb v).2 (.inl hv), rfl⟩
    · exact .inr ⟨mulW u' v, (hLb _).2 (.inr ⟨v, hv, rfl⟩), (mulW_assoc hr u' v).symm⟩
  · rintro (hx | ⟨v, hv, rfl⟩)
    · exact .inl (.inl hx)
    · rcases (hLb v).1 hv with hv | ⟨y, hy, rfl⟩
      · exact .inl (.inr ⟨v, hv, rfl⟩)
      · exact .inr ⟨y, hy, mulW_assoc hr u' y⟩
/-- (u·v)⁻¹ = v⁻¹·u⁻¹ in letters -/
theorem inv_mulW {u v : List (Fin 4)} (hu : Rdc u) (hv : Rdc v) : invW (mulW u v) = mulW (invW v) (invW u) := by
  have huv : Rdc (mulW u v) := mulW_rdc v hu
  have hiv := invW_rdc hv
  have e : mulW (mulW u v) (mulW (invW v) (invW u)) = [] := by
    rw [mulW_assoc huv, ← mulW_assoc hu v, mul_inv hv, mulW_nil, mul_inv hu]
  have h2 := congrArg (mulW (invW (mulW u v))) e
  rwa [inv_mul_cancel huv (mulW_rdc _ hiv), mulW_nil, eq_comm] at h2
/-- (t·u)⁻¹ = u⁻¹·t⁻¹ -/
theorem turn_times_law {zs ys : List ByteArray} {s t : ByteArray} {R Rd Re Rf Rg : TR} (h : TimesOk zs ys s t R) (s0 : R.isSome = true) (hd : TurnOk (resL R) (resE R) Rd) (sd : Rd.isSome = true) (he : TurnOk ys t Re) (se : Re.isSome = true)
    (hf : TurnOk zs s Rf) (sf : Rf.isSome = true) (hg : TimesOk (resL Re) (resL Rf) (resE Re) (resE Rf) Rg) (sg : Rg.isSome = true) : resL Rd = resL Rg ∧ resE Rd = resE Rg := by
  obtain ⟨⟨S, u, h1⟩, S', u', h2⟩ := times_tin h s0
  obtain ⟨L, hL, _, t0⟩ := times_at h1 h2 h s0
  obtain ⟨Ld, hLd, _, td⟩ := turn_at t0 hd sd
  obtain ⟨Le, hLe, _, te⟩ := turn_at h2 he se
  obtain ⟨Lf, hLf, _, tf⟩ := turn_at h1 hf sf
  obtain ⟨Lg, hLg, _, tg⟩ := times_at te tf hg sg
  have hr := h1.2.2.2.rd u h1.2.2.1
  have hr' := h2.2.2.2.rd u' h2.2.2.1
  have hi := invW_rdc hr
  have hi' := invW_rdc hr'
  have hinv := inv_mulW hr hr'
  refine tin_eq td tg (fun x => ?_) hinv
  rw [hLd x, hLg x, hinv]
  constructor
  · rintro ⟨v, hv, rfl⟩
    rcases (hL v).1 hv with hv | ⟨y, hy, rfl⟩
    · exact .inr ⟨mulW (invW u) v, (hLf _).2 ⟨v, hv, rfl⟩, (mulW_assoc hi' _ _).symm⟩
    · refine .inl ((hLe _).2 ⟨y, hy, ?_⟩)
      rw [← mulW_assoc hi', inv_mul_cancel hr (h2.2.2.2.rd y hy)]
  · rintro (hx | ⟨v, hv, rfl⟩)
    · obtain ⟨y, hy, rfl⟩ := (hLe x).1 hx
      exact ⟨mulW u y, (hL _).2 (.inr ⟨y, hy, rfl⟩), by rw [← mulW_assoc hi', inv_mul_cancel hr (h2.2.2.2.rd y hy)]⟩
    · obtain ⟨y, hy, rfl⟩ := (hLf v).1 hv
      exact ⟨y, (hL _).2 (.inl hy), mulW_assoc hi' _ _⟩
end

end Go.Proofs.YtlfbocmcbkcfhaaDoor
