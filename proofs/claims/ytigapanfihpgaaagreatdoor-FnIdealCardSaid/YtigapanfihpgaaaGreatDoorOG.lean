/-
  Rch.
-/
import Derived.Maps.AppendAt
import Derived.Test.YtigapanfihpgaaaGreatDoorNW
import Derived.Test.YtigapanfihpgaaaGreatDoorOC
namespace Go.Proofs.YtigapanfihpgaaaGreatDoor
set_option maxRecDepth 100000
set_option linter.unusedVariables false
set_option linter.unusedSimpArgs false
set_option linter.unusedSectionVars false

/-! impl.reached: some charts and all that come of them, each once. -/
section
open Go.RowKit Go.Maps

/-- all that is reached: each once, all of them reached, and if they are not too many, nothing is missing -/
structure Rchd (start : List (List Int)) (nx : List Int → List Int → Prop) (all : List (List Int)) : Prop where
  nodup : all.Nodup
  from_ : ∀ P : List Int → Prop, (∀ L ∈ start, P L) → (∀ L, P L → ∀ M, nx L M → P M) → ∀ L ∈ all, P L
  ends : all.length ≤ 400 → (∀ L ∈ start, L ∈ all) ∧ ∀ L ∈ all, ∀ M, nx L M → M ∈ all

abbrev ttD {H : Type} : DataW H := .lit (.bool true)
theorem set_at {H : Type} (k : Lit) : ∀ (acc : List Lit) (D : DataW H), IsMap D → (∀ x ∈ acc, WideAt.IsKeyLit x) → (acc.foldl (fun m x => m.put x ttD) D).atKey k (.lit (.bool false)) = if acc.any (fun x => x.sameKey k) = true then ttD else D.atKey k (.lit (.bool false))
  | [], D, _, _ => by simp
  | x :: r, D, hD, h => by
    rw [List.foldl_cons, set_at k r (D.put x ttD) (hD.put x _) (fun y hy => h y (by simp [hy])), List.any_cons]
    by_cases hr : r.any (fun x => x.sameKey k) = true
    · rw [if_pos hr, if_pos (by rw [hr, Bool.or_true])]
    · rw [if_neg hr]
      by_cases e : k = x
      · subst e
        rw [if_pos (by rw [WideAt.sameKey_self (h k (by simp)), Bool.true_or]), atKey_put_same hD (h k (by simp))]
      · have h1 : x.sameKey k = false := sameKey_ne (fun e' => e e'.symm)
        have h2 : r.any (fun x => x.sameKey k) = false := by simpa using hr
        rw [if_neg (by rw [h1, h2]; simp), atKey_put_other e]
theorem lookup_set {H : Type} {P : Program} {w : World} {b n : Nat} {t k e : TypeId} {acc : List Lit} (h : w.ownsMap P k (plainElem (H := H) P e) b n (setOf ttD acc)) (hk : ∀ x ∈ acc, WideAt.IsKeyLit x) (K : Keyed P k) (ht : P.underlying t = some (.map k e)) (he : P.underlying e = some .bool) (hz : (zeroValue e).run P w = .ok (.bool false) w)
    {key : Value} {kl : Lit} (hkey : keyOf P k key = some kl) : (Instr.lookup t (.map (some b)) key false).run P w = .ok (.bool (acc.any (fun x => x.sameKey kl))) w := by
  obtain ⟨v, ps, hrun, hv⟩ := h.lookup K ht hz (plainElem_bool he false) hkey
  have hs := set_at (H := H) kl acc (.map []) isMap_empty hk
  rw [show (setOf (H := H) ttD acc).atKey kl (.lit (.bool false)) = _ from hs] at hv
  cases ha : acc.any (fun x => x.sameKey kl)
  · rw [ha, if_neg (by simp)] at hv
    have e0 : (DataW.map [] : DataW H).atKey kl (.lit (.bool false)) = .lit (.bool false) := rfl
    rw [e0] at hv
    unfold plainElem at hv
    rw [he] at hv
    cases v <;> simp at hv
    obtain ⟨rfl, _⟩ := hv
    exact hrun
  · rw [ha, if_pos rfl] at hv
    unfold plainElem at hv
    rw [he] at hv
    cases v <;> simp at hv
    obtain ⟨rfl, _⟩ := hv
    exact hrun
theorem own_map_ne {H : Type} {P : Program} {w : World} {lo s n b n' : Nat} {e k : TypeId} {v : Value} {xs : List Value} {R : Value → Option (DataW H × List MemPlace)} {D : DataW H} (h : w.ownsRow lo e s v n xs) (hm : w.ownsMap P k R b n' D) : v.ownBlock ≠ some b := by
  intro he
  obtain ⟨es, clock, hb, _⟩ := hm
  rcases h.2 with ⟨rfl, _⟩ | ⟨g, cap, cur, rfl, _, hg, _⟩
  · cases he
  · have : g = b := by simpa [Value.ownBlock] using he
    subst this
    rw [hb] at hg; cases hg

theorem any_mem {zs : List (List Int)} {L : List Int} (hz : ∀ M ∈ zs, isC M = true) (hL : isC L = true) : (zs.map klL).any (fun x => x.sameKey (klL L)) = decide (L ∈ zs) := by
  rw [Bool.eq_iff_iff, any_key (klL_key L), decide_eq_true_eq, List.mem_map]
  constructor
  · rintro ⟨M, hM, e⟩; rw [← klL_inj M L (hz M hM) hL e]; exact hM
  · intro h; exact ⟨L, h, rfl⟩

/-- the state of the search: what has been met, what comes next, how many of them have been followed -/
structure Srch (start : List (List Int)) (nx : List Int → List Int → Prop) (U : List Int → Prop) (all nxt : List (List Int)) (i : Nat) : Prop where
  nodup : all.Nodup
  inU : (∀ L ∈ all, U L) ∧ ∀ L ∈ nxt, U L
  from_ : ∀ P : List Int → Prop, (∀ L ∈ start, P L) → (∀ L, P L → ∀ M, nx L M → P M) → (∀ L ∈ all, P L) ∧ ∀ L ∈ nxt, P L
  st : ∀ L ∈ start, L ∈ all ∨ L ∈ nxt
  done : ∀ j, j < i → ∀ M, nx (ent all j) M → M ∈ all ∨ M ∈ nxt
  le : i ≤ all.length
/-- the next ones are being put in -/
structure Srin (all nxt : List (List Int)) (k : Nat) (al : List (List Int)) : Prop where
  nodup : al.Nodup
  ext : ∃ es, al = all ++ es
  put : ∀ L ∈ nxt.take k, L ∈ al
  from_ : ∀ L ∈ al, L ∈ all ∨ L ∈ nxt
theorem ent_app {all es : List (List Int)} {j : Nat} (h : j < all.length) : ent (all ++ es) j = ent all j := by unfold ent; rw [List.getElem?_append_left h]
theorem take_mem {nxt : List (List Int)} {k : Nat} (hk : k < nxt.length) {L : List Int} : L ∈ nxt.take (k + 1) ↔ L ∈ nxt.take k ∨ L = ent nxt k := by
  have e : ent nxt k = nxt[k] := by unfold ent; rw [List.getElem?_eq_getElem hk]; rfl
  rw [List.take_succ_eq_append_getElem hk, List.mem_append, List.mem_singleton, e]
theorem Srin.skip {all nxt al : List (List Int)} {k : Nat} (h : Srin all nxt k al) (hk : k < nxt.length) (hm : ent nxt k ∈ al) : Srin all nxt (k + 1) al :=
  ⟨h.nodup, h.ext, fun L hL => ((take_mem hk).1 hL).elim (h.put L) (fun e => by rw [e]; exact hm), h.from_⟩
theorem Srin.add {all nxt al : List (List Int)} {k : Nat} (h : Srin all nxt k al) (hk : k < nxt.length) (hm : ent nxt k ∉ al) : Srin all nxt (k + 1) (al ++ [ent nxt k]) := by
  refine ⟨?_, ?_, fun L hL => ?_, fun L hL => ?_⟩
  · rw [List.nodup_append]
    exact ⟨h.nodup, by simp, fun x hx y hy e => hm (by simp at hy; rw [← hy, ← e]; exact hx)⟩
  · obtain ⟨es, e⟩ := h.ext; exact ⟨es ++ [ent nxt k], by rw [e, List.append_assoc]⟩
  · rcases (take_mem hk).1 hL with h' | h'
    · exact List.mem_append_left _ (h.put L h')
    · exact List.mem_append_right _ (by rw [h']; simp)
  · rcases List.mem_append.1 hL with h' | h'
    · exact h.from_ L h'
    · rw [List.mem_singleton.1 h']; exact .inr (ent_mem hk)
theorem Srch.after {start : List (List Int)} {nx : List Int → List Int → Prop} {U : List Int → Prop} {all nxt al : List (List Int)} {i : Nat} (h : Srch start nx U all nxt i) (g : Srin all nxt nxt.length al) : Srch start nx U al [] i := by
  obtain ⟨es, e⟩ := g.ext
  have hal : ∀ L, L ∈ all → L ∈ al := fun L hL => by rw [e]; exact List.mem_append_left _ hL
  have hnx : ∀ L, L ∈ nxt → L ∈ al := fun L hL => g.put L (by rw [List.take_length]; exact hL)
  refine ⟨g.nodup, ⟨fun L hL => (g.from_ L hL).elim (h.inU.1 L) (h.inU.2 L), fun L hL => by cases hL⟩, fun P h1 h2 => ⟨fun L hL => (g.from_ L hL).elim ((h.from_ P h1 h2).1 L) ((h.from_ P h1 h2).2 L), fun L hL => by cases hL⟩, fun L hL => .inl ((h.st L hL).elim (hal L) (hnx L)), fun j hj M hM => ?_, ?_⟩
  · rw [e, ent_app (by have := h.le; omega)] at hM
    exact .inl ((h.done j hj M hM).elim (hal M) (hnx M))
  · rw [e, List.length_append]; have := h.le; omega
theorem Srch.step {start : List (List Int)} {nx : List Int → List Int → Prop} {U : List Int → Prop} {al Ms : List (List Int)} {i : Nat} (h : Srch start nx U al [] i) (hi : i < al.length) (hU : ∀ M ∈ Ms, U M) (hM : ∀ M, M ∈ Ms ↔ nx (ent al i) M) : Srch start nx U al Ms (i + 1) := by
  refine ⟨h.nodup, ⟨h.inU.1, hU⟩, fun P h1 h2 => ⟨(h.from_ P h1 h2).1, fun L hL => h2 _ ((h.from_ P h1 h2).1 _ (ent_mem hi)) L ((hM L).1 hL)⟩, fun L hL => .inl ((h.st L hL).elim id (fun h => by cases h)), fun j hj M hm => ?_, hi⟩
  rcases Nat.lt_or_eq_of_le (Nat.le_of_lt_succ hj) with h' | rfl
  · exact .inl ((h.done j h' M hm).elim id (fun h => by cases h))
  · exact .inr ((hM M).2 hm)
theorem Srch.rch {start : List (List Int)} {nx : List Int → List Int → Prop} {U : List Int → Prop} {al : List (List Int)} {i : Nat} (h : Srch start nx U al [] i) (hi : al.length ≤ i ∨ 400 < al.length) : Rchd start nx al := by
  refine ⟨h.nodup, fun P h1 h2 => (h.from_ P h1 h2).1, fun h4 => ⟨fun L hL => (h.st L hL).elim id (fun h => by cases h), fun L hL M hM => ?_⟩⟩
  obtain ⟨j, hj, rfl⟩ := mem_ent hL
  exact (h.done j (by omega) M hM).elim id (fun h => by cases h)

set_option maxHeartbeats 4000000 in
theorem reached_any {U : List Int → Prop} {nx : List Int → List Int → Prop} (m K gf lo : Nat) (ca cb : Array Value) (v0 : Value) (start : List (List Int)) (hU : ∀ L, U L → isC L = true ∧ L.length = m) (hst : ∀ L ∈ start, U L) (hnx : ∀ L, U L → ∀ M, nx L M → U M) (hK : K ≤ 1048576) (hsK : start.length ≤ K) (w : World)
    (eg : ∀ args w, (callFunc gf args).run Tryz.prog w = .ok (.enter gf args) w)
    (hp : ∀ L, U L → ∀ W, Below w.heap.size w W → Calls Tryz.prog gf (ca ++ #[.agg #[.int .i64 ((m : Int)), .int .i64 (ofL L 0), .int .i64 (ofL L 1), .int .i64 (ofL L 2), .int .i64 (ofL L 3), .int .i64 (ofL L 4), .int .i64 (ofL L 5)]] ++ cb) W fun e W' => ∃ v Ms, e = .returned v ∧ W'.ownsRow W.heap.size 53 7 v Ms.length (cwc m Ms) ∧ Ms.length ≤ K ∧ (∀ M, M ∈ Ms ↔ nx L M) ∧ Below W.heap.size W W')
    (hown : w.ownsRow lo 53 7 v0 start.length (cwc m start)) :
    Calls Tryz.prog 111 #[v0, .func (.func gf) ca cb] w fun e w' => ∃ v all, e = .returned v ∧ w'.ownsRow w.heap.size 53 7 v all.length (cwc m all) ∧ Rchd start nx all ∧ (∀ L ∈ all, U L) ∧ all.length ≤ 400 + K ∧ Below w.heap.size w w' := by
  obtain ⟨i1, hj, hj0, hj1, hj2⟩ := info_parts info_chart7
  have HU := Lib.hid hU
  have HNX := Lib.hid hnx
  have HP := Lib.hid hp
  have hmm := @ run_makeMap Tryz.prog
  have hm0 := World.ownsMap_made w Tryz.prog 53 (plainElem (H := Unit) Tryz.prog 4)
  have hB0 : Below w.heap.size w (w.alloc (.map #[] 0)) := (Below.refl _ w).alloc (Nat.le_refl _) _
  have hown0 := hown.alloc (.map #[] 0)
  have hdv : ∀ g, v0.ownBlock = some g → (Value.slice none 0 0).ownBlock ≠ some g := fun g _ h => by cases h
  have HS0 : Hid (Srch start nx U [] start 0) := ⟨List.nodup_nil, ⟨fun L h => (by cases h), hst⟩, fun P h1 h2 => ⟨fun L h => (by cases h), h1⟩, fun L h => .inr h, fun j hj => absurd hj (Nat.not_lt_zero _), Nat.le_refl _⟩
  clear hU hst hnx hp hown
  go_enter Tryz.func111, Tryz.ntmps111
  go_wp2
  go_loopw [5, 7, 8] (fun va vn s wr => ∃ (i lo' : Nat) (all nxt : List (List Int)), s = .int .i64 (i : Int) ∧ wr.ownsRow (w.heap.size + 1) 53 7 va all.length (cwc m all) ∧ wr.ownsRow lo' 53 7 vn nxt.length (cwc m nxt) ∧ (∀ g, vn.ownBlock = some g → va.ownBlock ≠ some g) ∧ wr.ownsMap Tryz.prog 53 (plainElem (H := Unit) Tryz.prog 4) w.heap.size all.length (setOf ttD (all.map klL)) ∧ Hid (Srch start nx U all nxt i) ∧ nxt.length ≤ K ∧ all.length ≤ 400 ∧ i ≤ 400 ∧ Below w.heap.size w wr) (fun _ _ s _ => 401 - (intOf s).toNat)
  case atStart => exact ⟨0, lo, [], start, rfl, World.ownsRow_nil _ _ _ _, hown0, hdv, hm0, HS0, hsK, by simp, by omega, hB0⟩
  case round =>
    clear hm0 hB0 hown0 hdv HS0 hmm
    obtain ⟨i, lo', all, nxt, rfl, hra, hrn, hds, hmp, HS, hnK, ha4, hi4, hB⟩ := hrel
    have hsB := hB.size
    obtain ⟨A1, c1, rfl⟩ := own_shape hrn
    have HRN := Lib.hid hrn
    go_wp2
    go_loopw [5, 17] (fun va s wq => ∃ (k : Nat) (al : List (List Int)), k ≤ nxt.length ∧ s = .int .i64 (k : Int) ∧ wq.ownsRow (w.heap.size + 1) 53 7 va al.length (cwc m al) ∧ wq.ownsRow lo' 53 7 (.slice A1 nxt.length c1) nxt.length (cwc m nxt) ∧ (∀ g, (Value.slice A1 nxt.length c1).ownBlock = some g → va.ownBlock ≠ some g) ∧ wq.ownsMap Tryz.prog 53 (plainElem (H := Unit) Tryz.prog 4) w.heap.size al.length (setOf ttD (al.map klL)) ∧ Hid (Srin all nxt k al) ∧ al.length ≤ 400 + k ∧ Below w.heap.size w wq) (fun _ s _ => nxt.length - (intOf s).toNat)
    case atStart => exact ⟨0, all, Nat.zero_le _, rfl, hra, hrn, hds, hmp, Lib.hid ⟨HS.out.nodup, ⟨[], (List.append_nil _).symm⟩, fun L h => by simp at h, fun L h => .inl h⟩, by omega, hB⟩
    case round =>
      clear hra hrn hds hmp hB HRN
      obtain ⟨k, al, hk, rfl, hra, hrn, hds, hmp, HI, hal, hB⟩ := hrel
      have hsB := hB.size
      have hlw := hmp.lt
      by_cases hlt : k < nxt.length
      · obtain ⟨L, hL⟩ : ∃ L, nxt[k]? = some L := ⟨_, List.getElem?_eq_getElem hlt⟩
        have HE : Hid (ent nxt k = L) := by show _ = _; unfold ent; rw [hL]; rfl
        obtain ⟨g1, cp1, hv, _, hg1⟩ := hrn.form (by omega)
        injection hv with hv1 _ hv3
        subst hv1
        have hC1 : Chs wr g1 m nxt := Chs.of_own hrn
        obtain ⟨d0, d1, d2, d3, d4, d5, d6⟩ := hC1.all hL
        have hLU := HS.out.inU.2 L (List.mem_of_getElem? hL)
        have hLz := HU.out L hLU
        have HAZ : Hid (∀ M ∈ al, isC M = true) := fun M hM => (HI.out.from_ M hM).elim (fun h => (HU.out M (HS.out.inU.1 M h)).1) (fun h => (HU.out M (HS.out.inU.2 M h)).1)
        have hkey : keyOf Tryz.prog 53 (.agg #[.int .i64 ((m : Int)), .int .i64 (ofL L 0), .int .i64 (ofL L 1), .int .i64 (ofL L 2), .int .i64 (ofL L 3), .int .i64 (ofL L 4), .int .i64 (ofL L 5)]) = some (klL L) := by
          have := keyOf_L hLz.1
          rw [hLz.2] at this; exact this
        have hB2 := hB.alloc hsB (.cells #[.int .i64 ((m : Int)), .int .i64 (ofL L 0), .int .i64 (ofL L 1), .int .i64 (ofL L 2), .int .i64 (ofL L 3), .int .i64 (ofL L 4), .int .i64 (ofL L 5)] 53)
        have hra2 := hra.alloc (.cells #[.int .i64 ((m : Int)), .int .i64 (ofL L 0), .int .i64 (ofL L 1), .int .i64 (ofL L 2), .int .i64 (ofL L 3), .int .i64 (ofL L 4), .int .i64 (ofL L 5)] 53)
        have hrn2 := hrn.alloc (.cells #[.int .i64 ((m : Int)), .int .i64 (ofL L 0), .int .i64 (ofL L 1), .int .i64 (ofL L 2), .int .i64 (ofL L 3), .int .i64 (ofL L 4), .int .i64 (ofL L 5)] 53)
        have hmp2 := hmp.alloc (.cells #[.int .i64 ((m : Int)), .int .i64 (ofL L 0), .int .i64 (ofL L 1), .int .i64 (ofL L 2), .int .i64 (ofL L 3), .int .i64 (ofL L 4), .int .i64 (ofL L 5)] 53)
        have hz : (zeroValue 4).run Tryz.prog (wr.alloc (.cells #[.int .i64 ((m : Int)), .int .i64 (ofL L 0), .int .i64 (ofL L 1), .int .i64 (ofL L 2), .int .i64 (ofL L 3), .int .i64 (ofL L 4), .int .i64 (ofL L 5)] 53)) = .ok (.bool false) (wr.alloc (.cells #[.int .i64 ((m : Int)), .int .i64 (ofL L 0), .int .i64 (ofL L 1), .int .i64 (ofL L 2), .int .i64 (ofL L 3), .int .i64 (ofL L 4), .int .i64 (ofL L 5)] 53)) := by kernel_rfl
        have hlk := lookup_set hmp2 (fun x hx => by obtain ⟨M, _, rfl⟩ := List.mem_map.1 hx; exact klL_key M) ch_keyed Tryz.underlying119 Tryz.underlying4 hz hkey
        rw [any_mem HAZ.out hLz.1] at hlk
        have hCb := Cb.new wr (m : Int) (ofL L)
        clear hL hv3 hC1 hra hrn hmp hB hz
        by_cases hm : L ∈ al
        · rw [decide_eq_true hm] at hlk
          have HI2 : Hid (Srin all nxt (k + 1) al) := HI.out.skip hlt (by rw [HE.out]; exact hm)
          obtain ⟨a0, a1, a2, a3, a4, a5, a6⟩ := hCb.all
          clear hm
          go_wp2
          go_roundw
          case rel => exact ⟨k + 1, al, by omega, by go_num, hra2, hrn2, hds, hmp2, HI2, by omega, hB2⟩
          case measure => simp [intOf]; omega
        · rw [decide_eq_false hm] at hlk
          have HI2 : Hid (Srin all nxt (k + 1) (al ++ [L])) := by
            have := HI.out.add hlt (by rw [HE.out]; exact hm)
            rw [HE.out] at this; exact this
          obtain ⟨a0, a1, a2, a3, a4, a5, a6⟩ := hCb.all
          clear hm
          have hne := own_map_ne hra2 hmp2
          have hne2 := own_map_ne hrn2 hmp2
          have p1 : al.length + 1 ≤ maxLen := by unfold maxLen; omega
          have p2 : (al.length + 1) * 56 ≤ 140737488355328 := by omega
          go_wp2_with (first
            | (at_mapUpdate
               refine wpList_mapUpdate_own _ rfl _ _ _ 119 rfl 53 4 ch_keyed Tryz.underlying119 _ w.heap.size al.length _ rfl hmp2 (by unfold maxLen; omega) _ _ _ rfl rfl hkey _ [] (plainElem_bool Tryz.underlying4 true) ?_
               intro w5 hm5 hgr5
               have hC5 : Cb w5 wr.heap.size (m : Int) (ofL L) := World.rowIs.of_block hCb (hgr5.block _ hCb.lt (by simp; omega))
               obtain ⟨b0, b1, b2, b3, b4, b5, b6⟩ := hC5.all
               have hra5 := (hra2.kept hgr5 (.inr hne)).alloc (.cells #[.int .i64 ((m : Int)), .int .i64 (ofL L 0), .int .i64 (ofL L 1), .int .i64 (ofL L 2), .int .i64 (ofL L 3), .int .i64 (ofL L 4), .int .i64 (ofL L 5)] 53)
               have hrn5 := (hrn2.kept hgr5 (.inr hne2)).alloc (.cells #[.int .i64 ((m : Int)), .int .i64 (ofL L 0), .int .i64 (ofL L 1), .int .i64 (ofL L 2), .int .i64 (ofL L 3), .int .i64 (ofL L 4), .int .i64 (ofL L 5)] 53)
               have hm6 := hm5.alloc (.cells #[.int .i64 ((m : Int)), .int .i64 (ofL L 0), .int .i64 (ofL L 1), .int .i64 (ofL L 2), .int .i64 (ofL L 3), .int .i64 (ofL L 4), .int .i64 (ofL L 5)] 53)
               have hB5 := hB2.grown hgr5 hB2.size (fun j e => by cases e; exact Nat.le_refl _)
               have hB6 := hB5.alloc hB5.size (.cells #[.int .i64 ((m : Int)), .int .i64 (ofL L 0), .int .i64 (ofL L 1), .int .i64 (ofL L 2), .int .i64 (ofL L 3), .int .i64 (ofL L 4), .int .i64 (ofL L 5)] 53)
               have hs5 : w.heap.size + 1 ≤ (w5.alloc (.cells #[.int .i64 ((m : Int)), .int .i64 (ofL L 0), .int .i64 (ofL L 1), .int .i64 (ofL L 2), .int .i64 (ofL L 3), .int .i64 (ofL L 4), .int .i64 (ofL L 5)] 53)).heap.size := by have := hB5.size; simp; omega
               have hcl := cell_7_new w5 m (ofL L)
               go_frame)
            | (at_builtin
               refine wpList_append_own_at _ rfl _ _ 46 rfl (w.heap.size + 1) 53 i1 (.agg #[.int .i64 ((0 : Int)), .int .i64 ((fun _ => (0 : Int)) 0), .int .i64 ((fun _ => (0 : Int)) 1), .int .i64 ((fun _ => (0 : Int)) 2), .int .i64 ((fun _ => (0 : Int)) 3), .int .i64 ((fun _ => (0 : Int)) 4), .int .i64 ((fun _ => (0 : Int)) 5)]) 7 56 Tryz.underlying46 hj hj0 hj1 hj2 rfl (by decide) u5 _ _ rfl hra5 ⟨w5.heap.size, 0, none⟩ 1 1 (c7 m (ofL L)) rfl rfl hcl (c7_one _ _) p1 p2 hs5 ?_
               intro v' w7 hown' hgrow _ hloc))
          have hne6 := own_map_ne hra5 hm6
          have hm7 := hm6.kept hgrow (fun e => hne6 e.symm)
          rw [← setOf_snoc, ← List.map_singleton (f := klL), ← List.map_append] at hm7
          have hrn7 := hrn5.kept hgrow (.inr (fun e => by
            rcases hob : (Value.slice (some ⟨g1, 0, none⟩) nxt.length c1).ownBlock with _ | g
            · rw [hob] at e; exact hds g1 (by simp [Value.ownBlock]) (by rw [← e]; simp [Value.ownBlock] at hob)
            · exact hds g hob (by rw [← e]; exact hob)))
          have hB7 := hB6.grown hgrow hB6.size (fun g e => by have := (hra5.lt g e).1; omega)
          have hrow7 : w7.ownsRow (w.heap.size + 1) 53 7 v' (al ++ [L]).length (cwc m (al ++ [L])) := by rw [List.length_append, cwc_append, cwc_one_]; exact hown'
          have hds7 : ∀ g, (Value.slice (some ⟨g1, 0, none⟩) nxt.length c1).ownBlock = some g → v'.ownBlock ≠ some g := fun g hg e => by
            rcases hloc with h | h
            · rw [h] at e; exact hds g hg e
            · rw [h] at e
              have h1 := (hrn5.lt g hg).2
              injection e with e; omega
          go_roundw
          case rel => exact ⟨k + 1, al ++ [L], by omega, by go_num, hrow7, hrn7, hds7, by rw [List.length_append]; exact hm7, HI2, by rw [List.length_append]; simp; omega, hB7⟩
          case measure => simp [intOf]; omega
      · obtain rfl : k = nxt.length := by omega
        have HS2 := Lib.hid (HS.out.after HI.out)
        have hlen : al.length ≤ 400 + K := by omega
        have hil6 : i ≤ 1048576 := by omega
        obtain ⟨A2, c2, rfl⟩ := own_shape hra
        by_cases hend : al.length ≤ i
        · have hd : decide ((al.length : Int) ≤ (i : Int)) = true := by simp; omega
          go_wp2
          go_ret
          exact ⟨_, al, rfl, own_base hra (by omega), HS2.out.rch (.inl hend), HS2.out.inU.1, hlen, hB⟩
        · have hd : decide ((al.length : Int) ≤ (i : Int)) = false := by simp; omega
          by_cases h4 : 400 < al.length
          · have hd2 : decide (400 < (al.length : Int)) = true := by simp; omega
            go_wp2
            go_ret
            exact ⟨_, al, rfl, own_base hra (by omega), HS2.out.rch (.inr h4), HS2.out.inU.1, hlen, hB⟩
          · have hd2 : decide (400 < (al.length : Int)) = false := by simp; omega
            have hil : i < al.length := by omega
            obtain ⟨L, hL⟩ : ∃ L, al[i]? = some L := ⟨_, List.getElem?_eq_getElem hil⟩
            have HE : Hid (ent al i = L) := by show _ = _; unfold ent; rw [hL]; rfl
            obtain ⟨g2, cp2, hv, hg2b, hg2⟩ := hra.form (by omega)
            injection hv with hv1 _ hv3
            subst hv1
            have hC2 : Chs wr g2 m al := Chs.of_own hra
            obtain ⟨d0, d1, d2, d3, d4, d5, d6⟩ := hC2.all hL
            have hcall := HP.out L (HS2.out.inU.1 L (List.mem_of_getElem? hL)) wr hB
            have HNU : Hid (∀ M, nx L M → U M) := HNX.out L (HS2.out.inU.1 L (List.mem_of_getElem? hL))
            clear hL hv3 hC2 hrn hds
            go_wp2_with fail
            refine hcall.mono ?_
            rintro e w5 ⟨v5, Ms, rfl, hr5, hK5, hM5, hb5⟩
            have hra5 := own_below hra hb5
            have hmp5 := ownsMap_same hmp (hb5.block _ hlw)
            have hB5 := hB.trans (hb5.mono hsB)
            have hds5 : ∀ g, v5.ownBlock = some g → (Value.slice (some ⟨g2, 0, none⟩) al.length c2).ownBlock ≠ some g := fun g hg e => by
              have h1 := (hr5.lt g hg).1
              have h2 := (hra.lt g e).2
              omega
            have HS5 : Hid (Srch start nx U al Ms (i + 1)) := HS2.out.step hil (fun M hM => HNU.out M ((hM5 M).1 hM)) (fun M => by rw [HE.out]; exact hM5 M)
            clear hcall hra hmp hB hb5 d0 d1 d2 d3 d4 d5 d6
            go_wp2
            go_roundw
            case rel => exact ⟨i + 1, _, al, Ms, by go_num, hra5, hr5, hds5, hmp5, HS5, hK5, by omega, by omega, hB5⟩
            case measure => simp [intOf]; omega
end

end Go.Proofs.YtigapanfihpgaaaGreatDoor
