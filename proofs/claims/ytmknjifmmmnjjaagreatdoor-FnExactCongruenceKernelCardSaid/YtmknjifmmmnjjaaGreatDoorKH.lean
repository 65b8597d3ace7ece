/-
  Kg.
-/
import Derived.Deep.QuietTactic
import Derived.BigQuiet
import Derived.RangeFuncOwn
import Derived.Test.YtmknjifmmmnjjaaGreatDoorNR
import Derived.Test.YtmknjifmmmnjjaaGreatDoorNV
import Derived.Test.YtmknjifmmmnjjaaGreatDoorKB
namespace Go.Proofs.YtmknjifmmmnjjaaGreatDoor
set_option maxRecDepth 100000
set_option linter.unusedVariables false
set_option linter.unusedSimpArgs false
set_option linter.unusedSectionVars false

/-! Congruences told by class numbers, in memory: (impl.congruence[int]).mark, class, numbers. -/
section
open Go.RowKit Go.Maps

theorem mapP_ix {H : Type} {m : Nat} {zs : List (List Int)} (hz : ∀ L ∈ zs, isC L = true ∧ L.length = m) (hs : Srt zs) {n : Nat} (hn : zs.length = n) {L : List Int} (hL : L ∈ zs) (z : DataW H) : (mapP (H := H) klL zs n).atKey (klL L) z = .lit (.int .i64 (ixP zs L : Int)) := by
  obtain ⟨i, hi, rfl⟩ := mem_ent hL
  have hm6 : m ≤ 6 := by have := hz _ hL; have := (isC_len this.1).2; omega
  have h1 := mapP_at (H := H) (P := fun L => isC L = true) klL_key (fun L M hL hM e => klL_inj L M hL hM e) (fun L hL => (hz L hL).1) (hz _ hL).1 n (by omega) ⟨i, by omega, rfl⟩ z
  have h2 := (placed_srt (kl := klL) (placed_self hm6 (fun L hL => (hz L hL).2) hs) hm6 (fun L hL => (hz L hL).2) hs).2 i (by omega)
  rw [hn] at h2
  rw [h1, h2, ixP_at hs hi]
theorem gb_al0 (w : World) (o : Obj) (row : Option Nat) : w.grownBy (w.alloc o) row := gb_of ((Below.refl _ w).alloc (Nat.le_refl _) o) row
theorem gbTr {w w1 w2 : World} {row : Option Nat} (h : w.grownBy w1 row) (h2 : w1.grownBy w2 row) : w.grownBy w2 row := h.andThen h2 (fun _ e => .inr e)
theorem row_map {w : World} {K : TypeId} {R : Value → Option (DataW Unit × List MemPlace)} {q nn : Nat} {D : DataW Unit} (h : w.ownsMap Tryz.prog K R q nn D) : ∀ r, some q = some r → ∃ o : Obj, w.heap[r]? = some o ∧ o.isCells = false := fun r e => by
  cases e
  obtain ⟨es, clock, hb, _⟩ := h
  exact ⟨_, hb, rfl⟩
theorem ri_kept {w w' : World} {A : Option Addr} {n : Nat} {zs : List Int} {row : Option Nat} (h : RI w A n zs) (hg : w.grownBy w' row) (hm : ∀ r, row = some r → ∃ o : Obj, w.heap[r]? = some o ∧ o.isCells = false) : RI w' A n zs := by
  refine ⟨h.1, h.2.1, fun h0 => ?_⟩
  obtain ⟨ad, e, hb, hc⟩ := h.2.2 h0
  exact ⟨ad, e, Nat.lt_of_lt_of_le hb hg.size, fun j u hu => cell_kept (hc j u hu) hg hm⟩
theorem blk_kept {w w' : World} {g : Nat} {t : TypeId} {cs : Array Value} {row : Option Nat} (h : Blk w g t cs) (hg : w.grownBy w' row) (hm : ∀ r, row = some r → ∃ o : Obj, w.heap[r]? = some o ∧ o.isCells = false) : Blk w' g t cs := by
  refine h.grown hg (fun e => ?_)
  obtain ⟨o, ho, hc⟩ := hm g e.symm
  unfold Blk at h
  rw [h] at ho
  cases ho
  cases hc
def wfI (x : Int) : Prop := (Lit.int .i64 x).wf = true

/-- what a congruence by class numbers has in memory -/
structure KgI (w : World) (b q n : Nat) (C : Option Addr) (zs : List (List Int)) (cl : List Int) : Prop where
  sem : w.ownsMap Tryz.prog 61 (plainElem (H := Unit) Tryz.prog 3) b n (mapP klL zs n)
  mkd : ∃ nn D, w.ownsMap Tryz.prog 3 (plainElem (H := Unit) Tryz.prog 3) q nn D
  cls : RI w C n cl
  ne : b ≠ q
section
variable {w w' : World} {b q n : Nat} {C : Option Addr} {zs : List (List Int)} {cl : List Int}
theorem KgI.row (h : KgI w b q n C zs cl) : ∀ r, some q = some r → ∃ o : Obj, w.heap[r]? = some o ∧ o.isCells = false := by
  obtain ⟨nn, D, hm⟩ := h.mkd
  exact row_map hm
theorem KgI.below (h : KgI w b q n C zs cl) (hb : Below w.heap.size w w') : KgI w' b q n C zs cl := by
  obtain ⟨nn, D, hm⟩ := h.mkd
  exact ⟨ownsMap_same h.sem (hb.block b h.sem.lt), ⟨nn, D, ownsMap_same hm (hb.block q hm.lt)⟩, h.cls.below hb, h.ne⟩
theorem KgI.kept (h : KgI w b q n C zs cl) (hg : w.grownBy w' (some q)) (hm : ∃ nn D, w'.ownsMap Tryz.prog 3 (plainElem (H := Unit) Tryz.prog 3) q nn D) : KgI w' b q n C zs cl :=
  ⟨h.sem.kept hg (fun e => h.ne (by cases e; rfl)), hm, ri_kept h.cls hg h.row, h.ne⟩
theorem KgI.q_lt (h : KgI w b q n C zs cl) : q < w.heap.size := by
  obtain ⟨nn, D, hm⟩ := h.mkd
  exact hm.lt
end
set_option maxHeartbeats 1000000 in
theorem markI_any (b : Option Nat) (q nn n c : Nat) (C : Option Addr) (x v : Int) (D : DataW Unit) (w : World) (hown : w.ownsMap Tryz.prog 3 (plainElem (H := Unit) Tryz.prog 3) q nn D) (hx : wfI x) (hv : wfI v) (hn : nn < maxLen) :
    Calls Tryz.prog 120 #[.agg #[.map b, .slice C n c, .map (some q)], .int .i64 x, .int .i64 v] w fun e w' => ∃ z, e = .returned (.int .i64 z) ∧ mrkV D (.int .i64 x) v z ∧ w'.ownsMap Tryz.prog 3 (plainElem (H := Unit) Tryz.prog 3) q (nn + 1) (mrk D (.int .i64 x) v) ∧ w.grownBy w' (some q) := by
  have hkey : keyOf Tryz.prog 3 (.int .i64 x) = some (.int .i64 x) := keyOf_int_mk Tryz.underlying3 hx
  have hown1 := hown.alloc (.cells #[.map b, .slice C n c, .map (some q)] 91)
  have hz : (zeroValue 3).run Tryz.prog (w.alloc (.cells #[.map b, .slice C n c, .map (some q)] 91)) = .ok (.int .i64 0) (w.alloc (.cells #[.map b, .slice C n c, .map (some q)] 91)) := by kernel_rfl
  have hb2 := (Blk.new w 91 #[.map b, .slice C n c, .map (some q)]).cell 2
  have hg1 := gb_al0 w (.cells #[.map b, .slice C n c, .map (some q)] 91) (some q)
  have HW : Hid (wfI v) := hv
  clear hown hx hv
  cases hh : Maps.has D (.int .i64 x)
  · have HM : Hid (mrk D (.int .i64 x) v = D.put (.int .i64 x) (.lit (.int .i64 v))) := by show _ = _; unfold mrk; rw [hh]; rfl
    have HV : Hid (mrkV D (.int .i64 x) v v) := ⟨fun e => (by rw [hh] at e; cases e), fun _ => rfl⟩
    go_enter Tryz.func120, Tryz.ntmps120
    go_wp2_with (first
      | (at_lookup; refine wpList_lookup_own_ok_int _ rfl _ _ 89 rfl 3 3 .i64 (int_keyed Tryz.underlying3) Tryz.underlying89 Tryz.underlying3 hz q nn D rfl hown1 _ (.int .i64 x) rfl hkey ?_; intro z hat hwc)
      | (at_mapUpdate; refine wpList_mapUpdate_own _ rfl _ _ _ 89 rfl 3 3 (int_keyed Tryz.underlying3) Tryz.underlying89 _ q nn _ rfl hown1 hn _ _ _ rfl rfl hkey _ [] (plainElem_int Tryz.underlying3 HW.out) ?_; intro w5 hm5 hgr5))
    go_ret
    exact ⟨v, by try rfl, HV.out, by rw [HM.out]; exact hm5, gbTr hg1 hgr5⟩
  · have HM : Hid (mrk D (.int .i64 x) v = D) := by show _ = _; unfold mrk; rw [hh]; rfl
    have HV : Hid (∀ z, D.atKey (.int .i64 x) (.lit (.int .i64 0)) = .lit (.int .i64 z) → mrkV D (.int .i64 x) v z) := fun z hz => ⟨fun _ => hz, fun e => (by rw [hh] at e; cases e)⟩
    go_enter Tryz.func120, Tryz.ntmps120
    go_wp2_with (at_lookup; refine wpList_lookup_own_ok_int _ rfl _ _ 89 rfl 3 3 .i64 (int_keyed Tryz.underlying3) Tryz.underlying89 Tryz.underlying3 hz q nn D rfl hown1 _ (.int .i64 x) rfl hkey ?_; intro z hat hwc)
    go_ret
    exact ⟨z, by try rfl, HV.out z hat, by rw [HM.out]; exact hown1.mono (Nat.le_succ _), hg1⟩
end

end Go.Proofs.YtmknjifmmmnjjaaGreatDoor
