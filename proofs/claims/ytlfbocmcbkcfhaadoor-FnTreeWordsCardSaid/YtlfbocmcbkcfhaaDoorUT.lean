/-
  Dt.
-/
import Derived.Test.YtlfbocmcbkcfhaaDoorUK
import Derived.Test.YtlfbocmcbkcfhaaDoorUM
import Derived.Test.YtlfbocmcbkcfhaaDoorUO
import Derived.Test.YtlfbocmcbkcfhaaDoorUQ
import Derived.Test.YtlfbocmcbkcfhaaDoorUR
namespace Go.Proofs.YtlfbocmcbkcfhaaDoor
set_option maxRecDepth 100000
set_option linter.unusedVariables false
set_option linter.unusedSimpArgs false
set_option linter.unusedSectionVars false

/-! The drawn trees: spec.l91Tree, spec.l91Trees, and what is drawn of them. -/
section
open Go.RowKit Go.Lib Go.Sort

/-! ### sizes -/
def Szs (zs : List ByteArray) (s : ByteArray) : Prop := zs.length ≤ 60 ∧ (∀ z ∈ zs, z.size ≤ 24) ∧ s.size ≤ 24
theorem szs_tin {zs : List ByteArray} {s : ByteArray} {S : List (List (Fin 4))} {u : List (Fin 4)} (h : TinS zs s S u) : Szs zs s := by
  obtain ⟨rfl, rfl, hu, hT⟩ := h
  refine ⟨by rw [List.length_map]; exact hT.len, fun z hz => ?_, by rw [strOf_size]; exact hT.sh u hu⟩
  obtain ⟨v, hv, rfl⟩ := List.mem_map.1 hz
  rw [strOf_size]; exact hT.sh v hv
theorem szs_none : Szs (resL none) (resE none) := ⟨by simp [resL], fun z hz => by simp [resL] at hz, by decide⟩
theorem TurnOk.szs {zs : List ByteArray} {s : ByteArray} {R : TR} (h : TurnOk zs s R) : Szs (resL R) (resE R) := by
  cases hR : R with
  | none => exact szs_none
  | some x =>
    rw [hR] at h
    obtain ⟨S, u, h1⟩ := turn_tin h rfl
    obtain ⟨L, _, _, h2⟩ := turn_at h1 h rfl
    exact szs_tin h2
theorem TimesOk.szs {zs ys : List ByteArray} {s t : ByteArray} {R : TR} (h : TimesOk zs ys s t R) : Szs (resL R) (resE R) := by
  cases hR : R with
  | none => exact szs_none
  | some x =>
    rw [hR] at h
    obtain ⟨⟨S, u, h1⟩, S', u', h1'⟩ := times_tin h rfl
    obtain ⟨L, _, _, h2⟩ := times_at h1 h1' h rfl
    exact szs_tin h2
theorem of_tin {s : ByteArray} {R : TR} (h : OfOk s R) (hR : R.isSome = true) : ∃ ws S, s = txt ws ∧ ws.length ≤ 24 ∧ (∀ x, x ∈ S ↔ Begs [] [ws] x) ∧ R = some (S, redS ws) ∧ TinS (resL R) (resE R) S (redS ws) := by
  have hlen := h.len
  rcases h with ⟨_, rfl⟩ | ⟨ws, S, e0, hw, ho, hX, rfl⟩
  · cases hR
  · obtain ⟨ws', e, hl⟩ := word_txt hw
    have hT := tre_of ho hX
    have hws : ws.length ≤ 24 := by
      have := txt_inj (e0.symm.trans e)
      rw [this]; exact hl
    have hu : redS ws ∈ S := (hX _).2 ⟨ws, by simp, ws.length, Nat.le_refl _, by rw [List.take_length]; rfl⟩
    refine ⟨ws, S, e0, hws, hX, rfl, tinS_of hT ho hu (sml_mk (by simpa [resL] using hlen) fun x hx => ?_)⟩
    obtain ⟨v, hv, t, ht, rfl⟩ := (hX x).1 hx
    rw [List.mem_singleton.1 hv]
    have := goW_len [] (ws.take t)
    simp at this; omega
theorem OfOk.szs {s : ByteArray} {R : TR} (h : OfOk s R) : Szs (resL R) (resE R) := by
  cases hR : R with
  | none => exact szs_none
  | some x =>
    rw [hR] at h
    obtain ⟨_, S, _, _, _, _, h1⟩ := of_tin h rfl
    exact szs_tin h1
theorem Szs.n {w : World} {base n c : Nat} {A : Option Addr} {zs : List ByteArray} {s : ByteArray} (h : Szs zs s) (ho : w.ownsRow base 9 1 (.slice A n c) n (svL zs)) : n ≤ 60 := by rw [← own_len ho]; exact h.1
theorem Szs.big {zs : List ByteArray} {s : ByteArray} (h : Szs zs s) : (∀ z ∈ zs, z.size ≤ 1048576) ∧ s.size ≤ 1048576 := ⟨fun z hz => by have := h.2.1 z hz; omega, by have := h.2.2; omega⟩
theorem gb_setCell {w wr : World} {row : Option Nat} (h : w.grownBy wr row) (p : Addr) (v : Value) (hp : w.heap.size ≤ p.block) : w.grownBy (wr.setCell p v) row :=
  ⟨h.os, h.tape, h.output, by simp [World.setCell]; exact h.size, fun k hk hne => (Below.heap_setCell wr _ _ k (fun e => by have := e; omega)).trans (h.block k hk hne)⟩
theorem Rd.set {w : World} {R p : Nat} (h : Rd w R p) (a : Addr) (v : Value) (ha : R < a.block) : Rd (w.setCell a v) R p :=
  h.below ((Below.refl (R + 1) w).setCell (p := a) (by omega) v) (by omega)
theorem own_R {w w' : World} {base size n R : Nat} {e : TypeId} {v : Value} {xs : List Value} (h : w.ownsRow base e size v n xs) (hg : w.grownBy w' (some R)) (hR : R < base) : w'.ownsRow base e size v n xs :=
  h.kept hg (by
    cases hv : v.ownBlock with
    | none => exact .inl rfl
    | some g => exact .inr (fun e => by injection e with e; have := (h.lt g hv).1; omega))

/-- a drawn tree -/
def DrawT (w : World) (R p : Nat) (e' : Ending) (w' : World) : Prop :=
  ∃ (A : Option Addr) (n c : Nat) (zs : List ByteArray) (s : ByteArray) (q : Nat), e' = .returned (.agg #[.slice A n c, .string s]) ∧ w'.ownsRow w.heap.size 9 1 (.slice A n c) n (svL zs) ∧ Szs zs s ∧ q ≤ p + 201 ∧ Rd w' R q ∧ w.grownBy w' (some R)
set_option maxHeartbeats 2000000 in
theorem l91Tree_any (R p : Nat) (w : World) (h : Rd w R p) (hp : p ≤ 40000) : Calls Tryd.prog 43 #[.pointer (some ⟨R, 0, none⟩)] w (DrawT w R p) := by
  have hRl := h.lt
  have hg0 := World.grownBy_alloc w (.cells #[.slice none 0 0, .string ⟨#[]⟩] 25) (some R)
  have hR0 : Rd (w.alloc (.cells #[.slice none 0 0, .string ⟨#[]⟩] 25)) R p := h.grown (row := none) (World.grownBy_alloc _ _ _) (fun _ e => by cases e)
  have hA0 : Blk (w.alloc (.cells #[.slice none 0 0, .string ⟨#[]⟩] 25)) w.heap.size 25 #[.slice none 0 0, .string ⟨#[]⟩] := Blk.new w _ _
  have hz : (w.alloc (.cells #[.slice none 0 0, .string ⟨#[]⟩] 25)).heap.size = w.heap.size + 1 := by simp
  have HW := Lib.hid (l91Word_any R p 8 _ hR0 (by omega) (by omega))
  have HG0 := Lib.hid hg0
  have HA0 := Lib.hid hA0
  clear h hg0 hR0 hA0
  go_enter Tryd.func43, Tryd.ntmps43
  go_wp2_with fail
  refine HW.out.mono ?_
  rintro e w2 ⟨s, q, rfl, hs, hq, hRd2, hg2⟩
  have HB2 := Lib.hid (HA0.out.grown hg2 (fun e => by injection e with e; omega))
  have HG2 := Lib.hid (gb_trans HG0.out hg2)
  have hs2 := hg2.size
  rw [hz] at hs2
  have HO := Lib.hid (specOfT_any s (by omega) w2)
  have HRd2 := Lib.hid hRd2
  clear HW HA0 HG0 hg2 hz hRd2
  go_wp2_with fail
  refine HO.out.mono ?_
  rintro e w3 ⟨R', hOK, hb, A, n, c, rfl, ho⟩
  have hs3 := hb.size
  have HSZ := Lib.hid hOK.szs
  have hB3 := (HB2.out.below hb (by omega)).alloc (.cells #[.slice A n c, .string (resE R')] 25)
  have hR3 : Rd (w3.alloc (.cells #[.slice A n c, .string (resE R')] 25)) R q := (HRd2.out.below hb (by omega)).grown (row := none) (World.grownBy_alloc _ _ _) (fun _ e => by cases e)
  have hT3 : Blk (w3.alloc (.cells #[.slice A n c, .string (resE R')] 25)) w3.heap.size 25 #[.slice A n c, .string (resE R')] := Blk.new w3 _ _
  have hG3 := gb_alloc (gb_below HG2.out hb) (.cells #[.slice A n c, .string (resE R')] 25)
  have hO3 := ho.alloc (.cells #[.slice A n c, .string (resE R')] 25)
  have HP := Lib.hid (pick_any R q 30 _ hR3 (by omega) (by omega) (by omega))
  have HB3 := Lib.hid hB3
  have HT3 := Lib.hid hT3
  have HG3 := Lib.hid hG3
  have HO3 := Lib.hid hO3
  clear HB2 HG2 HRd2 HO hb ho hB3 hR3 hT3 hG3 hO3 hOK
  go_wp2_with fail
  refine HP.out.mono ?_
  rintro e w5 ⟨x, rfl, hx, hRd5, hg5⟩
  have h0 := HB3.out.grown hg5 (fun e => by injection e with e; omega)
  have h1 := HT3.out.grown hg5 (fun e => by injection e with e; omega)
  have hG5 := gb_trans HG3.out hg5
  have hO5 := own_R HO3.out hg5 (by omega)
  have HSZ2 : Hid (Szs (resL R') ⟨#[98, 97]⟩) := ⟨HSZ.out.1, HSZ.out.2.1, by decide⟩
  generalize resE R' = ee at *
  generalize resL R' = zz at *
  have a0 : w5.cell? ⟨w.heap.size, 0, none⟩ = some (.slice none 0 0) := h0.cell 0
  have a1 : w5.cell? ⟨w.heap.size, 1, none⟩ = some (.string ⟨#[]⟩) := h0.cell 1
  have c0 : w5.cell? ⟨w3.heap.size, 0, none⟩ = some (.slice A n c) := h1.cell 0
  have c1 : w5.cell? ⟨w3.heap.size, 1, none⟩ = some (.string ee) := h1.cell 1
  have f0 : w5.frozen? ⟨w.heap.size, 0, none⟩ = false := h0.frozen 0
  have f1 : w5.frozen? ⟨w.heap.size, 1, none⟩ = false := h0.frozen 1
  have g1 : w5.frozen? ⟨w3.heap.size, 1, none⟩ = false := h1.frozen 1
  have hlt := h0.lt
  have hlt1 := h1.lt
  by_cases hx0 : x = 0
  · have hxi : ((x : Int) == 0) = true := by rw [hx0]; rfl
    have HE : Hid (DrawT w R p (.returned (.agg #[.slice A n c, .string ⟨#[98, 97]⟩])) (((w5.setCell ⟨w3.heap.size, 1, none⟩ (.string ⟨#[98, 97]⟩)).setCell ⟨w.heap.size, 0, none⟩ (.slice A n c)).setCell ⟨w.heap.size, 1, none⟩ (.string ⟨#[98, 97]⟩))) := by
      refine ⟨A, n, c, zz, ⟨#[98, 97]⟩, q + 1, rfl, ?_, HSZ2.out, by omega, ?_, ?_⟩
      · have hne1 := own_blk_ne hO5 h0 (by decide)
        have hne2 := own_blk_ne hO5 h1 (by decide)
        exact own_down0 (ownsRow_setCell_other (ownsRow_setCell_other (ownsRow_setCell_other hO5 hne2 _) hne1 _) hne1 _) (by omega)
      · exact ((hRd5.set _ _ (by show R < w3.heap.size; omega)).set _ _ (by show R < w.heap.size; omega)).set _ _ (by show R < w.heap.size; omega)
      · exact gb_setCell (gb_setCell (gb_setCell hG5 _ _ (by show w.heap.size ≤ w3.heap.size; omega)) _ _ (Nat.le_refl _)) _ _ (Nat.le_refl _)
    have hne : w3.heap.size ≠ w.heap.size := by omega
    have hne' : w.heap.size ≠ w3.heap.size := by omega
    clear hx0 h0 h1 hG5 hO5 HP HB3 HT3 HG3 HO3 HSZ HSZ2 hRd5 hg5
    go_wp2
    exact bodyPost_ret (v := .agg #[.slice A n c, .string ⟨#[98, 97]⟩]) (by simp [results, Tryd.results43, go_sem, hlt, a0, a1]) rfl HE.out
  · have hxi : ((x : Int) == 0) = false := by rw [beq_eq_false_iff_ne]; omega
    have HE : Hid (DrawT w R p (.returned (.agg #[.slice A n c, .string ee])) ((w5.setCell ⟨w.heap.size, 0, none⟩ (.slice A n c)).setCell ⟨w.heap.size, 1, none⟩ (.string ee))) := by
      refine ⟨A, n, c, zz, ee, q + 1, rfl, own_down0 (own_far2' hO5 h0 (by decide) _ _) (by omega), HSZ.out, by omega, (hRd5.set _ _ (by show R < w.heap.size; omega)).set _ _ (by show R < w.heap.size; omega), gb_setCell (gb_setCell hG5 _ _ (Nat.le_refl _)) _ _ (Nat.le_refl _)⟩
    clear hx0 h0 h1 hG5 hO5 HP HB3 HT3 HG3 HO3 HSZ HSZ2 hRd5 hg5
    go_wp2
    exact bodyPost_ret (v := .agg #[.slice A n c, .string ee]) (by simp [results, Tryd.results43, go_sem, hlt, a0, a1]) rfl HE.out
theorem src_more {w : World} {B B' : Nat} {A : Option Addr} {n : Nat} {bs : Nat → Nat} (h : Src w B A n bs) (hB : B ≤ B') : Src w B' A n bs :=
  ⟨h.1, fun j hj => by obtain ⟨ad, e, hb, hc⟩ := h.2 j hj; exact ⟨ad, e, by omega, hc⟩⟩
/-- a tree drawn from bytes -/
def TreeL (w : World) (e' : Ending) (w' : World) : Prop :=
  ∃ (A : Option Addr) (n c : Nat) (zs : List ByteArray) (s : ByteArray), e' = .returned (.agg #[.slice A n c, .string s]) ∧ w'.ownsRow w.heap.size 9 1 (.slice A n c) n (svL zs) ∧ Szs zs s ∧ Below w.heap.size w w'
set_option maxHeartbeats 1000000 in
theorem drawTIn_any (A : Option Addr) (n c : Nat) (bs : Nat → Nat) (w : World) (h : Src w w.heap.size A n bs) (hnc : n ≤ c) (hn : n ≤ 1048576) :
    Calls Tryd.prog 13 #[.slice A n c] w (TreeL w) := by
  have hB0 : Below w.heap.size w (w.alloc (.cells #[.slice none 0 0, .string ⟨#[]⟩] 25)) := (Below.refl _ w).alloc (Nat.le_refl _) _
  have hz : (w.alloc (.cells #[.slice none 0 0, .string ⟨#[]⟩] 25)).heap.size = w.heap.size + 1 := by simp
  have hS : Src (w.alloc (.cells #[.slice none 0 0, .string ⟨#[]⟩] 25)) (w.alloc (.cells #[.slice none 0 0, .string ⟨#[]⟩] 25)).heap.size A n bs := src_more (h.keep fun q hq => World.cell?_alloc_lt _ _ _ hq) (by rw [hz]; omega)
  have HA0 : Hid (Blk (w.alloc (.cells #[.slice none 0 0, .string ⟨#[]⟩] 25)) w.heap.size 25 #[.slice none 0 0, .string ⟨#[]⟩]) := Blk.new w _ _
  have HO := Lib.hid (open_any _ _ _ _ _ hS hnc hn)
  have HB0 := Lib.hid hB0
  clear h hB0 hS
  go_enter Tryd.func13, Tryd.ntmps13
  go_wp2_with fail
  refine HO.out.mono ?_
  rintro e w1 ⟨R, rfl, hR, hRl, hRd, hb⟩
  have HB1 := Lib.hid (HB0.out.trans (hb.mono (by omega)))
  have HA1 := Lib.hid (HA0.out.below hb (by omega))
  clear hb HO HB0 HA0
  go_wp2_with fail
  refine (l91Tree_any R 0 w1 hRd (by omega)).mono ?_
  rintro e w2 ⟨A', n', c', zs, s, q, rfl, ho, hsz, hq, hRd2, hg⟩
  have h0 := HA1.out.grown hg (fun e => by injection e with e; omega)
  have hB2 := gb_bel HB1.out hg (by omega)
  have a0 : w2.cell? ⟨w.heap.size, 0, none⟩ = some (.slice none 0 0) := h0.cell 0
  have a1 : w2.cell? ⟨w.heap.size, 1, none⟩ = some (.string ⟨#[]⟩) := h0.cell 1
  have f0 : w2.frozen? ⟨w.heap.size, 0, none⟩ = false := h0.frozen 0
  have f1 : w2.frozen? ⟨w.heap.size, 1, none⟩ = false := h0.frozen 1
  have hlt := h0.lt
  have HE : Hid (TreeL w (.returned (.agg #[.slice A' n' c', .string s])) ((w2.setCell ⟨w.heap.size, 0, none⟩ (.slice A' n' c')).setCell ⟨w.heap.size, 1, none⟩ (.string s))) :=
    ⟨A', n', c', zs, s, rfl, own_down0 (own_far2' ho h0 (by decide) _ _) (by have := HB1.out.size; omega), hsz, (hB2.setCell (p := ⟨w.heap.size, 0, none⟩) (by simp) _).setCell (p := ⟨w.heap.size, 1, none⟩) (by simp) _⟩
  clear h0 hB2 ho hsz hRd2 hg HB1 HA1 hRd hz
  go_wp2
  exact bodyPost_ret (v := .agg #[.slice A' n' c', .string s]) (by simp [results, Tryd.results13, go_sem, hlt, a0, a1]) rfl HE.out
set_option maxHeartbeats 1000000 in
theorem drawTTurned_any (A : Option Addr) (n c : Nat) (bs : Nat → Nat) (w : World) (h : Src w w.heap.size A n bs) (hnc : n ≤ c) (hn : n ≤ 1048576) :
    Calls Tryd.prog 29 #[.slice A n c] w (TreeL w) := by
  have hB0 : Below w.heap.size w (w.alloc (.cells #[.slice none 0 0, .string ⟨#[]⟩] 25)) := (Below.refl _ w).alloc (Nat.le_refl _) _
  have hz : (w.alloc (.cells #[.slice none 0 0, .string ⟨#[]⟩] 25)).heap.size = w.heap.size + 1 := by simp
  have hS : Src (w.alloc (.cells #[.slice none 0 0, .string ⟨#[]⟩] 25)) (w.alloc (.cells #[.slice none 0 0, .string ⟨#[]⟩] 25)).heap.size A n bs := src_more (h.keep fun q hq => World.cell?_alloc_lt _ _ _ hq) (by rw [hz]; omega)
  have HA0 : Hid (Blk (w.alloc (.cells #[.slice none 0 0, .string ⟨#[]⟩] 25)) w.heap.size 25 #[.slice none 0 0, .string ⟨#[]⟩]) := Blk.new w _ _
  have HO := Lib.hid (open_any _ _ _ _ _ hS hnc hn)
  have HB0 := Lib.hid hB0
  clear h hB0 hS
  go_enter Tryd.func29, Tryd.ntmps29
  go_wp2_with fail
  refine HO.out.mono ?_
  rintro e w1 ⟨R, rfl, hR, hRl, hRd, hb⟩
  have HB1 := Lib.hid (HB0.out.trans (hb.mono (by omega)))
  have HA1 := Lib.hid (HA0.out.below hb (by omega))
  clear hb HO HB0 HA0
  go_wp2_with fail
  refine (l91Tree_any R 0 w1 hRd (by omega)).mono ?_
  rintro e w2 ⟨A', n', c', zs, s, q, rfl, ho, hsz, hq, hRd2, hg⟩
  have h0 := HA1.out.grown hg (fun e => by injection e with e; omega)
  have hB2 := gb_bel HB1.out hg (by omega)
  have a0 : w2.cell? ⟨w.heap.size, 0, none⟩ = some (.slice none 0 0) := h0.cell 0
  have a1 : w2.cell? ⟨w.heap.size, 1, none⟩ = some (.string ⟨#[]⟩) := h0.cell 1
  have f0 : w2.frozen? ⟨w.heap.size, 0, none⟩ = false := h0.frozen 0
  have f1 : w2.frozen? ⟨w.heap.size, 1, none⟩ = false := h0.frozen 1
  have hlt := h0.lt
  have HE : Hid (TreeL w (.returned (.agg #[.slice A' n' c', .string s])) ((w2.setCell ⟨w.heap.size, 0, none⟩ (.slice A' n' c')).setCell ⟨w.heap.size, 1, none⟩ (.string s))) :=
    ⟨A', n', c', zs, s, rfl, own_down0 (own_far2' ho h0 (by decide) _ _) (by have := HB1.out.size; omega), hsz, (hB2.setCell (p := ⟨w.heap.size, 0, none⟩) (by simp) _).setCell (p := ⟨w.heap.size, 1, none⟩) (by simp) _⟩
  clear h0 hB2 ho hsz hRd2 hg HB1 HA1 hRd hz
  go_wp2
  exact bodyPost_ret (v := .agg #[.slice A' n' c', .string s]) (by simp [results, Tryd.results29, go_sem, hlt, a0, a1]) rfl HE.out
set_option maxHeartbeats 1000000 in
theorem drawTIdem_any (A : Option Addr) (n c : Nat) (bs : Nat → Nat) (w : World) (h : Src w w.heap.size A n bs) (hnc : n ≤ c) (hn : n ≤ 1048576) :
    Calls Tryd.prog 31 #[.slice A n c] w (TreeL w) := by
  have hB0 : Below w.heap.size w (w.alloc (.cells #[.slice none 0 0, .string ⟨#[]⟩] 25)) := (Below.refl _ w).alloc (Nat.le_refl _) _
  have hz : (w.alloc (.cells #[.slice none 0 0, .string ⟨#[]⟩] 25)).heap.size = w.heap.size + 1 := by simp
  have hS : Src (w.alloc (.cells #[.slice none 0 0, .string ⟨#[]⟩] 25)) (w.alloc (.cells #[.slice none 0 0, .string ⟨#[]⟩] 25)).heap.size A n bs := src_more (h.keep fun q hq => World.cell?_alloc_lt _ _ _ hq) (by rw [hz]; omega)
  have HA0 : Hid (Blk (w.alloc (.cells #[.slice none 0 0, .string ⟨#[]⟩] 25)) w.heap.size 25 #[.slice none 0 0, .string ⟨#[]⟩]) := Blk.new w _ _
  have HO := Lib.hid (open_any _ _ _ _ _ hS hnc hn)
  have HB0 := Lib.hid hB0
  clear h hB0 hS
  go_enter Tryd.func31, Tryd.ntmps31
  go_wp2_with fail
  refine HO.out.mono ?_
  rintro e w1 ⟨R, rfl, hR, hRl, hRd, hb⟩
  have HB1 := Lib.hid (HB0.out.trans (hb.mono (by omega)))
  have HA1 := Lib.hid (HA0.out.below hb (by omega))
  clear hb HO HB0 HA0
  go_wp2_with fail
  refine (l91Tree_any R 0 w1 hRd (by omega)).mono ?_
  rintro e w2 ⟨A', n', c', zs, s, q, rfl, ho, hsz, hq, hRd2, hg⟩
  have h0 := HA1.out.grown hg (fun e => by injection e with e; omega)
  have hB2 := gb_bel HB1.out hg (by omega)
  have a0 : w2.cell? ⟨w.heap.size, 0, none⟩ = some (.slice none 0 0) := h0.cell 0
  have a1 : w2.cell? ⟨w.heap.size, 1, none⟩ = some (.string ⟨#[]⟩) := h0.cell 1
  have f0 : w2.frozen? ⟨w.heap.size, 0, none⟩ = false := h0.frozen 0
  have f1 : w2.frozen? ⟨w.heap.size, 1, none⟩ = false := h0.frozen 1
  have hlt := h0.lt
  have HE : Hid (TreeL w (.returned (.agg #[.slice A' n' c', .string s])) ((w2.setCell ⟨w.heap.size, 0, none⟩ (.slice A' n' c')).setCell ⟨w.heap.size, 1, none⟩ (.string s))) :=
    ⟨A', n', c', zs, s, rfl, own_down0 (own_far2' ho h0 (by decide) _ _) (by have := HB1.out.size; omega), hsz, (hB2.setCell (p := ⟨w.heap.size, 0, none⟩) (by simp) _).setCell (p := ⟨w.heap.size, 1, none⟩) (by simp) _⟩
  clear h0 hB2 ho hsz hRd2 hg HB1 HA1 hRd hz
  go_wp2
  exact bodyPost_ret (v := .agg #[.slice A' n' c', .string s]) (by simp [results, Tryd.results31, go_sem, hlt, a0, a1]) rfl HE.out
set_option maxHeartbeats 1000000 in
theorem drawTWord_any (A : Option Addr) (n c : Nat) (bs : Nat → Nat) (w : World) (h : Src w w.heap.size A n bs) (hnc : n ≤ c) (hn : n ≤ 1048576) :
    Calls Tryd.prog 37 #[.slice A n c] w (TreeL w) := by
  have hB0 : Below w.heap.size w (w.alloc (.cells #[.slice none 0 0, .string ⟨#[]⟩] 25)) := (Below.refl _ w).alloc (Nat.le_refl _) _
  have hz : (w.alloc (.cells #[.slice none 0 0, .string ⟨#[]⟩] 25)).heap.size = w.heap.size + 1 := by simp
  have hS : Src (w.alloc (.cells #[.slice none 0 0, .string ⟨#[]⟩] 25)) (w.alloc (.cells #[.slice none 0 0, .string ⟨#[]⟩] 25)).heap.size A n bs := src_more (h.keep fun q hq => World.cell?_alloc_lt _ _ _ hq) (by rw [hz]; omega)
  have HA0 : Hid (Blk (w.alloc (.cells #[.slice none 0 0, .string ⟨#[]⟩] 25)) w.heap.size 25 #[.slice none 0 0, .string ⟨#[]⟩]) := Blk.new w _ _
  have HO := Lib.hid (open_any _ _ _ _ _ hS hnc hn)
  have HB0 := Lib.hid hB0
  clear h hB0 hS
  go_enter Tryd.func37, Tryd.ntmps37
  go_wp2_with fail
  refine HO.out.mono ?_
  rintro e w1 ⟨R, rfl, hR, hRl, hRd, hb⟩
  have HB1 := Lib.hid (HB0.out.trans (hb.mono (by omega)))
  have HA1 := Lib.hid (HA0.out.below hb (by omega))
  clear hb HO HB0 HA0
  go_wp2_with fail
  refine (l91Tree_any R 0 w1 hRd (by omega)).mono ?_
  rintro e w2 ⟨A', n', c', zs, s, q, rfl, ho, hsz, hq, hRd2, hg⟩
  have h0 := HA1.out.grown hg (fun e => by injection e with e; omega)
  have hB2 := gb_bel HB1.out hg (by omega)
  have a0 : w2.cell? ⟨w.heap.size, 0, none⟩ = some (.slice none 0 0) := h0.cell 0
  have a1 : w2.cell? ⟨w.heap.size, 1, none⟩ = some (.string ⟨#[]⟩) := h0.cell 1
  have f0 : w2.frozen? ⟨w.heap.size, 0, none⟩ = false := h0.frozen 0
  have f1 : w2.frozen? ⟨w.heap.size, 1, none⟩ = false := h0.frozen 1
  have hlt := h0.lt
  have HE : Hid (TreeL w (.returned (.agg #[.slice A' n' c', .string s])) ((w2.setCell ⟨w.heap.size, 0, none⟩ (.slice A' n' c')).setCell ⟨w.heap.size, 1, none⟩ (.string s))) :=
    ⟨A', n', c', zs, s, rfl, own_down0 (own_far2' ho h0 (by decide) _ _) (by have := HB1.out.size; omega), hsz, (hB2.setCell (p := ⟨w.heap.size, 0, none⟩) (by simp) _).setCell (p := ⟨w.heap.size, 1, none⟩) (by simp) _⟩
  clear h0 hB2 ho hsz hRd2 hg HB1 HA1 hRd hz
  go_wp2
  exact bodyPost_ret (v := .agg #[.slice A' n' c', .string s]) (by simp [results, Tryd.results37, go_sem, hlt, a0, a1]) rfl HE.out
set_option maxHeartbeats 1000000 in
theorem drawTWalk_any (A : Option Addr) (n c : Nat) (bs : Nat → Nat) (w : World) (h : Src w w.heap.size A n bs) (hnc : n ≤ c) (hn : n ≤ 1048576) :
    Calls Tryd.prog 40 #[.slice A n c] w (TreeL w) := by
  have hB0 : Below w.heap.size w (w.alloc (.cells #[.slice none 0 0, .string ⟨#[]⟩] 25)) := (Below.refl _ w).alloc (Nat.le_refl _) _
  have hz : (w.alloc (.cells #[.slice none 0 0, .string ⟨#[]⟩] 25)).heap.size = w.heap.size + 1 := by simp
  have hS : Src (w.alloc (.cells #[.slice none 0 0, .string ⟨#[]⟩] 25)) (w.alloc (.cells #[.slice none 0 0, .string ⟨#[]⟩] 25)).heap.size A n bs := src_more (h.keep fun q hq => World.cell?_alloc_lt _ _ _ hq) (by rw [hz]; omega)
  have HA0 : Hid (Blk (w.alloc (.cells #[.slice none 0 0, .string ⟨#[]⟩] 25)) w.heap.size 25 #[.slice none 0 0, .string ⟨#[]⟩]) := Blk.new w _ _
  have HO := Lib.hid (open_any _ _ _ _ _ hS hnc hn)
  have HB0 := Lib.hid hB0
  clear h hB0 hS
  go_enter Tryd.func40, Tryd.ntmps40
  go_wp2_with fail
  refine HO.out.mono ?_
  rintro e w1 ⟨R, rfl, hR, hRl, hRd, hb⟩
  have HB1 := Lib.hid (HB0.out.trans (hb.mono (by omega)))
  have HA1 := Lib.hid (HA0.out.below hb (by omega))
  clear hb HO HB0 HA0
  go_wp2_with fail
  refine (l91Tree_any R 0 w1 hRd (by omega)).mono ?_
  rintro e w2 ⟨A', n', c', zs, s, q, rfl, ho, hsz, hq, hRd2, hg⟩
  have h0 := HA1.out.grown hg (fun e => by injection e with e; omega)
  have hB2 := gb_bel HB1.out hg (by omega)
  have a0 : w2.cell? ⟨w.heap.size, 0, none⟩ = some (.slice none 0 0) := h0.cell 0
  have a1 : w2.cell? ⟨w.heap.size, 1, none⟩ = some (.string ⟨#[]⟩) := h0.cell 1
  have f0 : w2.frozen? ⟨w.heap.size, 0, none⟩ = false := h0.frozen 0
  have f1 : w2.frozen? ⟨w.heap.size, 1, none⟩ = false := h0.frozen 1
  have hlt := h0.lt
  have HE : Hid (TreeL w (.returned (.agg #[.slice A' n' c', .string s])) ((w2.setCell ⟨w.heap.size, 0, none⟩ (.slice A' n' c')).setCell ⟨w.heap.size, 1, none⟩ (.string s))) :=
    ⟨A', n', c', zs, s, rfl, own_down0 (own_far2' ho h0 (by decide) _ _) (by have := HB1.out.size; omega), hsz, (hB2.setCell (p := ⟨w.heap.size, 0, none⟩) (by simp) _).setCell (p := ⟨w.heap.size, 1, none⟩) (by simp) _⟩
  clear h0 hB2 ho hsz hRd2 hg HB1 HA1 hRd hz
  go_wp2
  exact bodyPost_ret (v := .agg #[.slice A' n' c', .string s]) (by simp [results, Tryd.results40, go_sem, hlt, a0, a1]) rfl HE.out
end

end Go.Proofs.YtlfbocmcbkcfhaaDoor
