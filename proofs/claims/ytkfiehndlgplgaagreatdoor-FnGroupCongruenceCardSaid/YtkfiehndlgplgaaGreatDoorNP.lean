/-
  Prt.
-/
import Derived.Test.YtkfiehndlgplgaaGreatDoorNO
namespace Go.Proofs.YtkfiehndlgplgaaGreatDoor
set_option maxRecDepth 100000
set_option linter.unusedVariables false
set_option linter.unusedSimpArgs false
set_option linter.unusedSectionVars false

/-! (impl.semigroup).charts, (impl.semigroup).part, (impl.semigroup).idems. -/
section
open Go.RowKit Go.Maps

/-! ### seven cells laid anew in a row -/
def put7 (xs : List Value) (q : Nat) (n : Int) (T : Nat → Int) : List Value :=
  ((((((xs.set (q * 7) (.int .i64 n)).set (q * 7 + 1) (.int .i64 (T 0))).set (q * 7 + 2) (.int .i64 (T 1))).set (q * 7 + 3) (.int .i64 (T 2))).set (q * 7 + 4) (.int .i64 (T 3))).set (q * 7 + 5) (.int .i64 (T 4))).set (q * 7 + 6) (.int .i64 (T 5))
theorem put7_len (xs : List Value) (q : Nat) (n : Int) (T : Nat → Int) : (put7 xs q n T).length = xs.length := by simp [put7]
theorem put7_other {xs : List Value} {q : Nat} {n : Int} {T : Nat → Int} {i j : Nat} (hi : i ≠ q) (hj : j < 7) : (put7 xs q n T)[i * 7 + j]? = xs[i * 7 + j]? := by
  have h : ∀ t, t < 7 → q * 7 + t ≠ i * 7 + j := fun t ht e => by omega
  unfold put7
  rw [List.getElem?_set_ne (h 6 (by omega)), List.getElem?_set_ne (h 5 (by omega)), List.getElem?_set_ne (h 4 (by omega)), List.getElem?_set_ne (h 3 (by omega)), List.getElem?_set_ne (h 2 (by omega)), List.getElem?_set_ne (h 1 (by omega)), List.getElem?_set_ne (by have := h 0 (by omega); omega)]
theorem put7_same {xs : List Value} {q n : Nat} {T : Nat → Int} {j : Nat} (hl : q * 7 + 7 ≤ xs.length) (hj : j < 7) : (put7 xs q (n : Int) T)[q * 7 + j]? = (c7 n T)[j]? := by
  unfold put7
  match j, hj with
  | 0, _ =>
    rw [List.getElem?_set_ne (by omega), List.getElem?_set_ne (by omega), List.getElem?_set_ne (by omega), List.getElem?_set_ne (by omega), List.getElem?_set_ne (by omega), List.getElem?_set_ne (by omega)]
    exact List.getElem?_set_self (by omega)
  | 1, _ =>
    rw [List.getElem?_set_ne (by omega), List.getElem?_set_ne (by omega), List.getElem?_set_ne (by omega), List.getElem?_set_ne (by omega), List.getElem?_set_ne (by omega)]
    exact List.getElem?_set_self (by simp; omega)
  | 2, _ =>
    rw [List.getElem?_set_ne (by omega), List.getElem?_set_ne (by omega), List.getElem?_set_ne (by omega), List.getElem?_set_ne (by omega)]
    exact List.getElem?_set_self (by simp; omega)
  | 3, _ =>
    rw [List.getElem?_set_ne (by omega), List.getElem?_set_ne (by omega), List.getElem?_set_ne (by omega)]
    exact List.getElem?_set_self (by simp; omega)
  | 4, _ =>
    rw [List.getElem?_set_ne (by omega), List.getElem?_set_ne (by omega)]
    exact List.getElem?_set_self (by simp; omega)
  | 5, _ =>
    rw [List.getElem?_set_ne (by omega)]
    exact List.getElem?_set_self (by simp; omega)
  | 6, _ => exact List.getElem?_set_self (by simp; omega)
  | j + 7, h => omega

theorem cwc_ext {m : Nat} {zs : List (List Int)} {xs : List Value} (hl : xs.length = zs.length * 7) (h : ∀ i, i < zs.length → ∀ j, j < 7 → xs[i * 7 + j]? = (c7 m (ofL (ent zs i)))[j]?) : xs = cwc m zs := by
  apply List.ext_getElem?
  intro t
  by_cases ht : t < zs.length * 7
  · have hq : t / 7 < zs.length := by omega
    have hL : zs[t / 7]? = some (ent zs (t / 7)) := by unfold ent; rw [List.getElem?_eq_getElem hq]; rfl
    have e1 := cwc_get m zs (t / 7) _ hL (t % 7) (by omega)
    have e2 := h (t / 7) hq (t % 7) (by omega)
    rw [show t / 7 * 7 + t % 7 = t by omega] at e1 e2
    rw [e1, e2]
  · rw [List.getElem?_eq_none (by omega), List.getElem?_eq_none (by rw [cwc_len]; omega)]

theorem placed_self {zs : List (List Int)} {m : Nat} (hm : m ≤ 6) (hz : ∀ L ∈ zs, L.length = m) (hs : Srt zs) : Placed zs zs :=
  ⟨List.Perm.refl _, fun i j hij hj => by rw [lt6_eq (by rw [hz _ (ent_mem hj), hz _ (ent_mem (by omega))]) (by rw [hz _ (ent_mem hj)]; exact hm)]; exact lexB_asymm (hs i j hij hj)⟩

theorem mapP_size {H : Type} {zs : List (List Int)} {m : Nat} (hz : ∀ L ∈ zs, isC L = true ∧ L.length = m) (hs : Srt zs) : ∀ k, k ≤ zs.length → Maps.size (mapP (H := H) klL zs k) = k
  | 0, _ => rfl
  | k + 1, hk => by
    unfold mapP
    rw [Maps.size_put (mapP_tidy klL_key zs k), mapP_size hz hs k (by omega), if_neg]
    intro h
    obtain ⟨i, hi, e⟩ := (mapP_has klL_key k (by omega)).1 h
    have := klL_inj _ _ (hz _ (ent_mem (show i < zs.length by omega))).1 (hz _ (ent_mem (show k < zs.length by omega))).1 e
    have h2 := hs i k hi (by omega)
    rw [this, lexB_irrefl] at h2; cases h2
theorem _root_.Go.World.ownsRow.put7 {w : World} {base g n cap q : Nat} {xs : List Value} (h : w.ownsRow base 58 7 (.slice (some ⟨g, 0, none⟩) n cap) n xs) (a : Int) (T : Nat → Int) :
    (((((((w.setCell ⟨g, q * 7, none⟩ (.int .i64 a)).setCell ⟨g, q * 7 + 1, none⟩ (.int .i64 (T 0))).setCell ⟨g, q * 7 + 2, none⟩ (.int .i64 (T 1))).setCell ⟨g, q * 7 + 3, none⟩ (.int .i64 (T 2))).setCell ⟨g, q * 7 + 4, none⟩ (.int .i64 (T 3))).setCell ⟨g, q * 7 + 5, none⟩ (.int .i64 (T 4))).setCell ⟨g, q * 7 + 6, none⟩ (.int .i64 (T 5))).ownsRow base 58 7 (.slice (some ⟨g, 0, none⟩) n cap) n (Proofs.YtkfiehndlgplgaaGreatDoor.put7 xs q a T) :=
  ((((((((h.stored _ _).1.stored _ _).1.stored _ _).1.stored _ _).1.stored _ _).1.stored _ _).1.stored _ _).1)

theorem _root_.Go.World.ownsRow.put7_grown {w : World} {base g n cap q : Nat} {xs : List Value} (h : w.ownsRow base 58 7 (.slice (some ⟨g, 0, none⟩) n cap) n xs) (a : Int) (T : Nat → Int) :
    w.grownBy (((((((w.setCell ⟨g, q * 7, none⟩ (.int .i64 a)).setCell ⟨g, q * 7 + 1, none⟩ (.int .i64 (T 0))).setCell ⟨g, q * 7 + 2, none⟩ (.int .i64 (T 1))).setCell ⟨g, q * 7 + 3, none⟩ (.int .i64 (T 2))).setCell ⟨g, q * 7 + 4, none⟩ (.int .i64 (T 3))).setCell ⟨g, q * 7 + 5, none⟩ (.int .i64 (T 4))).setCell ⟨g, q * 7 + 6, none⟩ (.int .i64 (T 5))) (some g) := by
  have s0 := h.stored (q * 7) (.int .i64 a)
  have s1 := s0.1.stored (q * 7 + 1) (.int .i64 (T 0))
  have s2 := s1.1.stored (q * 7 + 2) (.int .i64 (T 1))
  have s3 := s2.1.stored (q * 7 + 3) (.int .i64 (T 2))
  have s4 := s3.1.stored (q * 7 + 4) (.int .i64 (T 3))
  have s5 := s4.1.stored (q * 7 + 5) (.int .i64 (T 4))
  have s6 := s5.1.stored (q * 7 + 6) (.int .i64 (T 5))
  have r : ∀ {A B : World} (j : Nat), some g = some j → A.heap.size ≤ j ∨ some g = some j := fun j e => .inr e
  exact (((((s0.2.andThen s1.2 (r (A := w) (B := w))).andThen s2.2 (r (A := w) (B := w))).andThen s3.2 (r (A := w) (B := w))).andThen s4.2 (r (A := w) (B := w))).andThen s5.2 (r (A := w) (B := w))).andThen s6.2 (r (A := w) (B := w))

set_option maxHeartbeats 2000000 in
theorem charts_any {H : Type} (b m n : Nat) (zs : List (List Int)) (hn : zs.length = n) (hn6 : n ≤ 1048576) (hz : ∀ L ∈ zs, isC L = true ∧ L.length = m) (hs : Srt zs) (w : World) (hown : w.ownsMap Tryz.prog 58 (plainElem (H := H) Tryz.prog 3) b n (mapP klL zs n)) :
    Calls Tryz.prog 82 #[.map (some b)] w fun e w' => ∃ G, e = .returned (.slice (some ⟨G, 0, none⟩) n n) ∧ w'.ownsRow w.heap.size 58 7 (.slice (some ⟨G, 0, none⟩) n n) n (cwc m zs) ∧ Below w.heap.size w w' := by
  obtain ⟨i1, hj, hj0, hj1, hj2⟩ := info_parts info_chart7
  have hb8 : i1.bytes * n ≤ 281474976710656 := by rw [hj2]; omega
  have hmx : n ≤ maxLen := by unfold maxLen; omega
  have hsz := mapP_size (H := H) hz hs n (by omega)
  have hlen := hown.len Tryz.underlying48
  rw [hsz] at hlen
  go_enter Tryz.func82, Tryz.ntmps82
  have hm6 : zs ≠ [] → m ≤ 6 := fun h => by
    obtain ⟨L, hL⟩ := List.exists_mem_of_ne_nil _ h
    have := hz L hL; have := (isC_len this.1).2; omega
  have HAT : Hid (∀ i, i < n → ∀ z, (mapP (H := H) klL zs n).atKey (klL (ent zs i)) z = .lit (.int .i64 (i : Int))) := fun i hi z => by
    have h1 := mapP_at (H := H) (P := fun L => isC L = true) klL_key (fun L M hL hM e => klL_inj L M hL hM e) (fun L hL => (hz L hL).1) (hz _ (ent_mem (show i < zs.length by omega))).1 n (by omega) ⟨i, hi, rfl⟩ z
    have h2 := (placed_srt (kl := klL) (placed_self (hm6 (fun e => by rw [e] at hn; simp at hn; omega)) (fun L hL => (hz L hL).2) hs) (hm6 (fun e => by rw [e] at hn; simp at hn; omega)) (fun L hL => (hz L hL).2) hs).2 i (by omega)
    rw [hn] at h2
    rw [h1, h2]
  have HD : Hid (∀ x, Maps.has (mapP (H := H) klL zs n) x = true ↔ ∃ L, L ∈ zs ∧ klL L = x) := fun x => by
    rw [mapP_has klL_key n (by omega)]
    constructor
    · rintro ⟨i, hi, e⟩; exact ⟨_, ent_mem (by omega), e⟩
    · rintro ⟨L, hL, e⟩
      obtain ⟨i, hi, e2⟩ := mem_ent hL
      exact ⟨i, by omega, by rw [e2]; exact e⟩
  have HZ := Lib.hid hz
  have HN := Lib.hid hn
  have HSR := Lib.hid hs
  clear hz hs hsz hm6 hn
  go_wp2_with (first
    | (at_make; refine wpList_make_full _ rfl _ _ _ rfl w.heap.size 58 i1 _ 7 Tryz.underlying65 hj hj0 hj1 _ _ _ _ n rfl rfl rfl rfl hb8 hmx (Nat.le_refl _) ?_; intro w1 hrow hg; have hown1 := ownsMap_same hown (hg.block b hown.lt (by simp)))
    | (at_range; refine wpList_range_own _ rfl _ 48 rfl 58 3 ch_keyed Tryz.underlying48 _ b n _ rfl hown1 ?_; intro w2 hrg0 hg0 hs0)
    | go_in)
  try go_frame
  have hB1 : Below w.heap.size w w1 := (Below.refl _ _).grown hg (Nat.le_refl _) (fun k e => by cases e)
  have hB2 := hB1.grown hg0 hB1.size (fun k e => by cases e)
  have hrow2 := hrow.kept hg0 (.inr (by simp [Value.ownBlock]))
  have hl1 := (hrow.lt w.heap.size rfl).2
  obtain ⟨xs0, hxs0⟩ : ∃ xs : List Value, xs = (madeCells (Value.agg #[.int .i64 ((0 : Int)), .int .i64 ((fun _ => (0 : Int)) 0), .int .i64 ((fun _ => (0 : Int)) 1), .int .i64 ((fun _ => (0 : Int)) 2), .int .i64 ((fun _ => (0 : Int)) 3), .int .i64 ((fun _ => (0 : Int)) 4), .int .i64 ((fun _ => (0 : Int)) 5)]).cells (n * 7)).toList := ⟨_, rfl⟩
  rw [← hxs0] at hrow2
  have hbl := hown.lt
  clear hg hg0 hs0 hrow hxs0 hown hown1 hlen
  go_loopw [4, 5] (fun _ _ wr => ∃ left cnt xs, wr.ranges Tryz.prog 58 (plainElem Tryz.prog 3) b w1.heap.size n (mapP klL zs n) left cnt ∧ wr.ownsRow w.heap.size 58 7 (.slice (some ⟨w.heap.size, 0, none⟩) n n) n xs ∧ Hid (∀ x, left x = true → Maps.has (mapP (H := H) klL zs n) x = true) ∧ Hid (∀ i, i < n → left (klL (ent zs i)) = false → ∀ j, j < 7 → xs[i * 7 + j]? = (c7 m (ofL (ent zs i)))[j]?) ∧ Below w.heap.size w wr) (fun _ _ wr => wr.rangeLeft b w1.heap.size)
  case atStart => exact ⟨_, _, _, hrg0, hrow2, Lib.hid (fun x h => h), Lib.hid (fun i hi h => by rw [(HD.out _).2 ⟨_, ent_mem (by have := HN.out; omega), rfl⟩] at h; cases h), hB2⟩
  case round =>
    clear hrg0 hrow2 hB1 hB2
    obtain ⟨left, cnt, xs, hrg, hrow, P1, P2, hB⟩ := hrel
    have hrl := hrg.lt
    go_wp2_with (first | (at_next; refine wpList_next_ranges _ rfl _ rfl 58 ch_keyed (plainElem Tryz.prog 3) mkCh (Value.int .i64) mkCh_inv plain_inv b w1.heap.size n _ _ _ rfl hrg ?_ ?_) | go_in)
    · intro hc0 hl0
      have HX : Hid (xs = cwc m zs) := cwc_ext (by have := hrow.1; have := HN.out; omega) (fun i hi j hj => P2.out i (by have := HN.out; omega) (hl0 _) j hj)
      go_wp2
      go_ret
      exact ⟨_, rfl, by rw [← HX.out]; exact hrow, hB⟩
    · intro xn xT c kl yd yp w2 cnt2 hkey hlk hv hat hrg2 hlt hg2 hs2 hen
      obtain ⟨L, hL, hkl, hx⟩ := ch_of_key HZ.out hkey ((HD.out kl).1 (P1.out kl hlk))
      rw [hx] at hen
      rw [hx]
      obtain ⟨i, hi, hei⟩ := mem_ent hL
      have hin : i < n := by have := HN.out; omega
      have hci : c = (i : Int) := by
        have h1 := HAT.out i hin (.lit .nil)
        rw [hei, hkl, hat] at h1
        obtain ⟨c', h2, h3, _⟩ := plainElem_int_inv Tryz.underlying3 hv
        cases h2
        rw [show yd = .lit (.int .i64 c) from congrArg Prod.fst h3] at h1
        injection h1 with h1; injection h1
      subst hci
      have hlz := HZ.out L hL
      have hB2 := hB.grown hg2 hB.size (fun j e => by cases e; omega)
      have hs2' := hB2.size
      have hrow2 := (hrow.kept hg2 (.inr (by simp [Value.ownBlock]; omega))).alloc (.cells #[.int .i64 ((m : Int)), .int .i64 (ofL L 0), .int .i64 (ofL L 1), .int .i64 (ofL L 2), .int .i64 (ofL L 3), .int .i64 (ofL L 4), .int .i64 (ofL L 5)] 58)
      have hrg3 := hrg2.alloc (.cells #[.int .i64 ((m : Int)), .int .i64 (ofL L 0), .int .i64 (ofL L 1), .int .i64 (ofL L 2), .int .i64 (ofL L 3), .int .i64 (ofL L 4), .int .i64 (ofL L 5)] 58)
      have hB3 := hB2.alloc hs2' (.cells #[.int .i64 ((m : Int)), .int .i64 (ofL L 0), .int .i64 (ofL L 1), .int .i64 (ofL L 2), .int .i64 (ofL L 3), .int .i64 (ofL L 4), .int .i64 (ofL L 5)] 58)
      have hxl : xs.length = n * 7 := hrow.1
      have hat : ∀ j, j < 7 → ∃ u, (w2.alloc (.cells #[.int .i64 ((m : Int)), .int .i64 (ofL L 0), .int .i64 (ofL L 1), .int .i64 (ofL L 2), .int .i64 (ofL L 3), .int .i64 (ofL L 4), .int .i64 (ofL L 5)] 58)).cell? ⟨w.heap.size, i * 7 + j, none⟩ = some u := fun j hj => ⟨_, (hrow2.cellAt (i * 7 + j) (by omega)).trans (List.getElem?_eq_getElem (by omega))⟩
      obtain ⟨u0, a0⟩ := hat 0 (by omega)
      obtain ⟨u1, a1⟩ := hat 1 (by omega)
      obtain ⟨u2, a2⟩ := hat 2 (by omega)
      obtain ⟨u3, a3⟩ := hat 3 (by omega)
      obtain ⟨u4, a4⟩ := hat 4 (by omega)
      obtain ⟨u5, a5⟩ := hat 5 (by omega)
      obtain ⟨u6, a6⟩ := hat 6 (by omega)
      rw [Nat.add_zero] at a0
      have f0 := hrow2.frozenAt (i * 7)
      have f1 := hrow2.frozenAt (i * 7 + 1)
      have f2 := hrow2.frozenAt (i * 7 + 2)
      have f3 := hrow2.frozenAt (i * 7 + 3)
      have f4 := hrow2.frozenAt (i * 7 + 4)
      have f5 := hrow2.frozenAt (i * 7 + 5)
      have f6 := hrow2.frozenAt (i * 7 + 6)
      have hput := Lib.hid (hrow2.put7 (q := i) (m : Int) (ofL L))
      have hpg := hrow2.put7_grown (q := i) (m : Int) (ofL L)
      have hrgP := Lib.hid (hrg3.kept hpg (by simp; omega) (by simp; omega))
      have hBP := Lib.hid (hB3.grown hpg hB3.size (fun j e => by cases e; exact Nat.le_refl _))
      have P1' : Hid (∀ x, (left x && !x.sameKey kl) = true → Maps.has (mapP (H := H) klL zs n) x = true) := fun x h => P1.out x (by rw [Bool.and_eq_true] at h; exact h.1)
      have P2' : Hid (∀ i', i' < n → (left (klL (ent zs i')) && !(klL (ent zs i')).sameKey kl) = false → ∀ j, j < 7 → (put7 xs i (m : Int) (ofL L))[i' * 7 + j]? = (c7 m (ofL (ent zs i')))[j]?) := fun i' hi' h j hj => by
        by_cases e : i' = i
        · subst e
          rw [hei]; exact put7_same (by omega) hj
        · rw [put7_other e hj]
          cases hl : left (klL (ent zs i'))
          · exact P2.out i' hi' hl j hj
          · rw [hl, Bool.true_and] at h
            have hsk : (klL (ent zs i')).sameKey kl = true := by cases hsk : (klL (ent zs i')).sameKey kl <;> simp_all
            have e2 := (same_key hsk).trans hkl.symm
            have e3 := klL_inj _ _ (HZ.out _ (ent_mem (by have := HN.out; omega))).1 hlz.1 e2
            rcases Nat.lt_trichotomy i' i with h3 | h3 | h3
            · have := HSR.out i' i h3 hi; rw [hei, e3, lexB_irrefl] at this; cases this
            · exact absurd h3 e
            · have := HSR.out i i' h3 (by have := HN.out; omega); rw [hei, e3, lexB_irrefl] at this; cases this
      clear hs2 hkey hx hv hlk hkl P1 P2 hrow hrow2 hat hxl hg2 hL hei hpg hrg3 hB3 hrg2 hB2
      go_wp2
      go_roundw
      case rel => exact ⟨_, cnt2, _, hrgP.out, hput.out, P1', P2', hBP.out⟩
      case measure => rw [hrgP.out.left_eq, hrg.left_eq]; exact hlt
end

end Go.Proofs.YtkfiehndlgplgaaGreatDoor
