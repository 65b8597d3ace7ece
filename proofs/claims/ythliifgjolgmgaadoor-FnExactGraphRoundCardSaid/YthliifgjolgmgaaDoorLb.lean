/-
  spec.l5Back: where the inverse letters lead.
-/
import Derived.Test.YthliifgjolgmgaaDoorLs
namespace Go.Proofs.YthliifgjolgmgaaDoor
set_option maxRecDepth 100000
open Go.RowKit Go.Lib

/-- nowhere is told as -1 -/
def enc : Option Nat → Int
  | none => -1
  | some i => (i : Int)
theorem enc_inj {a b : Option Nat} (h : enc a = enc b) : a = b := by
  cases a <;> cases b <;> simp [enc] at h ⊢ <;> omega
/-- from where the first k arrows lead to j -/
def bkK (zs : List Int) (k j : Nat) : Option Nat := (List.range k).find? (fun i => zs[i]? == some (j : Int))
def bkL (zs : List Int) (n k : Nat) : List Int := (List.range n).map (fun j => enc (bkK zs k j))
theorem bkL_len (zs : List Int) (n k : Nat) : (bkL zs n k).length = n := by simp [bkL]
theorem bkL_get (zs : List Int) {n j : Nat} (k : Nat) (h : j < n) : (bkL zs n k)[j]? = some (enc (bkK zs k j)) := by
  unfold bkL; rw [List.getElem?_map, List.getElem?_range h]; rfl
theorem bkL_zero (zs : List Int) (n : Nat) : bkL zs n 0 = List.replicate n (-1) := by
  apply List.ext_getElem?
  intro j
  rcases Nat.lt_or_ge j n with h | h
  · rw [bkL_get zs 0 h, List.getElem?_replicate, if_pos h]; rfl
  · rw [List.getElem?_eq_none (by rw [bkL_len]; exact h), List.getElem?_eq_none (by simp; exact h)]
theorem bkK_succ (zs : List Int) (k j : Nat) : bkK zs (k + 1) j = (bkK zs k j).or (if zs[k]? = some (j : Int) then some k else none) := by
  unfold bkK
  rw [List.range_succ, List.find?_append]
  congr 1
  by_cases h : zs[k]? = some (j : Int)
  · rw [if_pos h]; simp [h]
  · rw [if_neg h]; simp [h]
theorem bkK_none {zs : List Int} {k j : Nat} (h : ∀ i, i < k → zs[i]? ≠ some (j : Int)) : bkK zs k j = none := by
  unfold bkK
  rw [List.find?_eq_none]
  intro i hi
  simpa using h i (List.mem_range.1 hi)
theorem bkL_neg {zs : List Int} {n k : Nat} {z : Int} (hz : zs[k]? = some z) (h : z < 0) : bkL zs n (k + 1) = bkL zs n k := by
  unfold bkL
  apply List.map_congr_left
  intro j _
  rw [bkK_succ, if_neg (by rw [hz]; intro e; injection e with e; omega), Option.or_none]
theorem bkL_pos {zs : List Int} {n k v : Nat} (hl : Leads zs n) (hz : zs[k]? = some (v : Int)) : (bkL zs n k).set v (k : Int) = bkL zs n (k + 1) := by
  apply List.ext_getElem?
  intro j
  rcases Nat.lt_or_ge j n with h | h
  · rw [bkL_get zs (k + 1) h, bkK_succ]
    by_cases e : j = v
    · subst e
      rw [List.getElem?_set_self (by rw [bkL_len]; exact h), bkK_none (fun i hi he => by have := hl.2.2 i k _ he hz (by omega); omega), if_pos hz]; rfl
    · rw [List.getElem?_set_ne (fun e' => e e'.symm), bkL_get zs k h, if_neg (by rw [hz]; intro e'; injection e' with e'; omega), Option.or_none]
  · rw [List.getElem?_eq_none (by rw [List.length_set, bkL_len]; exact h), List.getElem?_eq_none (by rw [bkL_len]; exact h)]
/-- what leads there, and nothing else -/
theorem bkK_some {zs : List Int} {n i j : Nat} (hl : Leads zs n) (h : zs[i]? = some (j : Int)) : bkK zs n j = some i := by
  have hi : i < n := by rw [← hl.1]; exact (List.getElem?_eq_some_iff.1 h).1
  cases hb : bkK zs n j with
  | none =>
    unfold bkK at hb
    rw [List.find?_eq_none] at hb
    exact absurd (by simpa using h) (hb i (List.mem_range.2 hi))
  | some i' =>
    have h' := List.find?_some hb
    rw [hl.2.2 i i' _ h (by simpa using h') (by omega)]
theorem bkK_is {zs : List Int} {k i j : Nat} (h : bkK zs k j = some i) : zs[i]? = some (j : Int) := by simpa using List.find?_some h
set_option maxHeartbeats 2000000 in
theorem l5Back_any (A : Option Addr) (n c : Nat) (zs : List Int) (w : World) (h : RI w A n zs) (hl : Leads zs n) (hn : n ≤ 1600) :
    Calls Tryd.prog 76 #[.slice A n c] w fun e w' => ∃ B : Addr, e = .returned (.slice (some B) n n) ∧ w'.ownsRow w.heap.size 3 1 (.slice (some B) n n) n (ivs (bkL zs n n)) ∧ Below w.heap.size w w' := by
  obtain ⟨i0, hi, hz0, hz1, hz2⟩ := info_parts info_int
  have hb8 : i0.bytes * n ≤ 281474976710656 := by rw [hz2]; omega
  have hmx : n ≤ maxLen := by unfold maxLen; omega
  have HL := Lib.hid h.len
  have HLD := Lib.hid hl
  clear hl
  go_enter Tryd.func76, Tryd.ntmps76
  go_wp2_with (at_make; refine wpList_make_full _ rfl _ _ _ rfl w.heap.size 3 i0 _ 1 Tryd.underlying24 hi hz0 hz1 _ _ _ _ n rfl rfl rfl rfl hb8 hmx (Nat.le_refl _) ?_; intro w1 hown hg)
  have hB1 : Below w.heap.size w w1 := (Below.refl _ _).grown hg (Nat.le_refl _) (fun k e => by cases e)
  have hr0 : w1.ownsRow w.heap.size 3 1 (.slice (some ⟨w.heap.size, 0, none⟩) n n) n (ivs ((List.replicate n (-1)).take 0 ++ List.replicate (n - 0) 0)) := by
    have e : (madeCells (Value.int .i64 0).cells (n * 1)).toList = ivs ((List.replicate n (-1)).take 0 ++ List.replicate (n - 0) 0) := by
      show (madeCells #[Value.int .i64 0] (n * 1)).toList = _
      rw [toList_madeCells_one]; simp [ivs]
    rw [← e]; exact hown
  clear hown hg hi hz0 hz1 hz2 hb8
  go_loopw [4] (fun i wr => ∃ k : Nat, k ≤ n ∧ i = .int .i64 k ∧ wr.ownsRow w.heap.size 3 1 (.slice (some ⟨w.heap.size, 0, none⟩) n n) n (ivs ((List.replicate n (-1)).take k ++ List.replicate (n - k) 0)) ∧ Below w.heap.size w wr) (fun i _ => n - (intOf i).toNat)
  case atStart => exact ⟨0, Nat.zero_le _, rfl, hr0, hB1⟩
  case round =>
    obtain ⟨k, hk, rfl, hrow, hbel⟩ := hrel
    clear hr0 hB1
    by_cases hlt : k < n
    · have ho := hrow.cellAt k (by omega)
      have hf := hrow.frozenAt k
      obtain ⟨u, hu⟩ : ∃ u, (ivs ((List.replicate n (-1)).take k ++ List.replicate (n - k) 0))[k]? = some u := ⟨_, List.getElem?_eq_getElem (by simp [ivs]; omega)⟩
      rw [hu] at ho
      have hst := (hrow.stored k (.int .i64 (-1))).1
      have hfs := fill_step (List.replicate n (-1)) hlt (by simp)
      rw [show (List.replicate n (-1 : Int))[k]?.getD 0 = -1 by rw [List.getElem?_replicate, if_pos hlt]; rfl] at hfs
      rw [hfs] at hst
      have HST := Lib.hid hst
      have hbel' := hbel.setCell (p := ⟨w.heap.size, k, none⟩) (Nat.le_refl _) (.int .i64 (-1))
      clear hst hu hfs hrow
      go_wp2
      go_roundw
      case rel => exact ⟨k + 1, by omega, by go_num, HST.out, hbel'⟩
      case measure => simp [intOf]; omega
    · obtain rfl : k = n := by omega
      have e : (List.replicate k (-1 : Int)).take k ++ List.replicate (k - k) 0 = bkL zs k 0 := by
        rw [bkL_zero, Nat.sub_self, List.replicate_zero, List.append_nil]; exact List.take_of_length_le (by simp)
      rw [e] at hrow
      have HROW := Lib.hid hrow
      have HBL := Lib.hid hbel
      clear e hrow hbel
      go_wp2
      go_loopw [5] (fun i wr => ∃ t : Nat, t ≤ k ∧ i = .int .i64 t ∧ wr.ownsRow w.heap.size 3 1 (.slice (some ⟨w.heap.size, 0, none⟩) k k) k (ivs (bkL zs k t)) ∧ Below w.heap.size w wr) (fun i _ => k - (intOf i).toNat)
      case atStart => exact ⟨0, Nat.zero_le _, rfl, HROW.out, HBL.out⟩
      case round =>
        obtain ⟨t, ht, rfl, hrow, hbel⟩ := hrel
        clear HROW HBL
        by_cases hlt2 : t < k
        · obtain ⟨ad, z, rfl, hab, hz, hc⟩ : ∃ (ad : Addr) (z : Int), A = some ad ∧ ad.block < w.heap.size ∧ zs[t]? = some z ∧ w.cell? (ad.add t) = some (.int .i64 z) := by
            obtain ⟨ad, e, hab, hc⟩ := h.at_ hlt2
            exact ⟨ad, _, e, hab, by rw [List.getElem?_eq_getElem (by have := HL.out; omega)]; simp, hc⟩
          have hc' := (hbel.cell (p := ad.add t) (by rw [block_of_add]; exact hab)).trans hc
          have hrg := HLD.out.2.1 z (List.mem_of_getElem? hz)
          have HZ := Lib.hid hz
          have HB := Lib.hid hbel
          clear hc h hz hbel
          by_cases hneg : z < 0
          · have hge : ¬ (0 : Int) ≤ z := by omega
            rw [← bkL_neg (n := k) HZ.out hneg] at hrow
            have HROW := Lib.hid hrow
            clear hrow hrg
            go_wp2
            go_roundw
            case rel => exact ⟨t + 1, by omega, by go_num, HROW.out, HB.out⟩
            case measure => simp [intOf]; omega
          · obtain ⟨v, rfl⟩ : ∃ v : Nat, z = (v : Int) := ⟨z.toNat, by omega⟩
            have hv : v < k := by omega
            have hvi : (v : Int) < (k : Int) := by omega
            have hge : (0 : Int) ≤ (v : Int) := by omega
            have ho := hrow.cellAt v (by omega)
            have hf := hrow.frozenAt v
            obtain ⟨u, hu⟩ : ∃ u, (ivs (bkL zs k t))[v]? = some u := ⟨_, List.getElem?_eq_getElem (by rw [ivs_length, bkL_len]; exact hv)⟩
            rw [hu] at ho
            have hst := (hrow.stored v (.int .i64 (t : Int))).1
            have hse : (ivs (bkL zs k t)).set v (.int .i64 (t : Int)) = ivs (bkL zs k (t + 1)) := by rw [← bkL_pos HLD.out HZ.out]; simp [ivs, List.map_set]
            rw [hse] at hst
            have HST := Lib.hid hst
            have HB2 := Lib.hid (HB.out.setCell (p := ⟨w.heap.size, v, none⟩) (Nat.le_refl _) (.int .i64 (t : Int)))
            clear hst hu hse hrow hrg
            go_wp2
            go_roundw
            case rel => exact ⟨t + 1, by omega, by go_num, HST.out, HB2.out⟩
            case measure => simp [intOf]; omega
        · obtain rfl : t = k := by omega
          go_wp2
          go_ret
          exact ⟨⟨w.heap.size, 0, none⟩, rfl, hrow, hbel⟩
end Go.Proofs.YthliifgjolgmgaaDoor
