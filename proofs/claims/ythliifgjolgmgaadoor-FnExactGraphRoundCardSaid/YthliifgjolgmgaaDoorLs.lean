/-
  spec.l5List: a list that leads from nodes to nodes, from no two to one.
-/
import Derived.Test.YthliifgjolgmgaaDoorGt
namespace Go.Proofs.YthliifgjolgmgaaDoor
set_option maxRecDepth 100000
open Go.RowKit Go.Lib

/-- a list leads from nodes to nodes, from no two to one -/
def Leads (zs : List Int) (n : Nat) : Prop := zs.length = n ∧ (∀ z ∈ zs, -1 ≤ z ∧ z < (n : Int)) ∧ ∀ (i j : Nat) (z : Int), zs[i]? = some z → zs[j]? = some z → 0 ≤ z → i = j
def PreL (zs : List Int) (n k : Nat) : Prop :=
  (∀ (i : Nat) (z : Int), i < k → zs[i]? = some z → -1 ≤ z ∧ z < (n : Int)) ∧ ∀ (i j : Nat) (z : Int), i < k → j < k → zs[i]? = some z → zs[j]? = some z → 0 ≤ z → i = j
def SeenOk (bs : List Bool) (zs : List Int) (n k : Nat) : Prop := bs.length = n ∧ ∀ v : Nat, bs[v]? = some true ↔ v < n ∧ ∃ i, i < k ∧ zs[i]? = some (v : Int)
theorem pre_zero (zs : List Int) (n : Nat) : PreL zs n 0 := ⟨fun i _ h => absurd h (Nat.not_lt_zero i), fun i _ _ h => absurd h (Nat.not_lt_zero i)⟩
theorem seen_zero (zs : List Int) (n : Nat) : SeenOk (List.replicate n false) zs n 0 :=
  ⟨List.length_replicate, fun v => ⟨(fun h => by
    rw [List.getElem?_replicate] at h
    split at h <;> cases h), fun ⟨_, i, hi, _⟩ => absurd hi (Nat.not_lt_zero i)⟩⟩
theorem leads_range {zs : List Int} {n k : Nat} {z : Int} (hz : zs[k]? = some z) (h : ¬ (-1 ≤ z ∧ z < (n : Int))) : ¬ Leads zs n := fun hl => h (hl.2.1 z (List.mem_of_getElem? hz))
theorem leads_dup {zs : List Int} {n k v : Nat} {bs : List Bool} (hs : SeenOk bs zs n k) (hz : zs[k]? = some (v : Int)) (hb : bs[v]? = some true) : ¬ Leads zs n := fun hl => by
  obtain ⟨_, i, hi, he⟩ := (hs.2 v).1 hb
  have := hl.2.2 i k v he hz (by omega)
  omega
theorem pre_neg {zs : List Int} {n k : Nat} {z : Int} (hp : PreL zs n k) (hz : zs[k]? = some z) (h1 : -1 ≤ z) (h2 : z < 0) : PreL zs n (k + 1) := by
  refine ⟨fun i y hi hy => ?_, fun i j y hi hj hy hy' h0 => ?_⟩
  · rcases Nat.lt_or_ge i k with h | h
    · exact hp.1 i y h hy
    · obtain rfl : i = k := by omega
      rw [hz] at hy; injection hy with hy; omega
  · rcases Nat.lt_or_ge i k with h | h
    · rcases Nat.lt_or_ge j k with h' | h'
      · exact hp.2 i j y h h' hy hy' h0
      · obtain rfl : j = k := by omega
        rw [hz] at hy'; injection hy' with hy'; omega
    · obtain rfl : i = k := by omega
      rw [hz] at hy; injection hy with hy; omega
theorem seen_neg {zs : List Int} {n k : Nat} {z : Int} {bs : List Bool} (hs : SeenOk bs zs n k) (hz : zs[k]? = some z) (h2 : z < 0) : SeenOk bs zs n (k + 1) :=
  ⟨hs.1, fun v => (hs.2 v).trans ⟨fun ⟨h, i, hi, he⟩ => ⟨h, i, by omega, he⟩, fun ⟨h, i, hi, he⟩ => ⟨h, i, by
    rcases Nat.lt_or_ge i k with h' | h'
    · exact h'
    · obtain rfl : i = k := by omega
      rw [hz] at he; injection he with he; omega, he⟩⟩⟩
theorem pre_pos {zs : List Int} {n k v : Nat} {bs : List Bool} (hp : PreL zs n k) (hs : SeenOk bs zs n k) (hz : zs[k]? = some (v : Int)) (hv : v < n) (hb : bs[v]? ≠ some true) : PreL zs n (k + 1) := by
  have hno : ∀ i, i < k → zs[i]? ≠ some (v : Int) := fun i hi he => hb ((hs.2 v).2 ⟨hv, i, hi, he⟩)
  refine ⟨fun i y hi hy => ?_, fun i j y hi hj hy hy' h0 => ?_⟩
  · rcases Nat.lt_or_ge i k with h | h
    · exact hp.1 i y h hy
    · obtain rfl : i = k := by omega
      rw [hz] at hy; injection hy with hy; omega
  · rcases Nat.lt_or_ge i k with h | h
    · rcases Nat.lt_or_ge j k with h' | h'
      · exact hp.2 i j y h h' hy hy' h0
      · obtain rfl : j = k := by omega
        rw [hz] at hy'; injection hy' with hy'
        exact absurd (hy' ▸ hy) (hno i h)
    · obtain rfl : i = k := by omega
      rcases Nat.lt_or_ge j i with h' | h'
      · rw [hz] at hy; injection hy with hy
        exact absurd (hy ▸ hy') (hno j h')
      · omega
theorem seen_pos {zs : List Int} {n k v : Nat} {bs : List Bool} (hs : SeenOk bs zs n k) (hz : zs[k]? = some (v : Int)) (hv : v < n) : SeenOk (bs.set v true) zs n (k + 1) := by
  refine ⟨by rw [List.length_set]; exact hs.1, fun u => ?_⟩
  have hl := hs.1
  by_cases hu : u = v
  · subst hu
    rw [List.getElem?_set_self (by omega)]
    exact ⟨fun _ => ⟨hv, k, by omega, hz⟩, fun _ => rfl⟩
  · rw [List.getElem?_set_ne (fun e => hu e.symm)]
    exact (hs.2 u).trans ⟨fun ⟨h, i, hi, he⟩ => ⟨h, i, by omega, he⟩, fun ⟨h, i, hi, he⟩ => ⟨h, i, by
      rcases Nat.lt_or_ge i k with h' | h'
      · exact h'
      · obtain rfl : i = k := by omega
        rw [hz] at he; injection he with he; omega, he⟩⟩
theorem leads_end {zs : List Int} {n : Nat} (hp : PreL zs n zs.length) : Leads zs n ↔ zs.length = n :=
  ⟨fun h => h.1, fun h => ⟨h, fun z hz => by
    obtain ⟨i, hi, e⟩ := List.getElem_of_mem hz
    exact hp.1 i z hi (by rw [List.getElem?_eq_getElem hi, e]), fun i j z hi hj h0 => hp.2 i j z (List.getElem?_eq_some_iff.1 hi).1 (List.getElem?_eq_some_iff.1 hj).1 hi hj h0⟩⟩
def bvs (bs : List Bool) : List Value := bs.map Value.bool
theorem bvs_get (bs : List Bool) (k : Nat) : (bvs bs)[k]? = (bs[k]?).map Value.bool := by simp [bvs]
theorem bvs_set (bs : List Bool) (k : Nat) (b : Bool) : (bvs bs).set k (.bool b) = bvs (bs.set k b) := by simp [bvs, List.map_set]
theorem info_bool5 : (Tryd.prog.info? 4).map (fun i => (i.zero, i.size, i.bytes)) = some (some (.bool false), 1, 1) := by kernel_rfl
theorem l6In5_any (n lo hi : Int) (w : World) : Calls Tryd.prog 59 #[.int .i64 n, .int .i64 lo, .int .i64 hi] w fun e w' => e = .returned (.bool (decide (lo ≤ n ∧ n ≤ hi))) ∧ w' = w := by
  by_cases h1 : lo ≤ n
  · by_cases h2 : n ≤ hi
    · rw [decide_eq_true (And.intro h1 h2)]
      go_enter Tryd.func59, Tryd.ntmps59
      go_wp2
      go_ret
      exact ⟨rfl, rfl⟩
    · rw [decide_eq_false (fun h => h2 h.2)]
      go_enter Tryd.func59, Tryd.ntmps59
      go_wp2
      go_ret
      exact ⟨rfl, rfl⟩
  · rw [decide_eq_false (fun h => h1 h.1)]
    go_enter Tryd.func59, Tryd.ntmps59
    go_wp2
    go_ret
    exact ⟨rfl, rfl⟩
set_option maxHeartbeats 2000000 in
theorem l5List_any (A : Option Addr) (m c n : Nat) (zs : List Int) (w : World) (h : RI w A m zs) (hm : m ≤ 1048576) (hn : n ≤ 1600) :
    Calls Tryd.prog 60 #[.slice A m c, .int .i64 (n : Int)] w fun e w' => ∃ b : Bool, e = .returned (.bool b) ∧ (b = true ↔ Leads zs n) ∧ Below w.heap.size w w' := by
  obtain ⟨i0, hi, hz0, hz1, hz2⟩ := info_parts info_bool5
  have hb8 : i0.bytes * n ≤ 281474976710656 := by rw [hz2]; omega
  have hmx : n ≤ maxLen := by unfold maxLen; omega
  have HL := Lib.hid h.len
  have HIN := Lib.hid (fun (z : Int) (W : World) => l6In5_any z (-1) ((n : Int) - 1) W)
  go_enter Tryd.func60, Tryd.ntmps60
  go_wp2_with (at_make; refine wpList_make_full _ rfl _ _ _ rfl w.heap.size 4 i0 _ 1 Tryd.underlying101 hi hz0 hz1 _ _ _ _ n rfl rfl rfl rfl hb8 hmx (Nat.le_refl _) ?_; intro w1 hown hg)
  have hB1 : Below w.heap.size w w1 := (Below.refl _ _).grown hg (Nat.le_refl _) (fun k e => by cases e)
  have hr0 : w1.ownsRow w.heap.size 4 1 (.slice (some ⟨w.heap.size, 0, none⟩) n n) n (bvs (List.replicate n false)) := by
    have e : (madeCells (Value.bool false).cells (n * 1)).toList = bvs (List.replicate n false) := by
      show (madeCells #[Value.bool false] (n * 1)).toList = _
      rw [toList_madeCells_one]; simp [bvs]
    rw [← e]; exact hown
  clear hown hg hi hz0 hz1 hz2 hb8
  go_loopw [6] (fun i wr => ∃ (k : Nat) (bs : List Bool), k ≤ m ∧ i = .int .i64 k ∧ Hid (PreL zs n k) ∧ Hid (SeenOk bs zs n k) ∧ wr.ownsRow w.heap.size 4 1 (.slice (some ⟨w.heap.size, 0, none⟩) n n) n (bvs bs) ∧ Below w.heap.size w wr) (fun i _ => m - (intOf i).toNat)
  case atStart => exact ⟨0, _, Nat.zero_le _, rfl, pre_zero _ _, seen_zero _ _, hr0, hB1⟩
  case round =>
    obtain ⟨k, bs, hk, rfl, HP, HS, hrow, hbel⟩ := hrel
    clear hr0 hB1
    by_cases hlt : k < m
    · obtain ⟨ad, z, rfl, hab, hz, hc⟩ : ∃ (ad : Addr) (z : Int), A = some ad ∧ ad.block < w.heap.size ∧ zs[k]? = some z ∧ w.cell? (ad.add k) = some (.int .i64 z) := by
        obtain ⟨ad, e, hab, hc⟩ := h.at_ hlt
        exact ⟨ad, _, e, hab, by rw [List.getElem?_eq_getElem (by have := HL.out; omega)]; simp, hc⟩
      have hc' := (hbel.cell (p := ad.add k) (by rw [block_of_add]; exact hab)).trans hc
      have HZ := Lib.hid hz
      have HB := Lib.hid hbel
      have HROW := Lib.hid hrow
      clear hc h hz hbel
      by_cases hr : -1 ≤ z ∧ z ≤ (n : Int) - 1
      · have hd : decide (-1 ≤ z ∧ z ≤ (n : Int) - 1) = true := decide_eq_true hr
        have HC := Lib.hid (HIN.out z)
        rw [hd] at HC
        obtain ⟨hr1, hr2⟩ := hr
        clear hd
        by_cases hneg : z < 0
        · have hge : ¬ (0 : Int) ≤ z := by omega
          have HP2 := Lib.hid (pre_neg HP.out HZ.out hr1 hneg)
          have HS2 := Lib.hid (seen_neg HS.out HZ.out hneg)
          go_wp2_with fail
          refine (HC.out wr).mono ?_
          rintro e w2 ⟨rfl, rfl⟩
          go_wp2
          go_roundw
          case rel => exact ⟨k + 1, bs, by omega, by go_num, HP2, HS2, HROW.out, HB.out⟩
          case measure => simp [intOf]; omega
        · obtain ⟨v, rfl⟩ : ∃ v : Nat, z = (v : Int) := ⟨z.toNat, by omega⟩
          have hv : v < n := by omega
          have hvi : (v : Int) < (n : Int) := by omega
          have hge : (0 : Int) ≤ (v : Int) := by omega
          obtain ⟨b, hb⟩ : ∃ b, bs[v]? = some b := ⟨_, List.getElem?_eq_getElem (by have := HS.out.1; omega)⟩
          have hcb := hrow.cellAt v (by omega)
          rw [bvs_get, hb] at hcb
          replace hcb : wr.cell? ⟨w.heap.size, v, none⟩ = some (.bool b) := hcb
          have hf := hrow.frozenAt v
          have hst := (hrow.stored v (.bool true)).1
          rw [bvs_set] at hst
          have HST := Lib.hid hst
          have HB2 := Lib.hid (HB.out.setCell (p := ⟨w.heap.size, v, none⟩) (Nat.le_refl _) (.bool true))
          have HBS := Lib.hid hb
          clear hst hb hrow
          cases b with
          | true =>
            have HNO := Lib.hid (leads_dup HS.out HZ.out HBS.out)
            go_wp2_with fail
            refine (HC.out wr).mono ?_
            rintro e w2 ⟨rfl, rfl⟩
            go_wp2
            go_ret
            exact ⟨false, rfl, ⟨(fun h => by cases h), fun h => absurd h HNO.out⟩, HB.out⟩
          | false =>
            have HP2 := Lib.hid (pre_pos HP.out HS.out HZ.out hv (by rw [HBS.out]; simp))
            have HS2 := Lib.hid (seen_pos HS.out HZ.out hv)
            go_wp2_with fail
            refine (HC.out wr).mono ?_
            rintro e w2 ⟨rfl, rfl⟩
            go_wp2
            go_roundw
            case rel => exact ⟨k + 1, bs.set v true, by omega, by go_num, HP2, HS2, HST.out, HB2.out⟩
            case measure => simp [intOf]; omega
      · have hd : decide (-1 ≤ z ∧ z ≤ (n : Int) - 1) = false := decide_eq_false hr
        have HC := Lib.hid (HIN.out z)
        rw [hd] at HC
        have HNO := Lib.hid (leads_range (n := n) HZ.out (fun h => hr ⟨h.1, by omega⟩))
        clear hr hd hrow
        go_wp2_with fail
        refine (HC.out wr).mono ?_
        rintro e w2 ⟨rfl, rfl⟩
        go_wp2
        go_ret
        exact ⟨false, rfl, ⟨(fun h => by cases h), fun h => absurd h HNO.out⟩, HB.out⟩
    · obtain rfl : k = m := by omega
      have HE : Hid (Leads zs n ↔ k = n) := by
        have hp := HP.out
        rw [← HL.out] at hp ⊢
        exact leads_end hp
      have HB := Lib.hid hbel
      clear hbel hrow HIN
      by_cases hkn : k = n
      · have hki : ((k : Int) == (n : Int)) = true := by rw [beq_iff_eq]; omega
        have HT := Lib.hid (HE.out.2 hkn)
        go_wp2
        go_ret
        exact ⟨true, rfl, ⟨fun _ => HT.out, fun _ => rfl⟩, HB.out⟩
      · have hki : ((k : Int) == (n : Int)) = false := by rw [beq_eq_false_iff_ne]; omega
        have HT := Lib.hid (fun h => hkn (HE.out.1 h))
        go_wp2
        go_ret
        exact ⟨false, rfl, ⟨(fun h => by cases h), fun h => absurd h HT.out⟩, HB.out⟩
end Go.Proofs.YthliifgjolgmgaaDoor
