/-
  spec.GraphIn: a graph as told.
-/
import Derived.Test.YthliifgjolgmgaaDoorLq
namespace Go.Proofs.YthliifgjolgmgaaDoor
set_option maxRecDepth 100000
open Go.RowKit Go.Lib

/-- a graph as told: its lists lead from no two nodes to one, and its nodes are numbered in the order in which they are met -/
def GT (k : Int) (zs ys : List Int) : Prop := ∃ n : Nat, k = (n : Int) ∧ 1 ≤ n ∧ n ≤ 40 ∧ Leads zs n ∧ Leads ys n ∧ ndI (ordQ (nxG zs ys n) n) = (List.range n).map (fun (i : Nat) => (i : Int))
theorem gt_n {n : Nat} {zs ys : List Int} (h : GT (n : Int) zs ys) : Leads zs n ∧ Leads ys n ∧ ndI (ordQ (nxG zs ys n) n) = (List.range n).map (fun (i : Nat) => (i : Int)) := by
  obtain ⟨n', e, _, _, h1, h2, h3⟩ := h
  obtain rfl : n = n' := by omega
  exact ⟨h1, h2, h3⟩
theorem up_get {L : List Int} {N : Nat} (hl : L.length = N) (h : ∀ j, j < N → L[j]? = some (j : Int)) : L = (List.range N).map (fun (i : Nat) => (i : Int)) := by
  apply List.ext_getElem?
  intro j
  rcases Nat.lt_or_ge j N with h' | h'
  · rw [h j h', List.getElem?_map, List.getElem?_range h']; rfl
  · rw [List.getElem?_eq_none (by omega), List.getElem?_eq_none (by simp; exact h')]
set_option maxHeartbeats 4000000 in
theorem specGraphIn_any (k : Int) (a b : Option Addr) (p m c d : Nat) (zs ys : List Int) (w : World) (h : RI w a p zs) (h' : RI w b m ys) (hp : p ≤ 1048576) (hm : m ≤ 1048576) :
    Calls Tryd.prog 37 #[.agg #[.int .i64 k, .slice a p c, .slice b m d]] w fun e w' => ∃ r : Bool, e = .returned (.bool r) ∧ (r = true ↔ GT k zs ys) ∧ Below w.heap.size w w' := by
  have hB0 : Below w.heap.size w (w.alloc (.cells #[.int .i64 k, .slice a p c, .slice b m d] 26)) := (Below.refl _ w).alloc (Nat.le_refl _) _
  have hA0 : Blk (w.alloc (.cells #[.int .i64 k, .slice a p c, .slice b m d] 26)) w.heap.size 26 #[.int .i64 k, .slice a p c, .slice b m d] := Blk.new w _ _
  have HIN := Lib.hid (fun W : World => l6In5_any k 1 40 W)
  by_cases hk : 1 ≤ k ∧ k ≤ 40
  · rw [decide_eq_true hk] at HIN
    obtain ⟨n, rfl⟩ : ∃ n : Nat, k = (n : Int) := ⟨k.toNat, by omega⟩
    have hn1 : 1 ≤ n := by omega
    have hn2 : n ≤ 40 := by omega
    have HL1 := Lib.hid (l5List_any a p c n zs _ (h.below hB0) hp (by omega))
    have HRI : Hid (∀ W : World, Below w.heap.size w W → RI W a p zs ∧ RI W b m ys) := fun W hW => ⟨h.below hW, h'.below hW⟩
    have HPL : Hid (zs.length = p ∧ ys.length = m) := ⟨h.len, h'.len⟩
    have HB0 := Lib.hid hB0
    have HA0 := Lib.hid hA0
    clear h h' hB0 hA0 hk
    go_enter Tryd.func37, Tryd.ntmps37
    go_wp2_with fail
    refine (HIN.out _).mono ?_
    rintro e w0 ⟨rfl, rfl⟩
    go_wp2_with fail
    refine HL1.out.mono ?_
    rintro e w1 ⟨r1, rfl, hr1, hb⟩
    have HA1 := Lib.hid (HA0.out.below hb HA0.out.lt)
    have HB1 := Lib.hid (HB0.out.trans (hb.mono HB0.out.size))
    have HR1 := Lib.hid hr1
    clear hb hr1 HL1 HA0 HB0 HIN
    cases r1 with
    | false =>
      have HNO : Hid (¬ GT (n : Int) zs ys) := fun hg => Bool.noConfusion (HR1.out.2 (gt_n hg).1)
      go_wp2
      go_ret
      exact ⟨false, rfl, ⟨(fun h => by cases h), fun h => absurd h HNO.out⟩, HB1.out⟩
    | true =>
      have HZ := Lib.hid (HR1.out.1 rfl)
      clear HR1
      have k0 : w1.cell? ⟨w.heap.size, 0, none⟩ = some (.int .i64 (n : Int)) := HA1.out.cell 0
      have k2 : w1.cell? ⟨w.heap.size, 2, none⟩ = some (.slice b m d) := HA1.out.cell 2
      have HL2 := Lib.hid (l5List_any b m d n ys w1 (HRI.out _ HB1.out).2 hm (by omega))
      go_wp2_with fail
      refine HL2.out.mono ?_
      rintro e w2 ⟨r2, rfl, hr2, hb⟩
      have HA2 := Lib.hid (HA1.out.below hb HA1.out.lt)
      have HB2 := Lib.hid (HB1.out.trans (hb.mono HB1.out.size))
      have HR2 := Lib.hid hr2
      clear hb hr2 HL2 HA1 HB1 k0 k2
      cases r2 with
      | false =>
        have HNO : Hid (¬ GT (n : Int) zs ys) := fun hg => Bool.noConfusion (HR2.out.2 (gt_n hg).2.1)
        go_wp2
        go_ret
        exact ⟨false, rfl, ⟨(fun h => by cases h), fun h => absurd h HNO.out⟩, HB2.out⟩
      | true =>
        have HY := Lib.hid (HR2.out.1 rfl)
        obtain rfl : p = n := by rw [← HPL.out.1]; exact HZ.out.1
        obtain rfl : m = p := by rw [← HPL.out.2]; exact HY.out.1
        have HO := Lib.hid (l5Order_any a b m c d zs ys w2 (HRI.out _ HB2.out).1 (HRI.out _ HB2.out).2 HZ.out HY.out (by omega) (by omega))
        have k0 : w2.cell? ⟨w.heap.size, 0, none⟩ = some (.int .i64 (m : Int)) := HA2.out.cell 0
        have k1 : w2.cell? ⟨w.heap.size, 1, none⟩ = some (.slice a m c) := HA2.out.cell 1
        have k2 : w2.cell? ⟨w.heap.size, 2, none⟩ = some (.slice b m d) := HA2.out.cell 2
        have HGT : Hid (GT (m : Int) zs ys ↔ ndI (ordQ (nxG zs ys m) m) = (List.range m).map (fun (i : Nat) => (i : Int))) := ⟨fun hg => (gt_n hg).2.2, fun hg => ⟨m, rfl, hn1, hn2, HZ.out, HY.out, hg⟩⟩
        have HQN := Lib.hid ((bfsQ_ok (n := m) (nx := nxG zs ys m) (by omega) (nxG_lt HZ.out HY.out) m).len)
        clear HR2
        change Hid ((ordQ (nxG zs ys m) m).length ≤ m) at HQN
        generalize ordQ (nxG zs ys m) m = Q at *
        go_wp2_with fail
        refine HO.out.mono ?_
        rintro e w3 ⟨g1, c1, g2, c2, g3, c3, rfl, ho, _, _, hb⟩
        have HA3 := Lib.hid (HA2.out.below hb HA2.out.lt)
        have HB3 := Lib.hid (HB2.out.trans (hb.mono HB2.out.size))
        have hqm := HQN.out
        obtain ⟨q, HQL⟩ : ∃ q, Hid (Q.length = q) := ⟨_, rfl⟩
        rw [HQL.out] at ho hqm ⊢
        have HO3 := Lib.hid ho
        have n0 : w3.cell? ⟨w.heap.size, 0, none⟩ = some (.int .i64 (m : Int)) := HA3.out.cell 0
        clear hb ho HO HA2 HB2 k0 k1 k2 HRI HPL HZ HY
        go_wp2
        go_loopw [6] (fun i wr => ∃ t : Nat, t ≤ q ∧ i = .int .i64 (t : Int) ∧ Hid (∀ j, j < t → (ndI Q)[j]? = some (j : Int)) ∧ wr = w3) (fun i _ => q - (intOf i).toNat)
        case atStart => exact ⟨0, Nat.zero_le _, rfl, (fun j hj => absurd hj (Nat.not_lt_zero j)), rfl⟩
        case round =>
          obtain ⟨t, ht, rfl, HU, rfl⟩ := hrel
          by_cases hlt : t < q
          · obtain ⟨tp, htp⟩ : ∃ tp, Q[t]? = some tp := ⟨_, List.getElem?_eq_getElem (by rw [HQL.out]; exact hlt)⟩
            have hnd : (ndI Q)[t]? = some (tp.1 : Int) := by unfold ndI; rw [List.getElem?_map, htp]; rfl
            have hc := HO3.out.cellAt t (by omega)
            rw [ivs_get, hnd] at hc
            replace hc : wr.cell? ⟨g1, t, none⟩ = some (.int .i64 (tp.1 : Int)) := hc
            have HND := Lib.hid hnd
            have hti : (t : Int) < (q : Int) := by omega
            clear htp hnd
            generalize tp.1 = v at *
            by_cases hv : v = t
            · subst hv
              have hbn : ((v : Int) != (v : Int)) = false := by simp
              have HU2 : Hid (∀ j, j < v + 1 → (ndI Q)[j]? = some (j : Int)) := fun j hj => by
                rcases Nat.lt_or_ge j v with h | h
                · exact HU.out j h
                · obtain rfl : j = v := by omega
                  exact HND.out
              go_wp2
              go_roundw
              case rel => exact ⟨v + 1, by omega, by go_num, HU2, by first | rfl | trivial⟩
              case measure => simp [intOf]; omega
            · have hbn : ((v : Int) != (t : Int)) = true := by rw [bne_iff_ne]; omega
              have HNO : Hid (¬ GT (m : Int) zs ys) := fun hg => hv (by
                have h1 := HGT.out.1 hg
                have h2 := HND.out
                rw [h1, List.getElem?_map, List.getElem?_range (by omega)] at h2
                have h2 : some (t : Int) = some (v : Int) := h2
                injection h2 with h2; omega)
              clear hv
              go_wp2
              go_ret
              exact ⟨false, rfl, ⟨(fun h => by cases h), fun h => absurd h HNO.out⟩, HB3.out⟩
          · obtain rfl : t = q := by omega
            by_cases htm : t = m
            · subst htm
              have htt : ((t : Int) == (t : Int)) = true := by simp
              have HYES : Hid (GT (t : Int) zs ys) := HGT.out.2 (up_get (by rw [ndI_len]; exact HQL.out) HU.out)
              have hti : ¬ (t : Int) < (t : Int) := by omega
              go_wp2
              go_ret
              first
                | exact .inr ⟨rfl, HYES.out, HB3.out⟩
                | exact ⟨true, rfl, ⟨fun _ => HYES.out, fun _ => rfl⟩, HB3.out⟩
            · have htt : ((t : Int) == (m : Int)) = false := by rw [beq_eq_false_iff_ne]; omega
              have HNO : Hid (¬ GT (m : Int) zs ys) := fun hg => htm (by
                have h1 := congrArg List.length (HGT.out.1 hg)
                rw [ndI_len, HQL.out] at h1
                simpa using h1)
              clear htm
              have hti : ¬ (t : Int) < (t : Int) := by omega
              go_wp2
              go_ret
              first
                | exact .inl ⟨rfl, HNO.out, HB3.out⟩
                | exact ⟨false, rfl, ⟨(fun h => by cases h), fun h => absurd h HNO.out⟩, HB3.out⟩
  · rw [decide_eq_false hk] at HIN
    have HNO : Hid (¬ GT k zs ys) := fun ⟨n, e, h1, h2, _⟩ => hk (by omega)
    have HB0 := Lib.hid hB0
    clear h h' hB0 hA0 hk
    go_enter Tryd.func37, Tryd.ntmps37
    go_wp2_with fail
    refine (HIN.out _).mono ?_
    rintro e w0 ⟨rfl, rfl⟩
    go_wp2
    go_ret
    exact ⟨false, rfl, ⟨(fun h => by cases h), fun h => absurd h HNO.out⟩, HB0.out⟩
end Go.Proofs.YthliifgjolgmgaaDoor
