/-
  impl.drawn: the drawing that is told as a graph.
-/
import Derived.Test.YthliifgjolgmgaaDoorGw
namespace Go.Proofs.YthliifgjolgmgaaDoor
set_option maxRecDepth 100000
set_option linter.unusedVariables false
open Go.RowKit Go.Lib

def OkG (k : Int) (zs ys : List Int) : Prop := ∃ n : Nat, k = (n : Int) ∧ 1 ≤ n ∧ n ≤ 40 ∧ InR zs n ∧ InR ys n
def XS (zs ys : List Int) (t : Nat) : List Int := if t = 0 then zs else ys
def preD (zs ys : List Int) (n : Nat) : Nat → List Sk
  | 0 => []
  | 1 => drL 2 zs n
  | _ => drG zs ys n
theorem preD_succ (zs ys : List Int) (n t : Nat) (ht : t < 2) : preD zs ys n t ++ drL (2 + t) (XS zs ys t) n = preD zs ys n (t + 1) := by
  match t, ht with
  | 0, _ => rfl
  | 1, _ => rfl
theorem preD_len (zs ys : List Int) (n t : Nat) (ht : t < 2) : (preD zs ys n t).length ≤ 2 * n := by
  match t, ht with
  | 0, _ => exact Nat.zero_le _
  | 1, _ => exact drL_len _ _ _
theorem two_len (P : List Sk) (f l t : Nat) : (P ++ two f l t).length = P.length + 2 := by rw [List.length_append]; rfl
theorem okg_n {n : Nat} {zs ys : List Int} (h : OkG (n : Int) zs ys) {t : Nat} : InR (XS zs ys t) n := by
  obtain ⟨n', e, _, _, h1, h2⟩ := h
  obtain rfl : n = n' := by omega
  unfold XS; split <;> assumption
set_option maxHeartbeats 4000000 in
theorem drawn_any (k : Int) (a b : Option Addr) (p m c d : Nat) (zs ys : List Int) (w : World) (h : RI w a p zs) (h' : RI w b m ys) (hp : p ≤ 1048576) (hm : m ≤ 1048576) :
    Calls Tryd.prog 63 #[.agg #[.int .i64 k, .slice a p c, .slice b m d]] w fun e w' => Below w.heap.size w w' ∧ ((e = .returned (.tuple #[.slice none 0 0, .bool false]) ∧ ¬ OkG k zs ys) ∨
      ∃ v, e = .returned (.tuple #[v, .bool true]) ∧ OkG k zs ys ∧ w'.ownsRow w.heap.size 85 3 v (drG zs ys k.toNat).length (skC (drG zs ys k.toNat))) := by
  have hB0 : Below w.heap.size w (w.alloc (.cells #[.int .i64 k, .slice a p c, .slice b m d] 26)) := (Below.refl _ w).alloc (Nat.le_refl _) _
  have hA0 : Blk (w.alloc (.cells #[.int .i64 k, .slice a p c, .slice b m d] 26)) w.heap.size 26 #[.int .i64 k, .slice a p c, .slice b m d] := Blk.new w _ _
  have HB0 := Lib.hid hB0
  have HA0 := Lib.hid hA0
  by_cases k1 : k < 1
  · have HNO : Hid (¬ OkG k zs ys) := fun ⟨n, e, h1, _⟩ => by omega
    clear h h' hB0 hA0
    go_enter Tryd.func63, Tryd.ntmps63
    go_wp2
    go_ret2
    exact ⟨HB0.out, .inl ⟨rfl, HNO.out⟩⟩
  · by_cases k2 : 40 < k
    · have HNO : Hid (¬ OkG k zs ys) := fun ⟨n, e, _, h1, _⟩ => by omega
      have k3 : k > 40 := k2
      clear h h' hB0 hA0
      go_enter Tryd.func63, Tryd.ntmps63
      go_wp2
      go_ret2
      exact ⟨HB0.out, .inl ⟨rfl, HNO.out⟩⟩
    · obtain ⟨n, rfl⟩ : ∃ n : Nat, k = (n : Int) := ⟨k.toNat, by omega⟩
      have hn1 : 1 ≤ n := by omega
      have hn2 : n ≤ 40 := by omega
      have k3 : ¬ (n : Int) > 40 := by omega
      have HTN : Hid ((n : Int).toNat = n) := by show _ = _; omega
      have HPL : Hid (zs.length = p ∧ ys.length = m) := ⟨h.len, h'.len⟩
      have HRI : Hid (∀ W : World, Below w.heap.size w W → RI W a p zs ∧ RI W b m ys) := fun W hW => ⟨h.below hW, h'.below hW⟩
      have hA1 := (hA0.alloc (.cells #[.slice none 0 0] 49)).alloc (.cells #[.slice a p c, .slice b m d] 24)
      have hD1 := (Blk.new (w.alloc (.cells #[.int .i64 n, .slice a p c, .slice b m d] 26)) 49 #[.slice none 0 0]).alloc (.cells #[.slice a p c, .slice b m d] 24)
      have hE1 := Blk.new ((w.alloc (.cells #[.int .i64 n, .slice a p c, .slice b m d] 26)).alloc (.cells #[.slice none 0 0] 49)) 24 #[.slice a p c, .slice b m d]
      have hB1 := (hB0.alloc (by simp) (.cells #[.slice none 0 0] 49)).alloc (by simp; omega) (.cells #[.slice a p c, .slice b m d] 24)
      simp only [World.size_alloc] at hD1 hE1
      have HA1 := Lib.hid hA1
      have HD1 := Lib.hid hD1
      have HE1 := Lib.hid hE1
      have HB1 := Lib.hid hB1
      have HO1 : Hid ((((w.alloc (.cells #[.int .i64 n, .slice a p c, .slice b m d] 26)).alloc (.cells #[.slice none 0 0] 49)).alloc (.cells #[.slice a p c, .slice b m d] 24)).ownsRow w.heap.size 85 3 (.slice none 0 0) (preD zs ys n 0).length (skC (preD zs ys n 0))) := World.ownsRow_nil _ _ _ _
      clear h h' hB0 hA0 hA1 hD1 hE1 hB1 k2
      go_enter Tryd.func63, Tryd.ntmps63
      go_wp2
      generalize ((w.alloc (.cells #[.int .i64 n, .slice a p c, .slice b m d] 26)).alloc (.cells #[.slice none 0 0] 49)).alloc (.cells #[.slice a p c, .slice b m d] 24) = w1 at *
      go_loopg [23] 2 (fun g0 q wr => ∃ t : Nat, t + g0 = 2 ∧ q = .int .i64 (t : Int) ∧ ∃ v, Hid (Blk wr w.heap.size 26 #[.int .i64 n, .slice a p c, .slice b m d]) ∧ Hid (Blk wr (w.heap.size + 1) 49 #[v]) ∧ Hid (Blk wr (w.heap.size + 1 + 1) 24 #[.slice a p c, .slice b m d]) ∧ Hid (wr.ownsRow w.heap.size 85 3 v (preD zs ys n t).length (skC (preD zs ys n t))) ∧ Hid (Below w.heap.size w wr) ∧ Hid (∀ s, s < t → InR (XS zs ys s) n))
      case atStart => exact ⟨0, rfl, rfl, _, HA1.out, HD1.out, HE1.out, HO1.out, HB1.out, fun s hs => absurd hs (Nat.not_lt_zero s)⟩
      case round =>
        clear HA1 HD1 HE1 HO1 HB1
        obtain ⟨t, htg, rfl, v, HA, HD, HE, HO, HB, HV⟩ := hrel
        by_cases ht : t < 2
        · have hti : (t : Int) < 2 := by omega
          obtain ⟨A, N, C, hcell, HRX, HXN, hNm⟩ : ∃ (A : Option Addr) (N C : Nat), wr.cell? ⟨w.heap.size + 1 + 1, t, none⟩ = some (.slice A N C) ∧ Hid (∀ W : World, Below w.heap.size w W → RI W A N (XS zs ys t)) ∧ Hid ((XS zs ys t).length = N) ∧ N ≤ 1048576 := by
            match t, ht with
            | 0, _ => exact ⟨a, p, c, HE.out.cell 0, fun W hW => (HRI.out W hW).1, HPL.out.1, hp⟩
            | 1, _ => exact ⟨b, m, d, HE.out.cell 1, fun W hW => (HRI.out W hW).2, HPL.out.2, hm⟩
          have a0 : wr.cell? ⟨w.heap.size, 0, none⟩ = some (.int .i64 (n : Int)) := HA.out.cell 0
          by_cases hN : N = n
          · obtain rfl : N = n := hN
            have hb1 : ((N : Int) != (N : Int)) = false := by simp
            have HPS := Lib.hid (preD_succ zs ys N t ht)
            have HPN := Lib.hid (preD_len zs ys N t ht)
            have HOK : Hid (OkG (N : Int) zs ys → InR (XS zs ys t) N) := fun h => okg_n h
            have HO2 : Hid (wr.ownsRow w.heap.size 85 3 v (preD zs ys N t ++ drL (2 + t) (XS zs ys t) 0).length (skC (preD zs ys N t ++ drL (2 + t) (XS zs ys t) 0))) := by
              have e : preD zs ys N t ++ drL (2 + t) (XS zs ys t) 0 = preD zs ys N t := by unfold drL; simp
              rw [e]; exact HO.out
            have HV2 : Hid (InR (XS zs ys t) N → ∀ s, s < t + 1 → InR (XS zs ys s) N) := fun h s hs => by
              rcases Nat.lt_or_ge s t with h' | h'
              · exact HV.out s h'
              · obtain rfl : s = t := by omega
                exact h
            clear HO HV
            generalize preD zs ys N t = S0 at *
            generalize XS zs ys t = X at *
            go_wp2
            go_loopg [35] N (fun g1 q wy => ∃ j : Nat, j + g1 = N ∧ q = .int .i64 (j : Int) ∧ ∃ v, Hid (Blk wy w.heap.size 26 #[.int .i64 N, .slice a p c, .slice b m d]) ∧ Hid (Blk wy (w.heap.size + 1) 49 #[v]) ∧ Hid (Blk wy (w.heap.size + 1 + 1) 24 #[.slice a p c, .slice b m d]) ∧ Hid (wy.ownsRow w.heap.size 85 3 v (S0 ++ drL (2 + t) X j).length (skC (S0 ++ drL (2 + t) X j))) ∧ Hid (Below w.heap.size w wy) ∧ Hid (∀ i z, i < j → X[i]? = some z → -1 ≤ z ∧ z < (N : Int)))
            case atStart => exact ⟨0, by omega, rfl, v, HA.out, HD.out, HE.out, HO2.out, HB.out, fun i z hi => absurd hi (Nat.not_lt_zero i)⟩
            case round =>
              clear HA HD HE HO2 HB hcell a0
              obtain ⟨j, hjg, rfl, v, HA, HD, HE, HO, HB, HR⟩ := hrel
              have a0 : wr.cell? ⟨w.heap.size, 0, none⟩ = some (.int .i64 (N : Int)) := HA.out.cell 0
              by_cases hj : j < N
              · have hji : (j : Int) < (N : Int) := by omega
                obtain ⟨ad, z, rfl, HZ, hc⟩ : ∃ (ad : Addr) (z : Int), A = some ad ∧ Hid (X[j]? = some z) ∧ wr.cell? (ad.add j) = some (.int .i64 z) := by
                  obtain ⟨ad, e, hab, hc⟩ := (HRX.out wr HB.out).at_ hj
                  exact ⟨ad, _, e, (by show _ = _; rw [List.getElem?_eq_getElem (by rw [HXN.out]; exact hj)]; simp), hc⟩
                by_cases z1 : z < -1
                · have HNO : Hid (¬ OkG (N : Int) zs ys) := fun h => by
                    have := ((HOK.out h).2 z (List.mem_of_getElem? HZ.out)).1
                    omega
                  go_wp2
                  go_ret2
                  exact ⟨HB.out, .inl ⟨rfl, HNO.out⟩⟩
                · by_cases z2 : z ≥ (N : Int)
                  · have HNO : Hid (¬ OkG (N : Int) zs ys) := fun h => by
                      have := ((HOK.out h).2 z (List.mem_of_getElem? HZ.out)).2
                      omega
                    go_wp2
                    go_ret2
                    exact ⟨HB.out, .inl ⟨rfl, HNO.out⟩⟩
                  · have HR2 : Hid (∀ i x, i < j + 1 → X[i]? = some x → -1 ≤ x ∧ x < (N : Int)) := fun i x hi hx => by
                      rcases Nat.lt_or_ge i j with h | h
                      · exact HR.out i x h hx
                      · obtain rfl : i = j := by omega
                        rw [HZ.out] at hx
                        injection hx with hx
                        omega
                    by_cases z3 : z = -1
                    · subst z3
                      have HO3 : Hid (wr.ownsRow w.heap.size 85 3 v (S0 ++ drL (2 + t) X (j + 1)).length (skC (S0 ++ drL (2 + t) X (j + 1)))) := by
                        rw [show drL (2 + t) X (j + 1) = drL (2 + t) X j by rw [drL_succ, drE_none HZ.out (by omega), List.append_nil]]
                        exact HO.out
                      go_wp2
                      go_roundg (N - (j + 1))
                      case measure => omega
                      case rel => exact ⟨j + 1, by omega, by go_num, v, HA, HD, HE, HO3, HB, HR2⟩
                    · obtain ⟨x, rfl⟩ : ∃ x : Nat, z = (x : Int) := ⟨z.toNat, by omega⟩
                      have z4 : ((x : Int) != -1) = true := by rw [bne_iff_ne]; exact z3
                      have HS : Hid (S0 ++ drL (2 + t) X j ++ two j (2 + t) x = S0 ++ drL (2 + t) X (j + 1)) := by show _ = _; rw [drL_succ, drE_some HZ.out, List.append_assoc]; rfl
                      have HDR : Hid (Calls Tryd.prog 54 #[.pointer (some ⟨w.heap.size + 1, 0, none⟩), .int .i64 (j : Int), .int .i64 (2 + (t : Int)), .int .i64 (x : Int)] wr fun e w' => e = .returned (.tuple #[]) ∧ ∃ v, Blk w' (w.heap.size + 1) 49 #[v] ∧ w'.ownsRow w.heap.size 85 3 v (S0 ++ drL (2 + t) X (j + 1)).length (skC (S0 ++ drL (2 + t) X (j + 1))) ∧ Below w.heap.size wr w' ∧ Blk w' w.heap.size 26 #[.int .i64 N, .slice a p c, .slice b m d] ∧ Blk w' (w.heap.size + 1 + 1) 24 #[.slice a p c, .slice b m d]) := by
                        have := draw_any w.heap.size (w.heap.size + 1) v (S0 ++ drL (2 + t) X j) j (2 + t) x wr (by omega) (by rw [List.length_append]; have h1 := drL_len (2 + t) X j; have h2 := HPN.out; omega) HD.out HO.out (by omega)
                        rw [show ((2 + t : Nat) : Int) = 2 + (t : Int) from by omega] at this
                        refine this.mono ?_
                        rintro e w' ⟨rfl, g, c', h1, h2, h3, h4⟩
                        rw [HS.out] at h2
                        have hll : (S0 ++ drL (2 + t) X j).length + 2 = (S0 ++ drL (2 + t) X (j + 1)).length := by rw [← HS.out, two_len]
                        rw [hll] at h1 h2
                        exact ⟨rfl, _, h1, h2, h3, (h4 _ HA.out.lt (by omega) (own_blk_ne HO.out HA.out (by decide))).trans HA.out, (h4 _ HE.out.lt (by omega) (own_blk_ne HO.out HE.out (by decide))).trans HE.out⟩
                      clear HO HR z3
                      go_wp2_with fail
                      refine HDR.out.mono ?_
                      rintro e w2 ⟨rfl, v2, hD2, hO2, hB2, hA2, hE2⟩
                      have HD2 := Lib.hid hD2
                      have HO2 := Lib.hid hO2
                      have HA2 := Lib.hid hA2
                      have HE2 := Lib.hid hE2
                      have HB2 := Lib.hid (HB.out.trans hB2)
                      clear hD2 hO2 hA2 hE2 hB2 HDR
                      go_wp2
                      go_roundg (N - (j + 1))
                      case measure => omega
                      case rel => exact ⟨j + 1, by omega, by go_num, v2, HA2, HD2, HE2, HO2, HB2, HR2⟩
              · obtain rfl : j = N := by omega
                have hji : ¬ (j : Int) < (j : Int) := by omega
                have HX : Hid (InR X j) := ⟨HXN.out, fun z hz => by
                  obtain ⟨i, hi⟩ := List.getElem?_of_mem hz
                  exact HR.out i z (by rw [← HXN.out]; exact (List.getElem?_eq_some_iff.1 hi).1) hi⟩
                rw [HPS.out] at HO
                go_wp2
                go_roundg (2 - (t + 1))
                case measure => omega
                case rel => exact ⟨t + 1, by omega, by go_num, v, HA, HD, HE, HO, HB, HV2.out HX.out⟩
          · have hb1 : ((N : Int) != (n : Int)) = true := by rw [bne_iff_ne]; omega
            have HNO : Hid (¬ OkG (n : Int) zs ys) := fun h => hN (by have := (okg_n (t := t) h).1; rw [HXN.out] at this; exact this)
            clear hN
            go_wp2
            go_ret2
            exact ⟨HB.out, .inl ⟨rfl, HNO.out⟩⟩
        · obtain rfl : t = 2 := by omega
          have hc := HD.out.cell 0
          replace hc : wr.cell? ⟨w.heap.size + 1, 0, none⟩ = some v := hc
          have HOK : Hid (OkG (n : Int) zs ys) := ⟨n, rfl, hn1, hn2, HV.out 0 (by omega), HV.out 1 (by omega)⟩
          have HO2 : Hid (wr.ownsRow w.heap.size 85 3 v (drG zs ys (n : Int).toNat).length (skC (drG zs ys (n : Int).toNat))) := by rw [HTN.out]; exact HO.out
          clear HO HV HTN
          go_wp2
          go_ret2
          exact ⟨HB.out, .inr ⟨v, rfl, HOK.out, HO2.out⟩⟩
end Go.Proofs.YthliifgjolgmgaaDoor
