/-
  SwI.
-/
import Derived.Test.YtigapanfihpgaaaGreatDoorNW
import Derived.Test.YtigapanfihpgaaaGreatDoorOA
namespace Go.Proofs.YtigapanfihpgaaaGreatDoor
set_option maxRecDepth 100000
set_option linter.unusedVariables false
set_option linter.unusedSimpArgs false
set_option linter.unusedSectionVars false

/-! (impl.semigroup).swaps, impl.SemigroupSwaps. -/
section
open Go.RowKit Go.Maps

theorem eqA_ofL {m : Nat} {L M : List Int} (hL : L.length = m) (hM : M.length = m) (h6 : m ≤ 6) : (ofL L 0 == ofL M 0 && (ofL L 1 == ofL M 1 && (ofL L 2 == ofL M 2 && (ofL L 3 == ofL M 3 && (ofL L 4 == ofL M 4 && ofL L 5 == ofL M 5))))) = decide (L = M) := by
  by_cases e : L = M
  · subst e; simp
  · rw [decide_eq_false e]
    cases hc : (ofL L 0 == ofL M 0 && (ofL L 1 == ofL M 1 && (ofL L 2 == ofL M 2 && (ofL L 3 == ofL M 3 && (ofL L 4 == ofL M 4 && ofL L 5 == ofL M 5)))))
    · rfl
    · exfalso
      simp only [Bool.and_eq_true, beq_iff_eq] at hc
      obtain ⟨h0, h1, h2, h3, h4, h5⟩ := hc
      exact e (list_of_six (hL.trans hM.symm) (by omega) (fun j hj => by
        match j, hj with
        | 0, _ => exact h0
        | 1, _ => exact h1
        | 2, _ => exact h2
        | 3, _ => exact h3
        | 4, _ => exact h4
        | 5, _ => exact h5
        | j + 6, h => omega))

set_option maxHeartbeats 8000000 in
theorem swaps_any {H : Type} (b m n : Nat) (zs : List (List Int)) (hn : zs.length = n) (hn6 : n ≤ 1048576) (hz : ∀ L ∈ zs, isC L = true ∧ L.length = m) (hs : Srt zs) (w : World)
    (hown : w.ownsMap Tryz.prog 53 (plainElem (H := H) Tryz.prog 3) b n (mapP klL zs n)) :
    Calls Tryz.prog 91 #[.map (some b)] w fun e w' => e = .returned (.bool (swB zs)) ∧ Below w.heap.size w w' := by
  have hid := idems_any b m n zs hn hn6 hz hs w hown
  have HN := Lib.hid hn
  have HZ := Lib.hid hz
  have hbl := hown.lt
  have HOW := Lib.hid hown
  have HU : Hid (swB zs = (zs.filter idB).all (swE zs)) := rfl
  have hfl : (zs.filter idB).length ≤ n := by rw [← hn]; exact List.length_filter_le _ _
  have HF1 : Hid (∀ L ∈ zs.filter idB, L ∈ zs) := fun L hL => (List.mem_filter.1 hL).1
  have HD : Hid (∀ x, Maps.has (mapP (H := H) klL zs n) x = true ↔ ∃ L, L ∈ zs ∧ klL L = x) := fun x => by subst hn; exact mapP_iff x
  clear hz hs hn hown
  go_enter Tryz.func91, Tryz.ntmps91
  go_wp2_with fail
  refine hid.mono ?_
  rintro e w1 ⟨v1, rfl, hrow, hb1⟩
  generalize zs.filter idB = ls at *
  obtain ⟨A1, c1, rfl⟩ := own_shape hrow
  have HROW := Lib.hid hrow
  clear hid hrow
  go_wp2
  go_loopw [4, 9] (fun _ s wr => ∃ i : Nat, i ≤ ls.length ∧ s = .int .i64 (i : Int) ∧ Hid (∀ j, j < i → swE zs (ent ls j) = true) ∧ Below w.heap.size w wr ∧ Below w1.heap.size w1 wr) (fun _ s _ => ls.length - (intOf s).toNat)
  case atStart => exact ⟨0, Nat.zero_le _, rfl, Lib.hid (fun j hj => absurd hj (Nat.not_lt_zero _)), hb1, Below.refl _ _⟩
  case round =>
    obtain ⟨i, hi, rfl, HI, hB, hB1⟩ := hrel
    by_cases hlti : i < ls.length
    · obtain ⟨L, hL⟩ : ∃ L, ls[i]? = some L := ⟨_, List.getElem?_eq_getElem hlti⟩
      have hE : ent ls i = L := by unfold ent; rw [hL]; rfl
      have hr1 := own_below HROW.out hB1
      obtain ⟨g1, cp1, hv, _, hg1⟩ := hr1.form (by omega)
      injection hv with hv1 _ hv3
      subst hv1
      have hC1 : Chs wr g1 m ls := Chs.of_own hr1
      obtain ⟨c0, c1', c2, c3, c4, c5, c6⟩ := hC1.all hL
      have hLz := HF1.out L (List.mem_of_getElem? hL)
      have hLL := HZ.out L hLz
      have hB2 := hB.alloc hB.size (.cells #[.int .i64 ((m : Int)), .int .i64 (ofL L 0), .int .i64 (ofL L 1), .int .i64 (ofL L 2), .int .i64 (ofL L 3), .int .i64 (ofL L 4), .int .i64 (ofL L 5)] 53)
      have hB12 := hB1.alloc hB1.size (.cells #[.int .i64 ((m : Int)), .int .i64 (ofL L 0), .int .i64 (ofL L 1), .int .i64 (ofL L 2), .int .i64 (ofL L 3), .int .i64 (ofL L 4), .int .i64 (ofL L 5)] 53)
      have hCe := Cb.new wr (m : Int) (ofL L)
      have hown2 := ownsMap_same HOW.out (hB2.block b hbl)
      have HE := Lib.hid hE
      have HMEM := Lib.hid (List.mem_of_getElem? hL)
      have HUE : Hid (swE zs L = zs.all (fun c => decide (tiL L c = tiL c L))) := rfl
      clear hL hE hr1 hC1 hLz hv3 hB hB1
      go_wp2_with (first | (at_range; refine wpList_range_own _ rfl _ 42 rfl 53 3 ch_keyed Tryz.underlying42 _ b n (mapP klL zs n) rfl hown2 ?_; intro w3 hrg0 hg0 hs0) | go_in)
      try go_frame
      have hs2 := hB2.size
      have hs12 := hB12.size
      have hB3 := hB2.grown hg0 hs2 (fun k e => by cases e)
      have hB13 := hB12.grown hg0 hs12 (fun k e => by cases e)
      have hCe3 : Cb w3 wr.heap.size (m : Int) (ofL L) := World.rowIs.of_block hCe (hg0.block _ hCe.lt (by simp))
      rw [World.size_alloc] at hrg0
      have hsE : w.heap.size ≤ wr.heap.size + 1 := by simpa using hs2
      have hsE1 : w1.heap.size ≤ wr.heap.size + 1 := by simpa using hs12
      clear hg0 hs0 hown2 hB2 hB12 hCe c0 c1' c2 c3 c4 c5 c6 hs2 hs12
      generalize wr.heap.size = E at *
      go_loopw [5] (fun _ wq => ∃ left cnt, wq.ranges Tryz.prog 53 (plainElem Tryz.prog 3) b (E + 1) n (mapP klL zs n) left cnt ∧ Cb wq E (m : Int) (ofL L) ∧ Hid (∀ x, left x = true → Maps.has (mapP (H := H) klL zs n) x = true) ∧ Hid (∀ M, M ∈ zs → left (klL M) = false → tiL L M = tiL M L) ∧ Below w.heap.size w wq ∧ Below w1.heap.size w1 wq) (fun _ wq => wq.rangeLeft b (E + 1))
      case atStart => exact ⟨_, _, hrg0, hCe3, Lib.hid (fun x h => h), Lib.hid (fun M hM h => by rw [(HD.out _).2 ⟨M, hM, rfl⟩] at h; cases h), hB3, hB13⟩
      case round =>
        clear hrg0 hCe3 hB3 hB13
        obtain ⟨left, cnt, hrg, hCe, P1, P2, hB, hB1⟩ := hrel
        have hrl := hrg.lt
        have hlt' := hCe.lt
        go_wp2_with (first | (at_next; refine wpList_next_ranges _ rfl _ rfl 53 ch_keyed (plainElem Tryz.prog 3) mkCh (Value.int .i64) mkCh_inv plain_inv b _ n _ _ _ rfl hrg ?_ ?_) | go_in)
        · intro hc0 hl0
          have HUL : Hid (swE zs L = true) := by
            show _ = _
            rw [HUE.out]
            exact List.all_eq_true.2 fun M hM => decide_eq_true (P2.out M hM (hl0 _))
          have HI2 : Hid (∀ j, j < i + 1 → swE zs (ent ls j) = true) := upto_step HI.out (by rw [HE.out]; exact HUL.out)
          go_wp2
          go_roundw
          case rel => exact ⟨i + 1, by omega, by go_num, HI2, hB, hB1⟩
          case measure => simp [intOf]; omega
        · intro xn xT cc kl yd yp w4 cnt2 hkey hlk hv hat hrg2 hlt hg2 hs2x hen
          obtain ⟨M, hM, hkl, hx⟩ := ch_of_key HZ.out hkey ((HD.out kl).1 (P1.out kl hlk))
          rw [hx] at hen
          rw [hx]
          have hMz := HZ.out M hM
          have hB4 := hB.grown hg2 hB.size (fun j e => by cases e; exact hsE)
          have hB14 := hB1.grown hg2 hB1.size (fun j e => by cases e; exact hsE1)
          have hCe4 : Cb w4 E (m : Int) (ofL L) := World.rowIs.of_block hCe (hg2.block _ hCe.lt (by simp))
          have P1' : Hid (∀ x, (left x && !x.sameKey kl) = true → Maps.has (mapP (H := H) klL zs n) x = true) := fun x h => P1.out x (by rw [Bool.and_eq_true] at h; exact h.1)
          have P2' : Hid (tiL L M = tiL M L → ∀ N, N ∈ zs → (left (klL N) && !(klL N).sameKey kl) = false → tiL L N = tiL N L) := fun hok N hN h => by
            cases hl : left (klL N)
            · exact P2.out N hN hl
            · rw [hl, Bool.true_and] at h
              have : (klL N).sameKey kl = true := by cases hsk : (klL N).sameKey kl <;> simp_all
              have e := (same_key this).trans hkl.symm
              rw [klL_inj N M (HZ.out N hN).1 hMz.1 e]; exact hok
          have hrg5 := hrg2.alloc (.cells #[.int .i64 ((m : Int)), .int .i64 (ofL M 0), .int .i64 (ofL M 1), .int .i64 (ofL M 2), .int .i64 (ofL M 3), .int .i64 (ofL M 4), .int .i64 (ofL M 5)] 53)
          have hB5 := hB4.alloc hB4.size (.cells #[.int .i64 ((m : Int)), .int .i64 (ofL M 0), .int .i64 (ofL M 1), .int .i64 (ofL M 2), .int .i64 (ofL M 3), .int .i64 (ofL M 4), .int .i64 (ofL M 5)] 53)
          have hB15 := hB14.alloc hB14.size (.cells #[.int .i64 ((m : Int)), .int .i64 (ofL M 0), .int .i64 (ofL M 1), .int .i64 (ofL M 2), .int .i64 (ofL M 3), .int .i64 (ofL M 4), .int .i64 (ofL M 5)] 53)
          have hCe5 := hCe4.alloc (.cells #[.int .i64 ((m : Int)), .int .i64 (ofL M 0), .int .i64 (ofL M 1), .int .i64 (ofL M 2), .int .i64 (ofL M 3), .int .i64 (ofL M 4), .int .i64 (ofL M 5)] 53)
          have hCc5 := Cb.new w4 (m : Int) (ofL M)
          have hPP := isP_of hLL.1 hMz.1 (hLL.2.trans hMz.2.symm)
          have hPQ := isP_of hMz.1 hLL.1 (hMz.2.trans hLL.2.symm)
          have HEA := Lib.hid (eqA_ofL ((tiL_len hPP).trans hLL.2) ((tiL_len hPQ).trans hMz.2) (by have := (isC_len hLL.1).2; omega))
          have HMM := Lib.hid hM
          have hMs := hMz
          clear hs2x hkey hx hv hat hlk hkl P1 P2 hrg2 hB4 hB14 hCe4 hB hB1 hCe hPP hPQ hM
          go_wp2_with fail
          generalize hW : w4.alloc (.cells #[.int .i64 ((m : Int)), .int .i64 (ofL M 0), .int .i64 (ofL M 1), .int .i64 (ofL M 2), .int .i64 (ofL M 3), .int .i64 (ofL M 4), .int .i64 (ofL M 5)] 53) = W0 at *
          have hS := Below.refl W0.heap.size W0
          clear hen hW
          cases hd : decide (tiL L M = tiL M L)
          · have hae : ∀ W : World, (Op.equalIn 9999 51 (.agg #[.int .i64 (ofL (tiL L M) 0), .int .i64 (ofL (tiL L M) 1), .int .i64 (ofL (tiL L M) 2), .int .i64 (ofL (tiL L M) 3), .int .i64 (ofL (tiL L M) 4), .int .i64 (ofL (tiL L M) 5)]) (.agg #[.int .i64 (ofL (tiL M L) 0), .int .i64 (ofL (tiL M L) 1), .int .i64 (ofL (tiL M L) 2), .int .i64 (ofL (tiL M L) 3), .int .i64 (ofL (tiL M L) 4), .int .i64 (ofL (tiL M L) 5)])).run Tryz.prog W = .ok false W := fun W => (arr_eq _ _ _ _ _ _ _ _ _ _ _ _ W).trans (congrArg (fun b => Result.ok b W) (HEA.out.trans hd))
            have HNO : Hid (swB zs = false) := by
              show _ = _
              rw [HU.out]
              exact all_no HMEM.out (by rw [HUE.out]; exact all_no HMM.out hd)
            clear hd
            have tok1 : True := trivial
            have tok2 : True := trivial
            go_region_held3 (fun w' => w'.cell? ⟨E, 0, none⟩ = some (.int .i64 m) ∧ w'.cell? ⟨E, 1, none⟩ = some (.int .i64 (ofL L 0)) ∧ w'.cell? ⟨E, 2, none⟩ = some (.int .i64 (ofL L 1)) ∧ w'.cell? ⟨E, 3, none⟩ = some (.int .i64 (ofL L 2)) ∧ w'.cell? ⟨E, 4, none⟩ = some (.int .i64 (ofL L 3)) ∧ w'.cell? ⟨E, 5, none⟩ = some (.int .i64 (ofL L 4)) ∧ w'.cell? ⟨E, 6, none⟩ = some (.int .i64 (ofL L 5)) ∧
                w'.cell? ⟨w4.heap.size, 0, none⟩ = some (.int .i64 m) ∧ w'.cell? ⟨w4.heap.size, 1, none⟩ = some (.int .i64 (ofL M 0)) ∧ w'.cell? ⟨w4.heap.size, 2, none⟩ = some (.int .i64 (ofL M 1)) ∧ w'.cell? ⟨w4.heap.size, 3, none⟩ = some (.int .i64 (ofL M 2)) ∧ w'.cell? ⟨w4.heap.size, 4, none⟩ = some (.int .i64 (ofL M 3)) ∧ w'.cell? ⟨w4.heap.size, 5, none⟩ = some (.int .i64 (ofL M 4)) ∧ w'.cell? ⟨w4.heap.size, 6, none⟩ = some (.int .i64 (ofL M 5)))
              (first | exact s14 (by assumption) (by assumption) | go_keep)
              (first
                | (go_at_call 57
                   have _t := tok1
                   refine (times_c m L M hLL.1 hMs.1 hLL.2 hMs.2 _).mono ?_
                   rintro e w1x ⟨rfl, hbx⟩
                   have hCe5 := cb_keep hbx hCe5 rfl
                   have hCc5 := cb_keep hbx hCc5 rfl
                   have hS := bel_keep hbx hS rfl rfl rfl rfl hS.size
                   clear tok1 _t hbx)
                | (go_at_call 57
                   have _t := tok2
                   refine (times_c m M L hMs.1 hLL.1 hMs.2 hLL.2 _).mono ?_
                   rintro e w1x ⟨rfl, hbx⟩
                   have hCe5 := cb_keep hbx hCe5 rfl
                   have hCc5 := cb_keep hbx hCc5 rfl
                   have hS := bel_keep hbx hS rfl rfl rfl rfl hS.size
                   clear tok2 _t hbx))
            all_goals
              go_wp2
              go_ret
              exact ⟨by rw [HNO.out]; rfl, hB5.trans (hS.mono hB5.size)⟩
          · have hae : ∀ W : World, (Op.equalIn 9999 51 (.agg #[.int .i64 (ofL (tiL L M) 0), .int .i64 (ofL (tiL L M) 1), .int .i64 (ofL (tiL L M) 2), .int .i64 (ofL (tiL L M) 3), .int .i64 (ofL (tiL L M) 4), .int .i64 (ofL (tiL L M) 5)]) (.agg #[.int .i64 (ofL (tiL M L) 0), .int .i64 (ofL (tiL M L) 1), .int .i64 (ofL (tiL M L) 2), .int .i64 (ofL (tiL M L) 3), .int .i64 (ofL (tiL M L) 4), .int .i64 (ofL (tiL M L) 5)])).run Tryz.prog W = .ok true W := fun W => (arr_eq _ _ _ _ _ _ _ _ _ _ _ _ W).trans (congrArg (fun b => Result.ok b W) (HEA.out.trans hd))
            have HP2 : Hid (∀ N, N ∈ zs → (left (klL N) && !(klL N).sameKey kl) = false → tiL L N = tiL N L) := P2'.out (of_decide_eq_true hd)
            clear hd
            have tok1 : True := trivial
            have tok2 : True := trivial
            go_region_held3 (fun w' => w'.cell? ⟨E, 0, none⟩ = some (.int .i64 m) ∧ w'.cell? ⟨E, 1, none⟩ = some (.int .i64 (ofL L 0)) ∧ w'.cell? ⟨E, 2, none⟩ = some (.int .i64 (ofL L 1)) ∧ w'.cell? ⟨E, 3, none⟩ = some (.int .i64 (ofL L 2)) ∧ w'.cell? ⟨E, 4, none⟩ = some (.int .i64 (ofL L 3)) ∧ w'.cell? ⟨E, 5, none⟩ = some (.int .i64 (ofL L 4)) ∧ w'.cell? ⟨E, 6, none⟩ = some (.int .i64 (ofL L 5)) ∧
                w'.cell? ⟨w4.heap.size, 0, none⟩ = some (.int .i64 m) ∧ w'.cell? ⟨w4.heap.size, 1, none⟩ = some (.int .i64 (ofL M 0)) ∧ w'.cell? ⟨w4.heap.size, 2, none⟩ = some (.int .i64 (ofL M 1)) ∧ w'.cell? ⟨w4.heap.size, 3, none⟩ = some (.int .i64 (ofL M 2)) ∧ w'.cell? ⟨w4.heap.size, 4, none⟩ = some (.int .i64 (ofL M 3)) ∧ w'.cell? ⟨w4.heap.size, 5, none⟩ = some (.int .i64 (ofL M 4)) ∧ w'.cell? ⟨w4.heap.size, 6, none⟩ = some (.int .i64 (ofL M 5)))
              (first | exact s14 (by assumption) (by assumption) | go_keep)
              (first
                | (go_at_call 57
                   have _t := tok1
                   refine (times_c m L M hLL.1 hMs.1 hLL.2 hMs.2 _).mono ?_
                   rintro e w1x ⟨rfl, hbx⟩
                   have hCe5 := cb_keep hbx hCe5 rfl
                   have hCc5 := cb_keep hbx hCc5 rfl
                   have hS := bel_keep hbx hS rfl rfl rfl rfl hS.size
                   clear tok1 _t hbx)
                | (go_at_call 57
                   have _t := tok2
                   refine (times_c m M L hMs.1 hLL.1 hMs.2 hLL.2 _).mono ?_
                   rintro e w1x ⟨rfl, hbx⟩
                   have hCe5 := cb_keep hbx hCe5 rfl
                   have hCc5 := cb_keep hbx hCc5 rfl
                   have hS := bel_keep hbx hS rfl rfl rfl rfl hS.size
                   clear tok2 _t hbx))
            all_goals
              have hrg6 := hrg5.kept (gb_of hS none) (by simp) (by simp)
              go_wp2
              go_roundw
              case rel => exact ⟨_, cnt2, hrg6, hCe5, P1', HP2, hB5.trans (hS.mono hB5.size), hB15.trans (hS.mono hB15.size)⟩
              case measure => rw [hrg6.left_eq, hrg.left_eq]; exact hlt
    · have HT : Hid (swB zs = true) := by
        show _ = _
        rw [HU.out]
        refine List.all_eq_true.2 fun M hM => ?_
        obtain ⟨j, hj, rfl⟩ := mem_ent hM
        exact HI.out j (by omega)
      obtain rfl : i = ls.length := by omega
      go_wp2
      go_ret
      exact ⟨by rw [HT.out]; rfl, hB⟩
set_option maxHeartbeats 1000000 in
theorem implSwaps_any (A : Option Addr) (n c : Nat) (zs : List (List Int)) (w : World) (h : RSS w A n zs) (hg : EtAt w) :
    Calls Tryz.prog 45 #[.slice A n c] w fun e w' => e = .returned (.bool (sgW zs)) ∧ Below w.heap.size w w' := by
  have hsg := told_any A n c zs w h hg
  clear h hg
  go_enter Tryz.func45, Tryz.ntmps45
  go_wp2_with fail
  refine hsg.mono ?_
  rintro e w1 ⟨v, rfl, hy, hno, hb⟩
  cases hS : sgS zs
  · obtain rfl := hno hS
    have HS : Hid (sgW zs = false) := by show _ = _; unfold sgW; rw [hS]; rfl
    clear hy hno hsg
    go_wp2
    go_ret
    exact ⟨by rw [HS.out]; rfl, hb⟩
  · obtain ⟨b, rfl, hbl, hown⟩ := hy hS
    have S := sgS_iff.1 hS
    have hu := swaps_any b (ent zs 0).length zs.length zs rfl (by have := S.most; omega) S.ch S.srt w1 hown
    have HS : Hid (sgW zs = swB zs) := by show _ = _; unfold sgW; rw [hS]; rfl
    clear hy hno hsg S hS
    go_wp2_with fail
    refine hu.mono ?_
    rintro e w2 ⟨rfl, hb2⟩
    go_wp2
    go_ret
    exact ⟨by rw [HS.out]; rfl, hb.trans (hb2.mono hb.size)⟩
end

end Go.Proofs.YtigapanfihpgaaaGreatDoor
