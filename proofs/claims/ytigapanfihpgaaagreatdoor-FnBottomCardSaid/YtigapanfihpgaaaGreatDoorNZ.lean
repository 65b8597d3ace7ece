/-
  Bot.
-/
import Derived.Test.YtigapanfihpgaaaGreatDoorNW
import Derived.Test.YtigapanfihpgaaaGreatDoorNX
namespace Go.Proofs.YtigapanfihpgaaaGreatDoor
set_option maxRecDepth 100000
set_option linter.unusedVariables false
set_option linter.unusedSimpArgs false
set_option linter.unusedSectionVars false

/-! SemigroupBottom, both sides. -/
section
open Go.RowKit Go.Maps

theorem all_step {zs : List (List Int)} {p : List Int → Bool} {k : Nat} (hk : k < zs.length) : (zs.take (k + 1)).all p = ((zs.take k).all p && p (ent zs k)) := by
  have e : ent zs k = zs[k] := by unfold ent; rw [List.getElem?_eq_getElem hk]; rfl
  rw [List.take_succ_eq_append_getElem hk, List.all_append, e]; simp

set_option maxHeartbeats 4000000 in
theorem specBottom_any (A : Option Addr) (n c : Nat) (zs : List (List Int)) (w : World) (h : RSS w A n zs) (hn : n ≤ 1048576) (hl : ∀ L ∈ zs, L.length ≤ 1048576) :
    Calls Tryz.prog 26 #[.slice A n c] w fun e w' => ∃ v, e = .returned (.tuple #[v, .bool (boB zs)]) ∧ w'.ownsRow w.heap.size 3 1 v (boL zs).length (ivs (boL zs)) ∧ Below w.heap.size w w' := by
  have hsg := specSg_any A n c zs w h hn hl
  cases hS : sgS zs
  · have HI : Hid (boL zs = [] ∧ boB zs = false) := boL_none hS
    rw [hS] at hsg
    clear hS h hl
    go_enter Tryz.func26, Tryz.ntmps26
    go_wp2_with fail
    refine hsg.mono ?_
    rintro e w1 ⟨rfl, hb⟩
    have hL0 : (w1.alloc (.cells #[] 3)).ownsRow w.heap.size 3 1 (.slice (some ⟨w1.heap.size, 0, none⟩) 0 0) 0 [] := World.ownsRow_lit (base := w.heap.size) (e := 3) (size := 1) w1 #[] 0 hb.size (by simp [maxLen]) rfl
    have hB := hb.alloc hb.size (.cells #[] 3)
    go_wp2
    go_ret2
    exact ⟨_, by rw [HI.out.2]; rfl, by rw [HI.out.1]; exact hL0, hB⟩
  · have S := sgS_iff.1 hS
    have HYES : Hid (∀ L ∈ zs, botB zs L = true → boL zs = L ∧ boB zs = true) := fun L hL h => boL_yes hS hL h
    have HCH := Lib.hid S.ch
    have HL := Lib.hid h.len
    have HR := Lib.hid h
    rw [hS] at hsg
    obtain ⟨i0, hi, hz0, hz1, hz2⟩ := info_parts info_int
    clear hS h hl S
    go_enter Tryz.func26, Tryz.ntmps26
    go_wp2_with fail
    refine hsg.mono ?_
    rintro e w2 ⟨rfl, hB2⟩
    have hs2 := hB2.size
    clear hsg
    go_wp2
    go_loopw [4] (fun s wr => ∃ i : Nat, i ≤ n ∧ s = .int .i64 (i : Int) ∧ Hid (∀ j, j < i → botB zs (ent zs j) = false) ∧ Below w.heap.size w wr) (fun s _ => n - (intOf s).toNat)
    case atStart => exact ⟨0, Nat.zero_le _, rfl, Lib.hid (fun j hj => absurd hj (Nat.not_lt_zero _)), hB2⟩
    case round =>
      clear hB2
      obtain ⟨i, hi', rfl, HI, hbel⟩ := hrel
      by_cases hlti : i < n
      · have hil : i < zs.length := by have := HL.out; omega
        go_wp2
        go_loopw [5, 6] (fun r s wq => ∃ k : Nat, k ≤ n ∧ r = .bool ((zs.take k).all (beB (ent zs i))) ∧ s = .int .i64 (k : Int) ∧ Below w.heap.size w wq) (fun _ s _ => n - (intOf s).toNat)
        case atStart => exact ⟨0, Nat.zero_le _, rfl, rfl, hbel⟩
        case round =>
          clear hbel
          obtain ⟨k, hk, rfl, rfl, hbel⟩ := hrel
          by_cases hltk : k < n
          · have hkl : k < zs.length := by have := HL.out; omega
            have HST := Lib.hid (all_step (p := beB (ent zs i)) hkl)
            have hR := HR.out.below hbel
            obtain ⟨ad, Ai, ci, rfl, hab, hci, hri⟩ := hR.at_ hlti
            obtain ⟨ad', Ak, ck, he, hab', hck, hrk⟩ := hR.at_ hltk
            obtain rfl := Option.some.inj he
            have hei : zs[i]?.getD [] = ent zs i := rfl
            have hek : zs[k]?.getD [] = ent zs k := rfl
            have e1 := HCH.out _ (ent_mem hil)
            have e2 := HCH.out _ (ent_mem hkl)
            rw [hei, e1.2] at hci hri
            rw [hek, e2.2] at hck hrk
            have HPP := Lib.hid (isP_of e1.1 e2.1 (e1.2.trans e2.2.symm))
            have HC1 : Hid (∀ j, Calls Tryz.prog 76 #[.slice Ai (ent zs 0).length ci, .slice Ak (ent zs 0).length ck] (wr.drewN j) fun e w' => e = .returned (.bool (beB (ent zs i) (ent zs k))) ∧ ∃ m, w' = wr.drewN m) := fun j => (l1Below_c _ _ _ _ _ _ _ _ (hri.drawn j) (hrk.drawn j) HPP.out).mono fun e w' h => ⟨h.1, by obtain ⟨q, hq⟩ := h.2; exact ⟨j + q, by rw [hq]; exact World.drewN_drewN _ _ _⟩⟩
            clear hei hek e1 e2 he hab hab' hkl hR hri hrk HPP
            generalize (ent zs 0).length = l0 at *
            cases hr0 : (zs.take k).all (beB (ent zs i))
            · have HK1 : Hid ((zs.take (k + 1)).all (beB (ent zs i)) = false) := by show _ = _; rw [HST.out, hr0]; rfl
              clear hr0
              go_wp2
              go_quiet (with_reducible exact HC1.out _)
              all_goals go_wp2
              all_goals go_roundw
              case rel => exact ⟨k + 1, by omega, by rw [HK1.out], by go_num, below_drewN hbel _⟩
              case measure => simp [intOf]; omega
            · have HK1 : Hid ((zs.take (k + 1)).all (beB (ent zs i)) = beB (ent zs i) (ent zs k)) := by show _ = _; rw [HST.out, hr0]; rfl
              clear hr0
              generalize beB (ent zs i) (ent zs k) = r1 at *
              go_wp2
              go_quiet (with_reducible exact HC1.out _)
              all_goals go_wp2
              all_goals go_roundw
              case rel => exact ⟨k + 1, by omega, by rw [HK1.out], by go_num, below_drewN hbel _⟩
              case measure => simp [intOf]; omega
          · obtain rfl : k = n := by omega
            have HE : Hid ((zs.take k).all (beB (ent zs i)) = botB zs (ent zs i)) := by show _ = _; rw [List.take_of_length_le (by have := HL.out; omega)]; rfl
            cases hr0 : (zs.take k).all (beB (ent zs i))
            · have HI2 : Hid (∀ j, j < i + 1 → botB zs (ent zs j) = false) := upto_step HI.out (by rw [← HE.out]; exact hr0)
              clear hr0
              go_wp2
              go_roundw
              case rel => exact ⟨i + 1, by omega, by go_num, HI2, hbel⟩
              case measure => simp [intOf]; omega
            · have HY := Lib.hid (HYES.out _ (ent_mem hil) (by rw [← HE.out]; exact hr0))
              clear hr0
              obtain ⟨ad, Ai, ci, rfl, hab, hc, hri⟩ := (HR.out.below hbel).at_ hlti
              have hent : zs[i]?.getD [] = ent zs i := rfl
              have hLz := (HCH.out _ (ent_mem hil)).1
              rw [hent] at hc hri
              have h6 := isC_len hLz
              obtain ⟨ai, rfl, hai, hcl⟩ := isRI_some hri (by omega)
              have hL0 := own_lit0 wr
              have hc2 := (World.cell?_alloc_lt wr (.cells #[] 3) (ad.add i) (by rw [block_of_add]; exact hab)).trans hc
              have hc1 : ∀ j u, (ivs (ent zs i))[j]? = some u → (wr.alloc (.cells #[] 3)).cell? (ai.add j) = some u := fun j u hu => (World.cell?_alloc_lt _ _ _ (by rw [block_of_add]; exact hai)).trans (hcl j u hu)
              have hone : ∀ u ∈ ivs (ent zs i), u.oneCell' = true := fun u hu => by
                simp only [ivs, List.mem_map] at hu
                obtain ⟨z, _, rfl⟩ := hu
                simp [Value.oneCell']
              have q1 : 0 + (ent zs i).length ≤ maxLen := by unfold maxLen; omega
              have q2 : (0 + (ent zs i).length) * 8 ≤ 140737488355328 := by omega
              have q3 : wr.heap.size ≤ (wr.alloc (.cells #[] 3)).heap.size := by simp
              have hs := hbel.size
              generalize hE : ent zs i = L at *
              clear hri hLz h6 hE hcl hc hab hent
              go_wp2_with (at_builtin
                           refine wpList_append_own _ rfl _ _ 28 rfl wr.heap.size 3 i0 (.int .i64 0) 1 8 Tryz.underlying28 hi hz0 hz1 hz2 rfl (by decide) _ _ _ rfl hL0 ai L.length ci (ivs L) rfl (by simp [ivs]) hc1 hone q1 q2 q3 ?_
                           intro v1 w1 hown1 hgrow1 _)
              have hB1 : Below wr.heap.size wr w1 := ((Below.refl _ wr).alloc (Nat.le_refl _) _).grown hgrow1 q3 (fun k e => (hL0.lt k e).1)
              have hown2 : w1.ownsRow wr.heap.size 3 1 v1 L.length (ivs L) := by simpa [ivs] using hown1
              go_ret2
              exact ⟨_, by rw [HY.out.2]; rfl, by rw [HY.out.1]; exact own_base hown2 hs, hbel.trans (hB1.mono hs)⟩
      · obtain rfl : i = n := by omega
        have HN : Hid (boL zs = [] ∧ boB zs = false) := boL_no (fun L hL => by
          obtain ⟨j, hj, rfl⟩ := mem_ent hL
          exact HI.out j (by have := HL.out; omega))
        have hs := hbel.size
        have hL0 : (wr.alloc (.cells #[] 3)).ownsRow w.heap.size 3 1 (.slice (some ⟨wr.heap.size, 0, none⟩) 0 0) 0 [] := World.ownsRow_lit (base := w.heap.size) (e := 3) (size := 1) wr #[] 0 hs (by simp [maxLen]) rfl
        have hB := hbel.alloc hs (.cells #[] 3)
        go_wp2
        go_ret2
        exact ⟨_, by rw [HN.out.2]; rfl, by rw [HN.out.1]; exact hL0, hB⟩
set_option maxHeartbeats 4000000 in
theorem implBottom_any (A : Option Addr) (n c : Nat) (zs : List (List Int)) (w : World) (h : RSS w A n zs) (hg : EtAt w) :
    Calls Tryz.prog 25 #[.slice A n c] w fun e w' => ∃ v, e = .returned (.tuple #[v, .bool (boB zs)]) ∧ w'.ownsRow w.heap.size 3 1 v (boL zs).length (ivs (boL zs)) ∧ Below w.heap.size w w' := by
  have hsg := told_any A n c zs w h hg
  clear h hg
  have hrgW : ∀ W : World, (Instr.range 42 (.map none)).run Tryz.prog W = _ := fun W => run_range_nilMap (P := Tryz.prog) W 42 53 3 Tryz.underlying42
  have HNX : Hid (∀ (W : World) ty, (Instr.next (.pointer (some ⟨W.heap.size, 0, none⟩)) false ty).run Tryz.prog (W.alloc (.mapIter none 0 #[] 0)) = _) := fun W ty => run_next_nilMap (P := Tryz.prog) W ty 0 0 #[]
  go_enter Tryz.func25, Tryz.ntmps25
  go_wp2_with fail
  refine hsg.mono ?_
  rintro e w1 ⟨v, rfl, hy, hno, hb⟩
  have hs1 := hb.size
  clear hsg
  cases hS : sgS zs
  · obtain rfl := hno hS
    have HI : Hid (boL zs = [] ∧ boB zs = false) := boL_none hS
    have hrg := hrgW w1
    have hnx := HNX.out w1
    clear hy hno hS
    go_wp2
    refine wp_loop_rounds 1 ?_
    rw [rounds_succ]
    go_wp2
    go_ret2
    exact ⟨_, by rw [HI.out.2]; rfl, by rw [HI.out.1]; exact World.ownsRow_nil _ _ _ _, hb.alloc hs1 _⟩
  · obtain ⟨b, rfl, hbl, hown⟩ := hy hS
    have S := sgS_iff.1 hS
    have HSR := Lib.hid S.srt
    have HZ := Lib.hid S.ch
    have HM : Hid (zs.length ≤ 1048576) := by show _ ≤ _; have := S.most; omega
    have HYES : Hid (∀ L ∈ zs, botB zs L = true → boL zs = L ∧ boB zs = true) := fun L hL h => boL_yes hS hL h
    have HNO : Hid ((∀ L ∈ zs, botB zs L = false) → boL zs = [] ∧ boB zs = false) := boL_no
    have HD : Hid (∀ x, Maps.has (mapP (H := Unit) klL zs zs.length) x = true ↔ ∃ L, L ∈ zs ∧ klL L = x) := fun x => mapP_iff x
    have HSZ := Lib.hid (mapP_size (H := Unit) S.ch S.srt zs.length (Nat.le_refl _))
    generalize hn' : (ent zs 0).length = m at *
    clear hy hno hS S hrgW HNX hn'
    go_wp2_with (first | (at_range; refine wpList_range_own _ rfl _ 42 rfl 53 3 ch_keyed Tryz.underlying42 _ b zs.length (mapP klL zs zs.length) rfl hown ?_; intro w0 hrg0 hg0 hs0) | go_in)
    go_frame
    have hB0 : Below w.heap.size w w0 := hb.grown hg0 hs1 (fun k e => by cases e)
    clear hg0 hs0 hown hb
    go_loopw [6] (fun _ wr => ∃ left cnt, wr.ranges Tryz.prog 53 (plainElem Tryz.prog 3) b w1.heap.size zs.length (mapP (H := Unit) klL zs zs.length) left cnt ∧ Hid (∀ x, left x = true → Maps.has (mapP (H := Unit) klL zs zs.length) x = true) ∧ Hid (∀ L, L ∈ zs → left (klL L) = false → botB zs L = false) ∧ Below w.heap.size w wr) (fun _ wr => wr.rangeLeft b w1.heap.size)
    case atStart => exact ⟨_, _, hrg0, Lib.hid (fun x h => h), Lib.hid (fun L hL h => by rw [(HD.out _).2 ⟨L, hL, rfl⟩] at h; cases h), hB0⟩
    case round =>
      clear hrg0 hB0
      obtain ⟨left, cnt, hrg, P1, P2, hB⟩ := hrel
      have hrl := hrg.lt
      go_wp2_with (first | (at_next; refine wpList_next_ranges _ rfl _ rfl 53 ch_keyed (plainElem Tryz.prog 3) mkCh (Value.int .i64) mkCh_inv plain_inv b w1.heap.size zs.length _ _ _ rfl hrg ?_ ?_) | go_in)
      · intro hc0 hl0
        have HF := Lib.hid (HNO.out (fun L hL => P2.out L hL (hl0 _)))
        go_wp2
        go_ret2
        exact ⟨_, by rw [HF.out.2]; rfl, by rw [HF.out.1]; exact World.ownsRow_nil _ _ _ _, hB⟩
      · intro xn xT cc kl yd yp w2 cnt2 hkey hlk hv hat hrg2 hlt hg2 hs2 hen
        obtain ⟨L, hL, hkl, hx⟩ := ch_of_key HZ.out hkey ((HD.out kl).1 (P1.out kl hlk))
        rw [hx] at hen
        rw [hx]
        have hLz := HZ.out L hL
        have hB2 := hB.grown hg2 hB.size (fun j e => by cases e; exact hs1)
        have hs2' := hB2.size
        have P1' : Hid (∀ x, (left x && !x.sameKey kl) = true → Maps.has (mapP (H := Unit) klL zs zs.length) x = true) := fun x h => P1.out x (by rw [Bool.and_eq_true] at h; exact h.1)
        have P2' : Hid (botB zs L = false → ∀ M, M ∈ zs → (left (klL M) && !(klL M).sameKey kl) = false → botB zs M = false) := fun hok M hM h => by
          cases hl : left (klL M)
          · exact P2.out M hM hl
          · rw [hl, Bool.true_and] at h
            have : (klL M).sameKey kl = true := by cases hsk : (klL M).sameKey kl <;> simp_all
            have e := (same_key this).trans hkl.symm
            rw [klL_inj M L (HZ.out M hM).1 hLz.1 e]; exact hok
        have hrg3 := hrg2.alloc (.cells #[.int .i64 ((m : Int)), .int .i64 (ofL L 0), .int .i64 (ofL L 1), .int .i64 (ofL L 2), .int .i64 (ofL L 3), .int .i64 (ofL L 4), .int .i64 (ofL L 5)] 53)
        have hB3 := hB2.alloc hs2' (.cells #[.int .i64 ((m : Int)), .int .i64 (ofL L 0), .int .i64 (ofL L 1), .int .i64 (ofL L 2), .int .i64 (ofL L 3), .int .i64 (ofL L 4), .int .i64 (ofL L 5)] 53)
        have hC3 := Cb.new w2 (m : Int) (ofL L)
        have hab := above_any b m zs.length zs rfl HM.out HZ.out HSR.out L hLz.1 hLz.2 (w2.alloc (.cells #[.int .i64 ((m : Int)), .int .i64 (ofL L 0), .int .i64 (ofL L 1), .int .i64 (ofL L 2), .int .i64 (ofL L 3), .int .i64 (ofL L 4), .int .i64 (ofL L 5)] 53)) hrg3.owns
        have HYL := Lib.hid (HYES.out L hL)
        have HBL : Hid ((zs.filter (beB L)).length = zs.length ↔ botB zs L = true) := bot_len
        have hm6 : m ≤ 6 := by have := (isC_len hLz.1).2; omega
        have HLT : Hid (LT m (ofL L) = L) := by show _ = _; rw [← hLz.2]; exact LT_ofL rfl
        have HLL : Hid (L.length = m) := hLz.2
        clear hs2 hkey hx hv hat hlk hkl P1 P2
        obtain ⟨a0, a1, a2, a3, a4, a5, a6⟩ := hC3.all
        go_wp2_with fail
        refine hab.mono ?_
        rintro e w4 ⟨v, rfl, ho, hb4⟩
        obtain ⟨A', c', rfl⟩ := own_shape ho
        have hgr4 : (w2.alloc (.cells #[.int .i64 ((m : Int)), .int .i64 (ofL L 0), .int .i64 (ofL L 1), .int .i64 (ofL L 2), .int .i64 (ofL L 3), .int .i64 (ofL L 4), .int .i64 (ofL L 5)] 53)).grownBy w4 none := gb_of hb4 none
        have hrg4 := hrg3.kept hgr4 (by simp) (by simp)
        have hC4 := hC3.below hb4 hC3.lt
        have hB4 := hB3.trans (hb4.mono hB3.size)
        have hlen := hrg4.owns.len Tryz.underlying42
        rw [HSZ.out] at hlen
        have hs4 := hB4.size
        clear hab ho hb4 hrg3 hC3 hB3 hB2 a0 a1 a2 a3 a4 a5 a6 hrg2 hgr4
        obtain ⟨a0, a1, a2, a3, a4, a5, a6⟩ := hC4.all
        by_cases hq : (zs.filter (beB L)).length = zs.length
        · have hbe : (((zs.filter (beB L)).length : Int) == (zs.length : Int)) = true := by rw [hq]; simp
          have HY := Lib.hid (HYL.out (HBL.out.1 hq))
          clear hq
          generalize (zs.filter (beB L)).length = q at *
          go_wp2_with fail
          refine (list_any m hm6 (ofL L) w4).mono ?_
          rintro e w5 ⟨B, rfl, hown5, hb5⟩
          rw [HLT.out] at hown5
          have hown6 : w5.ownsRow w4.heap.size 3 1 (.slice (some B) m m) L.length (ivs L) := by rw [HLL.out]; exact hown5
          go_wp2
          go_ret2
          exact ⟨_, by rw [HY.out.2]; rfl, by rw [HY.out.1]; exact own_base hown6 hs4, hB4.trans (hb5.mono hs4)⟩
        · have hbe : (((zs.filter (beB L)).length : Int) == (zs.length : Int)) = false := by rw [beq_eq_false_iff_ne]; intro e; exact hq (by omega)
          have HP2 : Hid (∀ M, M ∈ zs → (left (klL M) && !(klL M).sameKey kl) = false → botB zs M = false) := P2'.out (by
            cases hh : botB zs L
            · rfl
            · exact absurd (HBL.out.2 hh) hq)
          clear hq
          generalize (zs.filter (beB L)).length = q at *
          go_wp2
          go_roundw
          case rel => exact ⟨_, cnt2, hrg4, P1', HP2, hB4⟩
          case measure => rw [hrg4.left_eq, hrg.left_eq]; exact hlt
end

end Go.Proofs.YtigapanfihpgaaaGreatDoor
