/-
  As7.
-/
import Derived.Test.YtoomeimloaloaaaGreatDoorPM
namespace Go.Proofs.YtoomeimloaloaaaGreatDoor
set_option maxRecDepth 100000
set_option linter.unusedVariables false
set_option linter.unusedSimpArgs false
set_option linter.unusedSectionVars false

/-! (impl.arrows).places, GermPlaces of the program and of the spec. -/
section
open Go.RowKit Go.Maps

def plB (zs : List (List Int)) (p q : Nat) : Bool := zs.any (fun L => decide (ofL L p = (q : Int)))
theorem plc_ent {L : List Int} (h : isC L = true) {p : Nat} (hp : p < L.length) : ofL L p = -1 ∨ ∃ q : Nat, q < L.length ∧ ofL L p = (q : Int) := by
  have := isC_ent h p hp
  unfold ofL
  rcases Decidable.em (L[p]?.getD 0 = -1) with e | e
  · exact Or.inl e
  · exact Or.inr ⟨(L[p]?.getD 0).toNat, by omega, by omega⟩
theorem plcI_is {zs : List (List Int)} {p : Nat} (h : atOK zs (p : Int) = true) : upB (plB zs p) (m0 zs) = plcI zs (p : Int) := by
  obtain ⟨hS, _, hp⟩ := atOK_iff.1 h
  have S := sgS_iff.1 hS
  have hp' : p < m0 zs := by omega
  have hL0 : ∀ L ∈ zs, isC L = true ∧ L.length = m0 zs := S.ch
  unfold plcI
  refine (nums_is (upB_asc _ _) (fun x => ?_)).symm
  rw [upB_mem, List.mem_map]
  constructor
  · rintro ⟨v, _, hv, rfl⟩
    obtain ⟨L, hL, e⟩ := List.any_eq_true.1 hv
    have e := of_decide_eq_true e
    have hl := hL0 L hL
    refine ⟨L, ?_, e⟩
    unfold atLs
    rw [h, if_pos rfl]
    refine List.mem_filter.2 ⟨hL, ?_⟩
    unfold mvB
    rw [doN_bit hl.1, Bool.and_eq_true, decide_eq_true_eq, decide_eq_true_eq]
    refine ⟨by rw [hl.2]; exact hp', ?_⟩
    show ofL L p ≠ -1
    rw [e]; omega
  · rintro ⟨L, hL, rfl⟩
    obtain ⟨_, _, _, hLz, hm⟩ := atLs_mem hL
    have hl := hL0 L hLz
    unfold mvB at hm
    rw [doN_bit hl.1, Bool.and_eq_true, decide_eq_true_eq, decide_eq_true_eq] at hm
    rcases plc_ent hl.1 (show p < L.length by rw [hl.2]; exact hp') with e | ⟨q, hq, e⟩
    · exact absurd e hm.2
    · exact ⟨q, by rw [← hl.2]; exact hq, List.any_eq_true.2 ⟨L, hLz, decide_eq_true e⟩, e⟩
theorem plcI_none {zs : List (List Int)} {p : Int} (h : atOK zs p = false) : plcI zs p = [] := by unfold plcI; rw [atLs_no h]; exact nums_nil
theorem any_step {zs : List (List Int)} {p : List Int → Bool} {k : Nat} (hk : k < zs.length) : (zs.take (k + 1)).any p = ((zs.take k).any p || p (ent zs k)) := by
  have e : ent zs k = zs[k] := by unfold ent; rw [List.getElem?_eq_getElem hk]; rfl
  rw [List.take_succ_eq_append_getElem hk, List.any_append, e]; simp
theorem places1_in (m x p : Nat) (hp6 : p < 6) (L : List Int) (W : World) (hx : W.cell? ⟨x, 0, none⟩ = some (.int .i64 (p : Int))) (hxl : x < W.heap.size) :
    Calls Tryz.prog 93 #[.agg #[.int .i64 ((m : Int)), .int .i64 (ofL L 0), .int .i64 (ofL L 1), .int .i64 (ofL L 2), .int .i64 (ofL L 3), .int .i64 (ofL L 4), .int .i64 (ofL L 5), .int .i64 ((doN L : Nat)), .int .i64 ((raN L : Nat))], .pointer (some ⟨x, 0, none⟩)] W fun e W' => e = .returned (.int .i64 (ofL L p)) ∧ Below W.heap.size W W' := by
  have hB : Below W.heap.size W (W.alloc (.cells #[.int .i64 ((m : Int)), .int .i64 (ofL L 0), .int .i64 (ofL L 1), .int .i64 (ofL L 2), .int .i64 (ofL L 3), .int .i64 (ofL L 4), .int .i64 (ofL L 5), .int .i64 ((doN L : Nat)), .int .i64 ((raN L : Nat))] 65)) := (Below.refl _ _).alloc (Nat.le_refl _) _
  have hx1 : (W.alloc (.cells #[.int .i64 ((m : Int)), .int .i64 (ofL L 0), .int .i64 (ofL L 1), .int .i64 (ofL L 2), .int .i64 (ofL L 3), .int .i64 (ofL L 4), .int .i64 (ofL L 5), .int .i64 ((doN L : Nat)), .int .i64 ((raN L : Nat))] 65)).cell? ⟨x, 0, none⟩ = some (.int .i64 (p : Int)) := (hB.cell hxl).trans hx
  have hc : (W.alloc (.cells #[.int .i64 ((m : Int)), .int .i64 (ofL L 0), .int .i64 (ofL L 1), .int .i64 (ofL L 2), .int .i64 (ofL L 3), .int .i64 (ofL L 4), .int .i64 (ofL L 5), .int .i64 ((doN L : Nat)), .int .i64 ((raN L : Nat))] 65)).cell? ⟨W.heap.size, 1 + p, none⟩ = some (.int .i64 (ofL L p)) := by
    have hb := (Blk.new W 65 #[.int .i64 ((m : Int)), .int .i64 (ofL L 0), .int .i64 (ofL L 1), .int .i64 (ofL L 2), .int .i64 (ofL L 3), .int .i64 (ofL L 4), .int .i64 (ofL L 5), .int .i64 ((doN L : Nat)), .int .i64 ((raN L : Nat))]).cell (1 + p)
    rw [hb]
    rcases (show p = 0 ∨ p = 1 ∨ p = 2 ∨ p = 3 ∨ p = 4 ∨ p = 5 by omega) with rfl | rfl | rfl | rfl | rfl | rfl <;> rfl
  have hpi : (p : Int) < 6 := by omega
  clear hx
  go_enter Tryz.func93, Tryz.ntmps93
  go_wp2
  go_ret
  exact ⟨rfl, hB⟩
set_option maxHeartbeats 400000 in
theorem places_any (m lo : Nat) (p : Int) (v : Value) (Ls : List (List Int)) (hp6 : ∀ L ∈ Ls, 0 ≤ p ∧ p < 6) (hq : Ls.length ≤ 1048576) (w : World) (hown : w.ownsRow lo 65 9 v Ls.length (awc m Ls)) :
    Calls Tryz.prog 58 #[v, .int .i64 p] w fun e w' => ∃ v', e = .returned v' ∧ NewL w (nums (Ls.map (fun L => ofL L p.toNat))) v' w' := by
  have eg : ∀ args w, (callFunc 93 args).run Tryz.prog w = .ok (.enter 93 args) w := enters_of Tryz.func93 (by kernel_rfl) rfl
  have hB0 : Below w.heap.size w (w.alloc (.cells #[.int .i64 p] 3)) := (Below.refl _ w).alloc (Nat.le_refl _) _
  have hX := Blk.new w 3 #[.int .i64 p]
  have hP := numbers_any m 93 lo #[] #[.pointer (some ⟨w.heap.size, 0, none⟩)] v Ls hq (fun L => ofL L p.toNat) (w.alloc (.cells #[.int .i64 p] 3)) eg
    (fun L hL W hW => places1_in m w.heap.size p.toNat (by have := hp6 L hL; omega) L W ((congrArg (fun z => W.cell? ⟨w.heap.size, 0, none⟩ = some (.int .i64 z)) (show ((p.toNat : Nat) : Int) = p by have := hp6 L hL; omega)).mpr ((hX.below hW hX.lt).cell 0)) (hX.below hW hX.lt).lt) (hown.alloc _)
  obtain ⟨A, cp, rfl⟩ := own_shape hown
  have hs0 := hB0.size
  clear hown hX
  generalize nums (Ls.map (fun L => ofL L p.toNat)) = ns at *
  go_enter Tryz.func58, Tryz.ntmps58
  go_wp2_with fail
  refine hP.mono ?_
  rintro e w1 ⟨v', rfl, ho, hb⟩
  have hB := hB0.trans (hb.mono hs0)
  have hR := own_base ho hs0
  clear ho hb hP
  go_wp2
  go_ret
  exact ⟨_, rfl, hR, hB⟩
set_option maxHeartbeats 400000 in
theorem implPlc_any (A : Option Addr) (n c : Nat) (zs : List (List Int)) (p : Int) (w : World) (h : RSS w A n zs) (hg : EtAt w) :
    Calls Tryz.prog 33 #[.slice A n c, .int .i64 p] w fun e w' => ∃ v, e = .returned (.tuple #[v, .bool (atOK zs p)]) ∧ NewL w (plcI zs p) v w' := by
  have hF := arrowsAt_any A n c zs p w h hg
  have hq : (atLs zs p).length ≤ 1048576 := by have := atLs_len zs p; omega
  have h6 : ∀ L ∈ atLs zs p, 0 ≤ p ∧ p < 6 := fun L hL => by
    obtain ⟨hS, h0, hm, hz, _⟩ := atLs_mem hL
    have h1 := (sgS_iff.1 hS).ch L hz
    have h2 := (isC_len h1.1).2
    have h3 : L.length = m0 zs := h1.2
    omega
  clear h hg
  go_enter Tryz.func33, Tryz.ntmps33
  go_wp2_with fail
  refine hF.mono ?_
  rintro e w1 ⟨v, rfl, hown, hb⟩
  have hO := places_any (m0 zs) _ p v (atLs zs p) h6 hq w1 hown
  replace hO : Calls Tryz.prog 58 #[v, .int .i64 p] w1 fun e w' => ∃ v', e = .returned v' ∧ NewL w1 (plcI zs p) v' w' := hO
  obtain ⟨A1, c1, rfl⟩ := own_shape hown
  have hs := hb.size
  clear hown hF h6 hq
  go_wp2_with fail
  refine hO.mono ?_
  rintro e w2 ⟨v', rfl, ho, hb2⟩
  have hB := hb.trans (hb2.mono hs)
  clear hb hb2 hO
  go_wp2
  go_ret2
  exact ⟨_, rfl, own_base ho hs, hB⟩
set_option maxHeartbeats 2000000 in
theorem specPlc_any (A : Option Addr) (n c : Nat) (zs : List (List Int)) (p : Int) (w : World) (h : RSS w A n zs) (hn : n ≤ 1048576) (hl : ∀ L ∈ zs, L.length ≤ 1048576) :
    Calls Tryz.prog 32 #[.slice A n c, .int .i64 p] w fun e w' => ∃ v, e = .returned (.tuple #[v, .bool (atOK zs p)]) ∧ NewL w (plcI zs p) v w' := by
  have hB0 := ((Below.refl _ w).alloc (Nat.le_refl _) (.cells #[] 3))
  obtain ⟨i0, hi, hz0, hz1, hz2⟩ := info_parts info_int
  have hsg := specSg_any A n c zs _ (h.below hB0) hn hl
  have hO0 := own_base (own_lit0 w) (Nat.le_refl w.heap.size)
  have hs0 := hB0.size
  cases hS : sgS zs
  · have HK : Hid (atOK zs p = false) := atOK_no1 hS
    have HO := Lib.hid (plcI_none HK.out)
    rw [hS] at hsg
    clear hS h hl
    go_enter Tryz.func32, Tryz.ntmps32
    go_wp2_with fail
    generalize w.alloc (.cells #[] 3) = w0 at *
    refine hsg.mono ?_
    rintro e w2 ⟨rfl, hb⟩
    have hB := hB0.trans (hb.mono hs0)
    have hR := own_below hO0 hb
    clear hO0 hsg hb
    go_wp2
    go_ret2
    exact ⟨_, (by rw [HK.out]; rfl), by rw [HO.out]; exact ⟨hR, hB⟩⟩
  · have HX := Lib.hid (sgS_iff.1 hS)
    have hzo := HX.out.one
    have HK : Hid (atOK zs p = (decide (0 ≤ p) && decide (p < (m0 zs : Int)))) := by show _ = _; unfold atOK; rw [hS]; rfl
    have hm6 : m0 zs ≤ 6 := by have := HX.out.ch _ (ent_mem (show 0 < zs.length by omega)); have := (isC_len this.1).2; exact this
    have hn1 : 0 < n := by have := h.len; omega
    have HI : Hid (inB p 0 ((m0 zs : Int) - 1) = atOK zs p) := by
      show _ = _
      rw [HK.out]
      unfold inB
      by_cases h0 : 0 ≤ p <;> by_cases h1 : p < (m0 zs : Int) <;> simp [h0, h1] <;> omega
    have HW : Hid (∀ w', Below w.heap.size w w' → ∃ (ad : Addr) (A0 : Option Addr) (c0 : Nat), A = some ad ∧ w'.cell? ad = some (.slice A0 (m0 zs) c0)) := fun w' hb => by
      obtain ⟨ad, A0, c0, e, _, hc, _⟩ := (h.below hb).at_ hn1
      rw [add_zero_] at hc
      exact ⟨ad, A0, c0, e, hc⟩
    have HH := Lib.hid h
    have HL := Lib.hid h.len
    rw [hS] at hsg
    clear hS h hl
    go_enter Tryz.func32, Tryz.ntmps32
    go_wp2_with fail
    generalize w.alloc (.cells #[] 3) = w0 at *
    refine hsg.mono ?_
    rintro e w2 ⟨rfl, hb⟩
    have hB := hB0.trans (hb.mono hs0)
    have hR := own_below hO0 hb
    obtain ⟨ad, A0, c0, rfl, hc⟩ := HW.out w2 hB
    have hI := l6In_any p 0 ((m0 zs : Int) - 1) w2
    rw [HI.out] at hI
    clear hO0 hsg hb
    cases hok : atOK zs p
    · have HK0 := Lib.hid hok
      have HO := Lib.hid (plcI_none hok)
      rw [hok] at hI
      clear hok
      go_wp2_with fail
      refine hI.mono ?_
      rintro e w3 ⟨rfl, rfl⟩
      clear hI
      go_wp2
      go_ret2
      exact ⟨_, (by rw [HK0.out]; rfl), by rw [HO.out]; exact ⟨hR, hB⟩⟩
    · have HK1 := Lib.hid hok
      rw [hok] at hI
      obtain ⟨q0, rfl⟩ : ∃ q : Nat, p = (q : Int) := ⟨p.toNat, by have := (atOK_iff.1 hok).2.1; omega⟩
      have hpm : (q0 : Int) < (m0 zs : Int) := (atOK_iff.1 hok).2.2
      have HP := Lib.hid (plcI_is hok)
      clear hok
      go_wp2_with fail
      refine hI.mono ?_
      rintro e w3 ⟨rfl, rfl⟩
      clear hI hc
      go_wp2
      go_loopw [6, 7] (fun v i wr => ∃ s : Nat, s ≤ m0 zs ∧ i = .int .i64 (s : Int) ∧ wr.ownsRow w.heap.size 3 1 v (upB (plB zs q0) s).length (ivs (upB (plB zs q0) s)) ∧ Below w.heap.size w wr) (fun _ i _ => m0 zs - (intOf i).toNat)
      case atStart => exact ⟨0, Nat.zero_le _, rfl, hR, hB⟩
      case round =>
        clear hR hB
        obtain ⟨s, hsm, rfl, hv, hB⟩ := hrel
        obtain ⟨ad1, A1, c1, e1, hc⟩ := HW.out wr hB
        obtain rfl := Option.some.inj e1
        obtain ⟨w5, hw5⟩ : ∃ w5, w5 = wr := ⟨_, rfl⟩
        subst hw5
        by_cases hls : s < m0 zs
        · have HV := Lib.hid hv
          have hsi : (s : Int) < (m0 zs : Int) := by omega
          clear hv
          go_wp2
          go_loopw [8, 9] (fun r i wq => ∃ k : Nat, k ≤ n ∧ r = .bool ((zs.take k).any (fun L => decide (ofL L q0 = (s : Int)))) ∧ i = .int .i64 (k : Int) ∧ wq = w5) (fun _ i _ => n - (intOf i).toNat)
          case atStart => exact ⟨0, Nat.zero_le _, rfl, rfl, rfl⟩
          case round =>
            obtain ⟨k, hk, rfl, rfl, rfl⟩ := hrel
            by_cases hlt : k < n
            · have hkl : k < zs.length := by have := HL.out; omega
              obtain ⟨ad2, Ai, ci, he, hab2, hci, hri⟩ := (HH.out.below hB).at_ hlt
              obtain rfl := Option.some.inj he
              have hent : zs[k]?.getD [] = ent zs k := rfl
              have hLz := HX.out.ch _ (ent_mem hkl)
              have hlen : (ent zs k).length = m0 zs := hLz.2
              rw [hent, hlen] at hci hri
              obtain ⟨ai, rfl, hai, hcl⟩ := hri.at_ (k := q0) (by omega)
              have hof : (ent zs k)[q0]?.getD 0 = ofL (ent zs k) q0 := rfl
              rw [hof] at hcl
              have HST : Hid ((zs.take (k + 1)).any (fun L => decide (ofL L q0 = (s : Int))) = ((zs.take k).any (fun L => decide (ofL L q0 = (s : Int))) || decide (ofL (ent zs k) q0 = (s : Int)))) := any_step hkl
              clear hri hent hLz hlen hof he hkl
              generalize ofL (ent zs k) q0 = z at *
              cases hr0 : (zs.take k).any (fun L => decide (ofL L q0 = (s : Int)))
              · by_cases hz : z = (s : Int)
                · have HK2 : Hid ((zs.take (k + 1)).any (fun L => decide (ofL L q0 = (s : Int))) = true) := by show _ = _; rw [HST.out, hr0, decide_eq_true hz]; rfl
                  have hcmp : (z == (s : Int)) = true := by simp [hz]
                  clear hr0 hz
                  go_wp2
                  go_roundw
                  case rel => exact ⟨k + 1, by omega, by rw [HK2.out], by go_num, trivial⟩
                  case measure => simp [intOf]; omega
                · have HK2 : Hid ((zs.take (k + 1)).any (fun L => decide (ofL L q0 = (s : Int))) = false) := by show _ = _; rw [HST.out, hr0, decide_eq_false hz]; rfl
                  have hcmp : (z == (s : Int)) = false := by simp [hz]
                  clear hr0 hz
                  go_wp2
                  go_roundw
                  case rel => exact ⟨k + 1, by omega, by rw [HK2.out], by go_num, trivial⟩
                  case measure => simp [intOf]; omega
              · have HK2 : Hid ((zs.take (k + 1)).any (fun L => decide (ofL L q0 = (s : Int))) = true) := by show _ = _; rw [HST.out, hr0]; rfl
                clear hr0
                go_wp2
                go_roundw
                case rel => exact ⟨k + 1, by omega, by rw [HK2.out], by go_num, trivial⟩
                case measure => simp [intOf]; omega
            · obtain rfl : k = n := by omega
              have HE : Hid ((zs.take k).any (fun L => decide (ofL L q0 = (s : Int))) = plB zs q0 s) := by show _ = _; rw [List.take_of_length_le (by have := HL.out; omega)]; rfl
              cases hr0 : (zs.take k).any (fun L => decide (ofL L q0 = (s : Int)))
              · have HU := Lib.hid (upB_no (p := plB zs q0) (s := s) (by rw [← HE.out]; exact hr0))
                clear hr0
                go_wp2
                go_roundw
                case rel => exact ⟨s + 1, by omega, by go_num, by rw [HU.out]; exact HV.out, hB⟩
                case measure => simp [intOf]; omega
              · have HU := Lib.hid (upB_yes (p := plB zs q0) (s := s) (by rw [← HE.out]; exact hr0))
                clear hr0
                have hul := upB_len (plB zs q0) s
                have p1 : (upB (plB zs q0) s).length + 1 ≤ maxLen := by unfold maxLen; omega
                have p2 : ((upB (plB zs q0) s).length + 1) * 8 ≤ 140737488355328 := by omega
                have p3 : ∀ o : Obj, w.heap.size ≤ (wr.alloc o).heap.size := fun o => by have := hB.size; simp; omega
                have hv := HV.out
                go_wp2_with (at_builtin; refine wpList_append_own _ rfl _ _ 24 rfl w.heap.size 3 i0 (.int .i64 0) 1 8 Tryz.underlying24 hi hz0 hz1 hz2 rfl (by decide) _ _ _ rfl (hv.alloc _) ⟨wr.heap.size, 0, none⟩ 1 1 [.int .i64 (s : Int)] rfl rfl (cell_one_new _ _ _) (by simp [Value.oneCell']) p1 p2 (p3 _) ?_; intro v' w4 hown' hgrow _)
                have hR := app_step hB hv hown' hgrow HU.out
                go_roundw
                case rel => exact ⟨s + 1, by omega, by go_num, by rw [← HU.out, List.length_append]; rw [← HU.out] at hR; exact hR.1, hR.2⟩
                case measure => simp [intOf]; omega
        · obtain rfl : s = m0 zs := by omega
          go_wp2
          go_ret2
          exact ⟨_, (by rw [HK1.out]; rfl), by rw [← HP.out]; exact ⟨hv, hB⟩⟩
end

end Go.Proofs.YtoomeimloaloaaaGreatDoor
