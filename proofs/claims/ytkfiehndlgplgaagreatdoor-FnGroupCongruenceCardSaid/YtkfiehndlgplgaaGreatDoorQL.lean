/-
  Kc Kd Ke Kf Ki Kj Kk Kl Kn Ko Kp Kq Ky Kz.
-/
import Derived.Deep.AppendLies
import Derived.Deep.RegionLaw
import Derived.Test.YtkfiehndlgplgaaGreatDoorME
import Derived.Test.YtkfiehndlgplgaaGreatDoorND
import Derived.Test.YtkfiehndlgplgaaGreatDoorNS
import Derived.Test.YtkfiehndlgplgaaGreatDoorNT
import Derived.Test.YtkfiehndlgplgaaGreatDoorNW
import Derived.Test.YtkfiehndlgplgaaGreatDoorVC
import Derived.Test.YtkfiehndlgplgaaGreatDoorQI
namespace Go.Proofs.YtkfiehndlgplgaaGreatDoor
set_option maxRecDepth 100000
set_option linter.unusedVariables false
set_option linter.unusedSimpArgs false
set_option linter.unusedSectionVars false

/-! spec.l8Table: the places of all products. -/
section
open Go.RowKit

def tabR (zs : List (List Int)) (i : Nat) : List Int := zs.map (fun M => fndI zs (tiL (ent zs i) M))
def tabL (zs : List (List Int)) : List (List Int) := (List.range zs.length).map (tabR zs)
theorem tabR_len (zs : List (List Int)) (i : Nat) : (tabR zs i).length = zs.length := by unfold tabR; simp
theorem tabL_len (zs : List (List Int)) : (tabL zs).length = zs.length := by unfold tabL; simp
theorem tabL_get {zs : List (List Int)} {i : Nat} (hi : i < zs.length) : (tabL zs)[i]? = some (tabR zs i) := by unfold tabL; simp [hi]
theorem tabR_get {zs : List (List Int)} {i k : Nat} (hk : k < zs.length) : (tabR zs i)[k]? = some (fndI zs (tiL (ent zs i) (ent zs k))) := by
  unfold tabR; rw [List.getElem?_map, List.getElem?_eq_getElem hk]; unfold ent; rw [List.getElem?_eq_getElem hk]; rfl
theorem tabL_snoc {zs : List (List Int)} {i : Nat} (hi : i < zs.length) : (tabL zs).take (i + 1) = (tabL zs).take i ++ [tabR zs i] := by
  have h := List.getElem?_eq_some_iff.1 (tabL_get hi)
  rw [List.take_succ_eq_append_getElem h.1, h.2]
theorem tabR_snoc {zs : List (List Int)} {i k : Nat} (hk : k < zs.length) : (tabR zs i).take (k + 1) = (tabR zs i).take k ++ [fndI zs (tiL (ent zs i) (ent zs k))] := by
  have h := List.getElem?_eq_some_iff.1 (tabR_get (i := i) hk)
  rw [List.take_succ_eq_append_getElem h.1, h.2]

/-- a row of ints of the call's own, and what lies as it lay -/
structure RwS (lo : Nat) (wo W : World) (v : Value) (n : Nat) (xs : List Value) : Prop where
  own : W.ownsRow lo 3 1 v n xs
  bel : Below lo wo W
  low : lo ≤ wo.heap.size
section
variable {lo n : Nat} {wo W W' : World} {v : Value} {xs : List Value}
theorem RwS.drewN (h : RwS lo wo W v n xs) (q : Nat) : RwS lo wo (W.drewN q) v n xs := ⟨own_below h.own (below_drewN (Below.refl _ _) q), below_drewN h.bel q, h.low⟩
theorem RwS.drew (h : RwS lo wo W v n xs) : RwS lo wo W.drew v n xs := h.drewN 1
theorem RwS.on (h : RwS lo wo W v n xs) (hb : Below W.heap.size W W') : RwS lo wo W' v n xs := ⟨own_below h.own hb, h.bel.trans (hb.mono (Nat.le_trans h.low h.bel.size)), h.low⟩
theorem RwS.alloc (h : RwS lo wo W v n xs) (o : Obj) : RwS lo wo (W.alloc o) v n xs := h.on ((Below.refl _ _).alloc (Nat.le_refl _) _)
theorem RwS.size (h : RwS lo wo W v n xs) : lo ≤ W.heap.size := Nat.le_trans h.low h.bel.size
theorem RwS.app {v' : Value} {m : Nat} {ys : List Value} (h : RwS lo wo W v n xs) (ho : W'.ownsRow lo 3 1 v' m ys) (hg : W.grownBy W' v.ownBlock) : RwS lo wo W' v' m ys := ⟨ho, h.bel.grown hg h.size (fun k e => (h.own.lt k e).1), h.low⟩
end

set_option maxHeartbeats 2000000 in
theorem l8Table_any (A : Option Addr) (n c : Nat) (zs : List (List Int)) (w : World) (h : RSS w A n zs) (hS : sgS zs = true) :
    Calls Tryz.prog 48 #[.slice A n c] w fun e w' => ∃ T ct, e = .returned (.slice T n ct) ∧ RSS w' T n (tabL zs) ∧ Below w.heap.size w w' := by
  obtain ⟨i0, hi, hz0, hz1, hz2⟩ := info_parts info_int
  obtain ⟨i1, hj, hj0, hj1, hj2⟩ := info_parts info_partsS
  have S := sgS_iff.1 hS
  have HL := Lib.hid h.len
  have HR := Lib.hid h
  have HCH := Lib.hid S.ch
  have hn4 : n ≤ 400 := by have := S.most; have := h.len; omega
  have HLL : Hid (∀ L ∈ zs, L.length ≤ 1048576) := fun L hL => by have := (isC_len (S.ch L hL).1).2; omega
  have hO0 : OSS (w.alloc (.cells #[] 24)) w.heap.size (w.alloc (.cells #[] 24)).heap.size (.slice (some ⟨w.heap.size, 0, none⟩) 0 0) [] := by have := OSS.lit0 w; simpa using this
  have hB0 := (Below.refl _ w).alloc (Nat.le_refl _) (.cells #[] 24)
  clear h hS S
  go_enter Tryz.func48, Tryz.ntmps48
  go_wp2
  go_loopw [3, 4] (fun v s wr => ∃ i : Nat, i ≤ n ∧ s = .int .i64 (i : Int) ∧ OSS wr w.heap.size wr.heap.size v ((tabL zs).take i) ∧ Below w.heap.size w wr) (fun _ s _ => n - (intOf s).toNat)
  case atStart => exact ⟨0, Nat.zero_le _, rfl, hO0, hB0⟩
  case round =>
    clear hO0 hB0
    obtain ⟨i, hin, rfl, hO, hB⟩ := hrel
    by_cases hlt : i < n
    · have hii : (i : Int) < (n : Int) := by omega
      have hil : i < zs.length := by have := HL.out; omega
      have hR0 : Hid (∀ W, Below wr.heap.size wr W → RSS W A n zs) := fun W hW => (HR.out.below hB).below hW
      have HOB : Hid (∀ W, Below wr.heap.size wr W → OSS W w.heap.size wr.heap.size u3 ((tabL zs).take i) ∧ Below w.heap.size w W) := fun W hW => ⟨hO.below hW, hB.trans (hW.mono hB.size)⟩
      have hlo : w.heap.size ≤ wr.heap.size := hB.size
      have HS0 : Hid (RwS wr.heap.size wr (wr.alloc (.cells #[] 3)) (.slice (some ⟨wr.heap.size, 0, none⟩) 0 0) 0 (ivs ((tabR zs i).take 0))) := ⟨own_lit0 _, (Below.refl _ wr).alloc (Nat.le_refl _) _, Nat.le_refl _⟩
      have e1 := HCH.out _ (ent_mem hil)
      clear hO hB
      go_wp2
      generalize hwo : wr.heap.size = lo at *
      generalize wr.alloc (.cells #[] 3) = wa at *
      go_loopw [5, 6] (fun v s wq => ∃ k : Nat, k ≤ n ∧ s = .int .i64 (k : Int) ∧ Hid (RwS lo wr wq v k (ivs ((tabR zs i).take k)))) (fun _ s _ => n - (intOf s).toNat)
      case atStart => exact ⟨0, Nat.zero_le _, rfl, HS0.out⟩
      case round =>
        clear HS0
        obtain ⟨k, hkn, rfl, HN⟩ := hrel
        by_cases hkl : k < n
        · have hkk : (k : Int) < (n : Int) := by omega
          have hkz : k < zs.length := by have := HL.out; omega
          have e2 := HCH.out _ (ent_mem hkz)
          have hR := hR0.out _ HN.out.bel
          obtain ⟨ad, Ai, ci, rfl, _, hci, hri⟩ := hR.at_ hlt
          obtain ⟨ad', Ak, ck, he, _, hck, hrk⟩ := hR.at_ hkl
          obtain rfl := Option.some.inj he
          rw [show zs[i]?.getD [] = ent zs i from rfl, e1.2] at hci hri
          rw [show zs[k]?.getD [] = ent zs k from rfl, e2.2] at hck hrk
          have hP := isP_of e1.1 e2.1 (e1.2.trans e2.2.symm)
          have HST : Hid (∀ z : Int, z = fndI zs (tiL (ent zs i) (ent zs k)) → ivs ((tabR zs i).take k) ++ [.int .i64 z] = ivs ((tabR zs i).take (k + 1))) := fun z hz => by
            subst hz; rw [tabR_snoc hkz]; simp [ivs]
          have HT1 := Lib.hid (fun (W : World) (h1 : RI W Ai (ent zs 0).length (ent zs i)) (h2 : RI W Ak (ent zs 0).length (ent zs k)) => l1Ti_any Ai Ak (ent zs 0).length ci ck (ent zs i) (ent zs k) W h1 h2 hP)
          have HF1 := Lib.hid (fun (W : World) (B : Option Addr) (m d : Nat) (h1 : RSS W (some ad) n zs) (h2 : RI W B m (tiL (ent zs i) (ent zs k))) => l3Find_any (some ad) B n m c d zs (tiL (ent zs i) (ent zs k)) W h1 h2 (by omega) HLL.out)
          have hN1 := HN.out.drew
          have hR1 : RSS wr.drew (some ad) n zs := hR.heap rfl
          have hri1 : RI wr.drew Ai (ent zs 0).length (ent zs i) := hri.heap rfl
          have hrk1 : RI wr.drew Ak (ent zs 0).length (ent zs k) := hrk.heap rfl
          have hx1 : k + 1 ≤ maxLen := by unfold maxLen; omega
          have hx2 : (k + 1) * 8 ≤ 140737488355328 := by omega
          have hcc : (ent zs 0).length = (ent zs 0).length := rfl
          generalize tiL (ent zs i) (ent zs k) = M at *
          obtain ⟨z, hz⟩ : ∃ z, fndI zs M = z := ⟨_, rfl⟩
          rw [hz] at HF1 HST
          clear hcc hz e2 hP he hri hrk hR HN hkz
          go_wp2
          go_region_law (first
            | (go_simp
               go_at_call 92
               refine (HT1.out _ hri1 hrk1).mono ?_
               rintro e w3 ⟨v3, rfl, hown3, hb3⟩
               have hN2 := hN1.on hb3
               have hR2 := hR1.below hb3
               obtain ⟨B3, c3, rfl⟩ := own_slice hown3
               have hr3 := RI.of_own hown3)
            | (go_simp
               go_at_call 67
               refine (HF1.out _ _ _ _ hR2 hr3).mono ?_
               rintro e w4 ⟨rfl, q4, rfl⟩
               have hN3 := (hN2.drewN q4).alloc (.cells #[.int .i64 z] 3))
            | (refine step_append_lies _ (by rfl) _ _ _ (by rfl) lo 3 i0 (.int .i64 0) 1 8 Tryz.underlying24 hi hz0 hz1 hz2 rfl (by decide) _ k _ (by rfl) hN3.own ⟨(w3.drewN q4).heap.size, 0, none⟩ 1 1 [.int .i64 z] (by rfl) rfl (cell_one_new _ _ _) (by simp [Value.oneCell']) (by decide) hx1 hx2 hN3.size ((w3.drewN q4).heap.size + 1) (by simp) ?_
               intro g7 c7 w7 hown7 hgrow7 hat7 hlt7
               have hN4 := hN3.app hown7 hgrow7))
          all_goals
            rw [HST.out z rfl] at hN4
            have HN4 := Lib.hid hN4
            clear hN1 hN2 hN3 hN4 hown7 hgrow7 hat7 hown3 hb3 hr3 hR2 hR1
            go_wp2
            go_roundw
            case rel => exact ⟨k + 1, by omega, by go_num, HN4.out⟩
            case measure => simp [intOf]; omega
        · obtain rfl : k = n := by omega
          have hkk : ¬ (k : Int) < (k : Int) := by omega
          have hE : (tabR zs i).take k = tabR zs i := List.take_of_length_le (by rw [tabR_len]; have := HL.out; omega)
          rw [hE] at HN
          have hown : wr.ownsRow lo 3 1 u5 (tabR zs i).length (ivs (tabR zs i)) := by rw [tabR_len, HL.out]; exact HN.out.own
          obtain ⟨⟨vs, a1, _, a5⟩, hB2⟩ := HOB.out _ HN.out.bel
          have hlw := HN.out.size
          have hou := (OI.of hown).less hlo
          have hap : ∀ (i : Nat) (u' : Value), vs[i]? = some u' → ∀ g : Nat, u'.ownBlock = some g → u5.ownBlock = some g → False := fun j u' hj g e1 e2 => by
            have q1 := (a5.lt hj e1).2.1
            have q2 := (hown.lt g e2).1
            omega
          have a5' := a5.more (Nat.le_refl _) hlw
          have HTS := Lib.hid (tabL_snoc hil)
          have hTl : ((tabL zs).take i).length ≤ 400 := by rw [List.length_take]; omega
          obtain ⟨Av, cv, rfl⟩ := own_slice hown
          clear hE HN hown HOB a5
          generalize (tabL zs).take i = Ts at *
          generalize tabR zs i = L at *
          have p2 : Ts.length + 1 ≤ maxLen := by unfold maxLen; omega
          have p3 : (Ts.length + 1) * 24 ≤ 140737488355328 := by omega
          have p4 : ∀ o : Obj, w.heap.size ≤ (wr.alloc o).heap.size := fun o => by have := hB2.size; simp; omega
          go_wp2_with (at_builtin; refine wpList_append_own _ rfl _ _ 23 rfl w.heap.size 24 i1 (.slice none 0 0) 1 24 Tryz.underlying23 hj hj0 hj1 hj2 rfl (by decide) _ _ _ rfl (a1.alloc _) ⟨wr.heap.size, 0, none⟩ 1 1 [.slice Av L.length cv] rfl rfl (cell_one_new _ _ _) (by simp [Value.oneCell']) p2 p3 (p4 _) ?_; intro v' w1 hown' hgrow _)
          have hin := OSS.app a1 a5' hou hap hown' hgrow
          have hB4 := below_app hB2 a1 (Nat.le_refl _) hgrow
          have HIN := Lib.hid hin
          clear hin hown' hgrow hap hou a1 a5'
          go_roundw
          case rel => exact ⟨i + 1, by omega, by go_num, by rw [HTS.out]; exact HIN.out, hB4⟩
          case measure => simp [intOf]; omega
    · obtain rfl : i = n := by omega
      have hii : ¬ (i : Int) < (i : Int) := by omega
      obtain ⟨T, ct, rfl⟩ := hO.slice
      have hr := (RSS.of_own hO).2
      have hE : (tabL zs).take i = tabL zs := List.take_of_length_le (by rw [tabL_len]; have := HL.out; omega)
      have hEl : ((tabL zs).take i).length = i := by rw [hE, tabL_len]; exact HL.out
      rw [hEl, hE] at hr
      rw [hEl]
      clear hE hEl hO
      go_wp2
      go_ret
      exact ⟨_, ⟨_, rfl⟩, hr, hB⟩
end

/-! spec.CongruenceIn. -/
section
open Go.RowKit

def adrV : Option Value → Addr
  | some (.slice (some a) _ _) => a
  | _ => ⟨0, 0, none⟩
def capV : Option Value → Nat
  | some (.slice _ _ c) => c
  | _ => 0
/-- the place of a product -/
def pT (zs : List (List Int)) (i j : Nat) : Nat := ixP zs (tiL (ent zs i) (ent zs j))
theorem pT_at {zs : List (List Int)} (S : Sg zs) {i j : Nat} (hi : i < zs.length) (hj : j < zs.length) : pT zs i j < zs.length ∧ fndI zs (tiL (ent zs i) (ent zs j)) = (pT zs i j : Int) := by
  have := ixP_mem S.srt (S.ti _ (ent_mem hi) _ (ent_mem hj))
  exact ⟨this.1, this.2.2⟩
theorem o3_is (zs : List (List Int)) (cs : List Int) (i k j : Nat) : o3B zs cs i k j = (decide (ofL cs (pT zs i j) = ofL cs (pT zs k j)) && decide (ofL cs (pT zs j i) = ofL cs (pT zs j k))) := rfl
theorem o2_yes {zs : List (List Int)} {cs : List Int} {i k : Nat} (hk : fsE (ofL cs) i = k) (h : ∀ j, j < zs.length → o3B zs cs i k j = true) : o2B zs cs i = true := by
  unfold o2B
  rw [Bool.or_eq_true, List.all_eq_true]
  exact .inr (fun j hj => by rw [hk]; exact h j (List.mem_range.1 hj))
theorem o2_self {zs : List (List Int)} {cs : List Int} {i : Nat} (hk : fsE (ofL cs) i = i) : o2B zs cs i = true := by
  unfold o2B; rw [decide_eq_true hk]; rfl
theorem o2_no {zs : List (List Int)} {cs : List Int} {i k j : Nat} (hk : fsE (ofL cs) i = k) (hki : k ≠ i) (hj : j < zs.length) (h : o3B zs cs i k j = false) : o2B zs cs i = false := by
  unfold o2B
  rw [Bool.or_eq_false_iff, hk, List.all_eq_false]
  exact ⟨decide_eq_false hki, j, List.mem_range.2 hj, by rw [h]; simp⟩
theorem cg_nsg {zs : List (List Int)} {cs : List Int} (h : sgS zs = false) : cgB zs cs = false := by unfold cgB; rw [h]; rfl
theorem cg_nlen {zs : List (List Int)} {cs : List Int} (h : cs.length ≠ zs.length) : cgB zs cs = false := by unfold cgB; rw [decide_eq_false h]; simp
theorem cg_nnu {zs : List (List Int)} {cs : List Int} (h : nuL (ofL cs) zs.length ≠ cs) : cgB zs cs = false := by unfold cgB; rw [decide_eq_false h]; simp
theorem cg_no {zs : List (List Int)} {cs : List Int} (hS : sgS zs = true) (hl : cs.length = zs.length) (hn : nuL (ofL cs) zs.length = cs) {i : Nat} (hi : i < zs.length) (h : o2B zs cs i = false) : cgB zs cs = false := by
  cases e : cgB zs cs
  · rfl
  · rw [(cgB_spec hS hl hn).1 e i hi] at h; cases h

set_option maxHeartbeats 4000000 in
theorem specCgIn_any (A C : Option Addr) (n c m d : Nat) (zs : List (List Int)) (cs : List Int) (w : World) (h : RSS w A n zs) (h' : RI w C m cs) (hn : n ≤ 1048576) (hl : ∀ L ∈ zs, L.length ≤ 1048576) (hm : m ≤ 1048576) :
    Calls Tryz.prog 13 #[.slice A n c, .slice C m d] w fun e w' => e = .returned (.bool (cgB zs cs)) ∧ Below w.heap.size w w' := by
  have hsg := specSg_any A n c zs w h hn hl
  have HL := Lib.hid h.len
  have HL' := Lib.hid h'.len
  cases hS : sgS zs
  · have HF := Lib.hid (cg_nsg (cs := cs) hS)
    rw [hS] at hsg
    clear h h' hl hS
    go_enter Tryz.func13, Tryz.ntmps13
    go_wp2_with fail
    refine hsg.mono ?_
    rintro e w1 ⟨rfl, hb⟩
    go_wp2
    go_ret
    exact ⟨by rw [HF.out]; try rfl, hb⟩
  · have HS := Lib.hid hS
    rw [hS] at hsg
    clear hS
    by_cases hmn : m = n
    · subst hmn
      have hmm : ((m : Int) != (m : Int)) = false := by simp
      have HR := Lib.hid h
      have HR' := Lib.hid h'
      clear h h' hl
      go_enter Tryz.func13, Tryz.ntmps13
      go_wp2_with fail
      refine hsg.mono ?_
      rintro e w1 ⟨rfl, hb⟩
      have HB1 := Lib.hid hb
      clear hb hsg
      go_wp2_with fail
      refine (l8Numbers_any C m d cs w1 (HR'.out.below HB1.out) hm).mono ?_
      rintro e w2 ⟨v, rfl, hown, hb⟩
      obtain ⟨Ag, cg, rfl⟩ := own_slice hown
      have hrn := RI.of_own hown
      have HB2 := Lib.hid (HB1.out.trans (hb.mono HB1.out.size))
      clear hb hown HB1
      go_wp2_with fail
      refine (l2Same_q Ag C m m cg d (nuL (ofL cs) m) cs w2 hrn (HR'.out.below HB2.out) hm).mono ?_
      rintro e w3 ⟨rfl, q3, rfl⟩
      have HB3 := Lib.hid (below_drewN HB2.out q3)
      clear hrn HB2
      by_cases hnu : nuL (ofL cs) m = cs
      · have HNU : Hid (nuL (ofL cs) zs.length = cs) := by show _ = _; rw [HL.out]; exact hnu
        rw [decide_eq_true hnu]
        clear hnu
        generalize w2.drewN q3 = w4 at *
        go_wp2_with fail
        refine (l8Table_any A m c zs w4 (HR.out.below HB3.out) HS.out).mono ?_
        rintro e w5 ⟨T, ct, rfl, hT, hb⟩
        have HB5 := Lib.hid (HB3.out.trans (hb.mono HB3.out.size))
        have S := sgS_iff.1 HS.out
        have h0 : 0 < m := by have := S.one; have := HL.out; omega
        obtain ⟨tt, _, _, rfl, _⟩ := hT.at_ h0
        obtain ⟨ac, rfl, _⟩ := (HR'.out.below HB5.out).at_ h0
        obtain ⟨TA, TC, HT⟩ : ∃ (TA : Nat → Addr) (TC : Nat → Nat), Hid (∀ q i j, i < m → j < m → (w5.drewN q).cell? (tt.add i) = some (.slice (some (TA i)) m (TC i)) ∧ (w5.drewN q).cell? ((TA i).add j) = some (.int .i64 (pT zs i j : Nat)) ∧ pT zs i j < m ∧ (w5.drewN q).cell? (ac.add (pT zs i j)) = some (.int .i64 (ofL cs (pT zs i j)))) := by
          refine ⟨fun i => adrV (w5.cell? (tt.add i)), fun i => capV (w5.cell? (tt.add i)), fun q i j hi hj => ?_⟩
          have hiz : i < zs.length := by have := HL.out; omega
          have hjz : j < zs.length := by have := HL.out; omega
          obtain ⟨t2, Ai, ci, e2, _, hc, hr⟩ := hT.at_ hi
          obtain rfl := Option.some.inj e2
          rw [show (tabL zs)[i]?.getD [] = tabR zs i by rw [tabL_get hiz]; rfl, tabR_len, HL.out] at hc hr
          obtain ⟨ai, rfl, _, hcj⟩ := hr.at_ hj
          obtain ⟨hp, hf⟩ := pT_at S hiz hjz
          rw [tabR_get hjz, hf] at hcj
          have hpm : pT zs i j < m := by rw [← HL.out]; exact hp
          obtain ⟨a2, e3, _, hcp⟩ := (HR'.out.below HB5.out).at_ hpm
          obtain rfl := Option.some.inj e3
          have h1 : adrV (w5.cell? (tt.add i)) = ai := by rw [hc]; rfl
          have h2 : capV (w5.cell? (tt.add i)) = ci := by rw [hc]; rfl
          dsimp only
          rw [h1, h2]
          exact ⟨hc, hcj, hpm, hcp⟩
        have HC : Hid (∀ q j, j < m → (w5.drewN q).cell? (ac.add j) = some (.int .i64 (ofL cs j))) := fun q j hj => by
          obtain ⟨a2, e3, _, hcp⟩ := (HR'.out.below HB5.out).at_ hj
          obtain rfl := Option.some.inj e3
          exact hcp
        have HNO := Lib.hid (fun (i : Nat) (hi : i < m) => cg_no (i := i) HS.out (HL'.out.trans HL.out.symm) HNU.out (by rw [HL.out]; exact hi))
        have HYES : Hid ((∀ i, i < m → o2B zs cs i = true) → cgB zs cs = true) := fun hall => (cgB_spec HS.out (HL'.out.trans HL.out.symm) HNU.out).2 (by rw [HL.out]; exact hall)
        have HM : Hid (zs.length = m) := HL.out
        have HBQ : Hid (∀ q, Below w.heap.size w (w5.drewN q)) := fun q => below_drewN HB5.out q
        clear hb hT S HB3 HB5 HS HNU
        go_wp2
        go_loopw [6] (fun s wr => ∃ i : Nat, i ≤ m ∧ s = .int .i64 (i : Int) ∧ Hid (∀ i', i' < i → o2B zs cs i' = true) ∧ ∃ q, wr = w5.drewN q) (fun s _ => m - (intOf s).toNat)
        case atStart => exact ⟨0, Nat.zero_le _, rfl, Lib.hid (fun j hj => absurd hj (Nat.not_lt_zero _)), 0, rfl⟩
        case round =>
          obtain ⟨i, him, rfl, HI, q, hw⟩ := hrel
          by_cases hlt : i < m
          · have hii : (i : Int) < (m : Int) := by omega
            have HW := Lib.hid hw
            clear hw
            go_wp2
            go_loopw [7] (fun s wq => ∃ k : Nat, k ≤ i + 1 ∧ s = .int .i64 (k : Int) ∧ Hid ((k ≤ i ∧ ∀ j, j < k → ofL cs j ≠ ofL cs i) ∨ (k = i + 1 ∧ o2B zs cs i = true)) ∧ ∃ q, wq = w5.drewN q) (fun s _ => i + 1 - (intOf s).toNat)
            case atStart => exact ⟨0, Nat.zero_le _, rfl, Lib.hid (.inl ⟨Nat.zero_le _, fun j hj => absurd hj (Nat.not_lt_zero _)⟩), _, HW.out⟩
            case round =>
              clear HW q
              obtain ⟨k, hk1, rfl, HK, q, hw⟩ := hrel
              by_cases hki : k < i
              · have hkk : (k : Int) < (i : Int) := by omega
                have hkm : (k : Int) < (m : Int) := by omega
                have HN : Hid (∀ j, j < k → ofL cs j ≠ ofL cs i) := by
                  rcases HK.out with h | h
                  · exact h.2
                  · have := h.1; omega
                have a1 := HC.out q i hlt
                have a2 := HC.out q k (by omega)
                rw [← hw] at a1 a2
                have HW := Lib.hid hw
                clear hw HK
                by_cases he : ofL cs k = ofL cs i
                · have hc : ((ofL cs i : Int) != ofL cs k) = false := by simp [he]
                  have HFE : Hid (fsE (ofL cs) i = k) := fsE_is (by omega) he HN.out
                  clear he
                  generalize ofL cs k = x at *
                  generalize hyy : ofL cs i = y at *
                  clear hyy HN
                  go_wp2
                  go_quiet (fail)
                  all_goals go_wp2
                  obtain ⟨q2, hw2⟩ := drawn_on HW.out nq
                  have HW2 := Lib.hid hw2
                  clear hw2 a1 a2 hc
                  go_loopw [8] (fun s wz => ∃ j : Nat, j ≤ m ∧ s = .int .i64 (j : Int) ∧ Hid (∀ j', j' < j → o3B zs cs i k j' = true) ∧ ∃ q, wz = w5.drewN q) (fun s _ => m - (intOf s).toNat)
                  case atStart => exact ⟨0, Nat.zero_le _, rfl, Lib.hid (fun j hj => absurd hj (Nat.not_lt_zero _)), q2, HW2.out⟩
                  case round =>
                    obtain ⟨j, hjm, rfl, HJ, q4, hw⟩ := hrel
                    by_cases hjl : j < m
                    · have hjj : (j : Int) < (m : Int) := by omega
                      obtain ⟨c1, c2, c3, c4⟩ := HT.out q4 i j hlt hjl
                      obtain ⟨d1, d2, d3, d4⟩ := HT.out q4 k j (by omega) hjl
                      obtain ⟨e1, e2, e3, e4⟩ := HT.out q4 j i hjl hlt
                      obtain ⟨_, f2, f3, f4⟩ := HT.out q4 j k hjl (by omega)
                      have hBz := HBQ.out q4
                      rw [← hw] at c1 c2 c4 d1 d2 d4 e1 e2 e4 f2 f4 hBz
                      have HWz := Lib.hid hw
                      have HO3 := Lib.hid (o3_is zs cs i k j)
                      have HBZ := Lib.hid hBz
                      have HNF : Hid (o3B zs cs i k j = false → cgB zs cs = false) := fun hf => HNO.out i hlt (o2_no HFE.out (by omega) (by rw [HM.out]; exact hjl) hf)
                      clear hw hBz
                      generalize pT zs i j = p1 at *
                      generalize pT zs k j = p2 at *
                      generalize pT zs j i = p3 at *
                      generalize pT zs j k = p4 at *
                      have g1 : (p1 : Int) < (m : Int) := by omega
                      have g2 : (p2 : Int) < (m : Int) := by omega
                      have g3 : (p3 : Int) < (m : Int) := by omega
                      have g4 : (p4 : Int) < (m : Int) := by omega
                      generalize ofL cs p1 = x1 at *
                      generalize ofL cs p2 = x2 at *
                      generalize ofL cs p3 = x3 at *
                      generalize ofL cs p4 = x4 at *
                      by_cases hx1 : x1 = x2
                      · have b1 : ((x1 : Int) != x2) = false := by simp [hx1]
                        by_cases hx2 : x3 = x4
                        · have b2 : ((x3 : Int) != x4) = false := by simp [hx2]
                          have HJ2 : Hid (∀ j', j' < j + 1 → o3B zs cs i k j' = true) := upto_step HJ.out (by rw [HO3.out, decide_eq_true hx1, decide_eq_true hx2]; rfl)
                          clear hx1 hx2
                          go_wp2
                          go_quiet (fail)
                          all_goals go_wp2
                          go_roundw
                          case rel => exact ⟨j + 1, by omega, by go_num, HJ2, drawn_on HWz.out _⟩
                          case measure => simp [intOf]; omega
                        · have b2 : ((x3 : Int) != x4) = true := by simp [hx2]
                          have HF := Lib.hid (HNF.out (by rw [HO3.out, decide_eq_false hx2]; simp))
                          clear hx1 hx2
                          go_wp2
                          go_quiet (fail)
                          all_goals go_wp2
                          go_ret
                          exact ⟨by rw [HF.out]; try rfl, below_drewN HBZ.out _⟩
                      · have b1 : ((x1 : Int) != x2) = true := by simp [hx1]
                        have HF := Lib.hid (HNF.out (by rw [HO3.out, decide_eq_false hx1]; simp))
                        clear hx1
                        go_wp2
                        go_quiet (fail)
                        all_goals go_wp2
                        go_ret
                        exact ⟨by rw [HF.out]; try rfl, below_drewN HBZ.out _⟩
                    · have hjj : ¬ (j : Int) < (m : Int) := by omega
                      have HO2 := Lib.hid (o2_yes HFE.out (fun j' hj' => HJ.out j' (by rw [HM.out] at hj'; omega)))
                      have HWz := Lib.hid hw
                      clear hw
                      go_wp2
                      go_roundw
                      case rel => exact ⟨i + 1, by omega, by go_num, Lib.hid (.inr ⟨rfl, HO2.out⟩), _, HWz.out⟩
                      case measure => simp [intOf]; omega
                · have hc : ((ofL cs i : Int) != ofL cs k) = true := by simp; exact fun e => he e.symm
                  have HN2 : Hid (∀ j, j < k + 1 → ofL cs j ≠ ofL cs i) := fun j hj => by
                    rcases Nat.lt_or_ge j k with h | h
                    · exact HN.out j h
                    · rw [show j = k by omega]; exact he
                  clear he
                  generalize ofL cs k = x at *
                  generalize hyy : ofL cs i = y at *
                  clear hyy HN
                  go_wp2
                  go_quiet (fail)
                  all_goals go_wp2
                  go_roundw
                  case rel => exact ⟨k + 1, by omega, by go_num, Lib.hid (.inl ⟨by omega, HN2.out⟩), drawn_on HW.out _⟩
                  case measure => simp [intOf]; omega
              · have hkk : ¬ (k : Int) < (i : Int) := by omega
                have HI2 : Hid (∀ i', i' < i + 1 → o2B zs cs i' = true) := upto_step HI.out (by
                  rcases HK.out with h | h
                  · exact o2_self (fsE_is (Nat.le_refl _) rfl (fun j hj => h.2 j (by omega)))
                  · exact h.2)
                have HW := Lib.hid hw
                clear hw HK
                go_wp2
                go_roundw
                case rel => exact ⟨i + 1, by omega, by go_num, HI2, _, HW.out⟩
                case measure => simp [intOf]; omega
          · have hii : ¬ (i : Int) < (m : Int) := by omega
            obtain rfl : i = m := by omega
            have HT2 := Lib.hid (HYES.out HI.out)
            have hB := HBQ.out q
            rw [← hw] at hB
            clear hw
            go_wp2
            go_ret
            exact ⟨by rw [HT2.out]; try rfl, hB⟩
      · have HF : Hid (cgB zs cs = false) := cg_nnu (by rw [HL.out]; exact hnu)
        rw [decide_eq_false hnu]
        clear hnu
        go_wp2
        go_ret
        exact ⟨by rw [HF.out]; try rfl, HB3.out⟩
    · have hmm : ((m : Int) != (n : Int)) = true := by simp; omega
      have HF : Hid (cgB zs cs = false) := cg_nlen (by rw [h.len, h'.len]; exact hmn)
      clear h h' hl hmn
      go_enter Tryz.func13, Tryz.ntmps13
      go_wp2_with fail
      refine hsg.mono ?_
      rintro e w1 ⟨rfl, hb⟩
      go_wp2
      go_ret
      exact ⟨by rw [HF.out]; try rfl, hb⟩
end

/-! spec.CongruenceSize, CongruenceFiner, CongruenceSplits. -/
section
open Go.RowKit

/-- what holds of each two -/
def dbB (n : Nat) (P : Nat → Nat → Bool) : Bool := (List.range n).all (fun i => (List.range i).all (P i))
theorem dbB_iff {n : Nat} {P : Nat → Nat → Bool} : dbB n P = true ↔ ∀ i, i < n → ∀ k, k < i → P i k = true := by
  unfold dbB
  simp only [List.all_eq_true, List.mem_range]
theorem dbB_no {n : Nat} {P : Nat → Nat → Bool} {i k : Nat} (hi : i < n) (hk : k < i) (h : P i k = false) : dbB n P = false := by
  cases e : dbB n P
  · rfl
  · rw [dbB_iff.1 e i hi k hk] at h; cases h
def szN (zs : List (List Int)) (cs : List Int) : Nat := if cgB zs cs = true then frC (ofL cs) zs.length else 0
theorem szN_le (zs : List (List Int)) (cs : List Int) : szN zs cs ≤ zs.length := by
  unfold szN; split
  · exact frC_le _ _
  · exact Nat.zero_le _
theorem cg_val {zs : List (List Int)} {cs : List Int} (h : cgB zs cs = true) {i : Nat} (hi : i < zs.length) : ofL cs i = (nuE (ofL cs) i : Int) := by
  have h1 := nuL_of (ofL cs) hi
  rw [(cgB_iff.1 h).nu] at h1
  exact h1
theorem fr_max (c : Nat → Int) (i : Nat) : frC c (i + 1) = max (frC c i) (nuE c i + 1) := by
  by_cases h : fsE c i = i
  · rw [frC_next h, nu_new h]; omega
  · rw [frC_same h]
    have := nu_lt c (show fsE c i < i by have := fsE_le c i; omega)
    rw [nu_of (fsE_at c i)] at this
    omega
def fiP (cs ds : List Int) (i k : Nat) : Bool := !decide (ofL cs i = ofL cs k) || decide (ofL ds i = ofL ds k)
def fiB (zs : List (List Int)) (cs ds : List Int) : Bool := cgB zs cs && cgB zs ds && dbB zs.length (fiP cs ds)
def spP (zs : List (List Int)) (cs : List Int) (i k : Nat) : Bool := !(decide (ofL cs i = ofL cs k) && idB (ent zs i) && idB (ent zs k))
def spB (zs : List (List Int)) (cs : List Int) : Bool := cgB zs cs && dbB zs.length (spP zs cs)

set_option maxHeartbeats 1000000 in
theorem specCgSize_any (A C : Option Addr) (n c m d : Nat) (zs : List (List Int)) (cs : List Int) (w : World) (h : RSS w A n zs) (h' : RI w C m cs) (hn : n ≤ 1048576) (hl : ∀ L ∈ zs, L.length ≤ 1048576) (hm : m ≤ 1048576) :
    Calls Tryz.prog 40 #[.slice A n c, .slice C m d] w fun e w' => e = .returned (.tuple #[.int .i64 (szN zs cs : Nat), .bool (cgB zs cs)]) ∧ Below w.heap.size w w' := by
  have hcg := specCgIn_any A C n c m d zs cs w h h' hn hl hm
  have HR' := Lib.hid h'
  cases hC : cgB zs cs
  · have HF : Hid (szN zs cs = 0) := by show _ = _; unfold szN; rw [hC]; rfl
    rw [hC] at hcg
    clear h h' hl hC
    go_enter Tryz.func40, Tryz.ntmps40
    go_wp2_with fail
    refine hcg.mono ?_
    rintro e w1 ⟨rfl, hb⟩
    go_wp2
    go_ret2
    exact ⟨by rw [HF.out]; try rfl, hb⟩
  · have HF : Hid (szN zs cs = frC (ofL cs) m) := by show _ = _; unfold szN; rw [hC, ← (cgB_iff.1 hC).len, h'.len]; rfl
    have HV : Hid (∀ i, i < m → ofL cs i = (nuE (ofL cs) i : Int)) := fun i hi => cg_val hC (by rw [← (cgB_iff.1 hC).len, h'.len]; exact hi)
    rw [hC] at hcg
    clear h h' hl hC
    go_enter Tryz.func40, Tryz.ntmps40
    go_wp2_with fail
    refine hcg.mono ?_
    rintro e w1 ⟨rfl, hb⟩
    clear hcg
    go_wp2
    go_loopw [6, 7] (fun s v wr => ∃ i : Nat, i ≤ m ∧ v = .int .i64 (i : Int) ∧ s = .int .i64 (frC (ofL cs) i : Nat) ∧ wr = w1) (fun _ v _ => m - (intOf v).toNat)
    case atStart => exact ⟨0, Nat.zero_le _, rfl, rfl, rfl⟩
    case round =>
      obtain ⟨i, him, rfl, rfl, rfl⟩ := hrel
      by_cases hlt : i < m
      · have hii : (i : Int) < (m : Int) := by omega
        obtain ⟨ac, rfl, _, hc⟩ := (HR'.out.below hb).at_ hlt
        rw [show cs[i]?.getD 0 = ofL cs i from rfl, HV.out i hlt] at hc
        have HX := Lib.hid (fr_max (ofL cs) i)
        have h1 := frC_le (ofL cs) i
        have h2 := nu_lt (ofL cs) (show i < i + 1 by omega)
        have h3 := frC_le (ofL cs) (i + 1)
        generalize nuE (ofL cs) i = x at *
        generalize frC (ofL cs) i = f at *
        have hxb : x ≤ 1048577 := by omega
        clear h2 h3
        go_wp2
        go_roundw
        case rel => exact ⟨i + 1, by omega, by go_num, by rw [HX.out]; congr 1; omega, trivial⟩
        case measure => simp [intOf]; omega
      · have hii : ¬ (i : Int) < (m : Int) := by omega
        obtain rfl : i = m := by omega
        rw [← HF.out]
        go_wp2
        go_ret2
        exact ⟨rfl, hb⟩
set_option maxHeartbeats 1000000 in
theorem specCgFiner_any (A C D : Option Addr) (n c m d m' d' : Nat) (zs : List (List Int)) (cs ds : List Int) (w : World) (h : RSS w A n zs) (h' : RI w C m cs) (h2 : RI w D m' ds) (hn : n ≤ 1048576) (hl : ∀ L ∈ zs, L.length ≤ 1048576) (hm : m ≤ 1048576) (hm' : m' ≤ 1048576) :
    Calls Tryz.prog 42 #[.slice A n c, .slice C m d, .slice D m' d'] w fun e w' => e = .returned (.bool (fiB zs cs ds)) ∧ Below w.heap.size w w' := by
  have hcg := specCgIn_any A C n c m d zs cs w h h' hn hl hm
  cases hC : cgB zs cs
  · have HF : Hid (fiB zs cs ds = false) := by show _ = _; unfold fiB; rw [hC]; rfl
    rw [hC] at hcg
    clear h h' h2 hl hC
    go_enter Tryz.func42, Tryz.ntmps42
    go_wp2_with fail
    refine hcg.mono ?_
    rintro e w1 ⟨rfl, hb⟩
    go_wp2
    go_ret
    exact ⟨by rw [HF.out]; try rfl, hb⟩
  · have HCD := Lib.hid (fun (W : World) (hW : Below w.heap.size w W) => specCgIn_any A D n c m' d' zs ds W (h.below hW) (h2.below hW) hn hl hm')
    have HL := Lib.hid h.len
    have HR' := Lib.hid h'
    have HR2 := Lib.hid h2
    have HLC := Lib.hid ((cgB_iff.1 hC).len)
    have HM : Hid (zs.length = m) := by show _ = _; rw [← HLC.out]; exact h'.len
    have HLD : Hid (cgB zs ds = true → m' = m) := fun e => by rw [← HM.out, ← (cgB_iff.1 e).len]; exact h2.len.symm
    have HFE : Hid (fiB zs cs ds = (cgB zs ds && dbB m (fiP cs ds))) := by show _ = _; unfold fiB; rw [hC, HM.out]; rfl
    rw [hC] at hcg
    clear h h' h2 hl hC
    go_enter Tryz.func42, Tryz.ntmps42
    go_wp2_with fail
    refine hcg.mono ?_
    rintro e w1 ⟨rfl, hb⟩
    have hcd := HCD.out w1 hb
    clear hcg HCD
    cases hD : cgB zs ds
    · have HF : Hid (fiB zs cs ds = false) := by show _ = _; rw [HFE.out, hD]; rfl
      rw [hD] at hcd
      clear hD
      go_wp2_with fail
      refine hcd.mono ?_
      rintro e w2 ⟨rfl, hb2⟩
      have hb3 := hb.trans (hb2.mono hb.size)
      go_wp2
      go_ret
      exact ⟨by rw [HF.out]; try rfl, hb3⟩
    · obtain rfl := HLD.out hD
      have HFD : Hid (fiB zs cs ds = dbB m' (fiP cs ds)) := by show _ = _; rw [HFE.out, hD]; rfl
      rw [hD] at hcd
      clear hD HLD HFE
      go_wp2_with fail
      refine hcd.mono ?_
      rintro e w2 ⟨rfl, hb2⟩
      have hB2 := Lib.hid (hb.trans (hb2.mono hb.size))
      clear hcd hb hb2
      go_wp2
      go_loopw [7] (fun s wr => ∃ i : Nat, i ≤ m' ∧ s = .int .i64 (i : Int) ∧ Hid (∀ i', i' < i → ∀ k, k < i' → fiP cs ds i' k = true) ∧ ∃ q, wr = w2.drewN q) (fun s _ => m' - (intOf s).toNat)
      case atStart => exact ⟨0, Nat.zero_le _, rfl, Lib.hid (fun j hj => absurd hj (Nat.not_lt_zero _)), 0, rfl⟩
      case round =>
        obtain ⟨i, him, rfl, HI, q, hw⟩ := hrel
        by_cases hlt : i < m'
        · have hii : (i : Int) < (m' : Int) := by omega
          have HW := Lib.hid hw
          clear hw
          go_wp2
          go_loopw [8] (fun s wq => ∃ k : Nat, k ≤ i ∧ s = .int .i64 (k : Int) ∧ Hid (∀ k', k' < k → fiP cs ds i k' = true) ∧ ∃ q, wq = w2.drewN q) (fun s _ => i - (intOf s).toNat)
          case atStart => exact ⟨0, Nat.zero_le _, rfl, Lib.hid (fun j hj => absurd hj (Nat.not_lt_zero _)), _, HW.out⟩
          case round =>
            clear HW q
            obtain ⟨k, hk1, rfl, HK, q, hw⟩ := hrel
            by_cases hki : k < i
            · have hkk : (k : Int) < (i : Int) := by omega
              have hkm : (k : Int) < (m' : Int) := by omega
              have hBq := below_drewN hB2.out q
              rw [← hw] at hBq
              obtain ⟨ac, rfl, _, a1⟩ := (HR'.out.below hBq).at_ hlt
              obtain ⟨ac', e1, _, a2⟩ := (HR'.out.below hBq).at_ (show k < m' by omega)
              obtain rfl := Option.some.inj e1
              obtain ⟨ad, rfl, _, b1⟩ := (HR2.out.below hBq).at_ hlt
              obtain ⟨ad', e2, _, b2⟩ := (HR2.out.below hBq).at_ (show k < m' by omega)
              obtain rfl := Option.some.inj e2
              have HP : Hid (fiP cs ds i k = (!decide (cs[i]?.getD 0 = cs[k]?.getD 0) || decide (ds[i]?.getD 0 = ds[k]?.getD 0))) := rfl
              have HNO : Hid (fiP cs ds i k = false → fiB zs cs ds = false) := fun hf => by rw [HFD.out]; exact dbB_no hlt hki hf
              have HW := Lib.hid hw
              have HBQ := Lib.hid hBq
              clear hw hBq e1 e2
              generalize cs[i]?.getD 0 = x1 at *
              generalize cs[k]?.getD 0 = x2 at *
              generalize ds[i]?.getD 0 = y1 at *
              generalize ds[k]?.getD 0 = y2 at *
              by_cases hx : x1 = x2
              · have c1 : ((x1 : Int) == x2) = true := by simp [hx]
                by_cases hy : y1 = y2
                · have c2 : ((y1 : Int) != y2) = false := by simp [hy]
                  have HK2 : Hid (∀ k', k' < k + 1 → fiP cs ds i k' = true) := upto_step HK.out (by rw [HP.out, decide_eq_true hy]; simp)
                  clear hx hy
                  go_wp2
                  go_quiet (fail)
                  all_goals go_wp2
                  go_roundw
                  case rel => exact ⟨k + 1, by omega, by go_num, HK2, drawn_on HW.out _⟩
                  case measure => simp [intOf]; omega
                · have c2 : ((y1 : Int) != y2) = true := by simp [hy]
                  have HF := Lib.hid (HNO.out (by rw [HP.out, decide_eq_true hx, decide_eq_false hy]; rfl))
                  clear hx hy
                  go_wp2
                  go_quiet (fail)
                  all_goals go_wp2
                  go_ret
                  exact ⟨by rw [HF.out]; try rfl, below_drewN HBQ.out _⟩
              · have c1 : ((x1 : Int) == x2) = false := by simp [hx]
                have HK2 : Hid (∀ k', k' < k + 1 → fiP cs ds i k' = true) := upto_step HK.out (by rw [HP.out, decide_eq_false hx]; rfl)
                clear hx
                go_wp2
                go_quiet (fail)
                all_goals go_wp2
                go_roundw
                case rel => exact ⟨k + 1, by omega, by go_num, HK2, drawn_on HW.out _⟩
                case measure => simp [intOf]; omega
            · have hkk : ¬ (k : Int) < (i : Int) := by omega
              obtain rfl : k = i := by omega
              have HI2 : Hid (∀ i', i' < k + 1 → ∀ j, j < i' → fiP cs ds i' j = true) := upto_step (P := fun i' => ∀ j, j < i' → fiP cs ds i' j = true) HI.out HK.out
              have HW := Lib.hid hw
              clear hw
              go_wp2
              go_roundw
              case rel => exact ⟨k + 1, by omega, by go_num, HI2, _, HW.out⟩
              case measure => simp [intOf]; omega
        · have hii : ¬ (i : Int) < (m' : Int) := by omega
          obtain rfl : i = m' := by omega
          have HT : Hid (fiB zs cs ds = true) := by show _ = _; rw [HFD.out]; exact dbB_iff.2 HI.out
          have hBq := below_drewN hB2.out q
          rw [← hw] at hBq
          clear hw
          go_wp2
          go_ret
          exact ⟨by rw [HT.out]; try rfl, hBq⟩
end

/-! spec.CongruenceSplits, CongruenceKernel. -/
section
open Go.RowKit

set_option maxHeartbeats 2000000 in
theorem specCgSplits_any (A C : Option Addr) (n c m d : Nat) (zs : List (List Int)) (cs : List Int) (w : World) (h : RSS w A n zs) (h' : RI w C m cs) (hn : n ≤ 1048576) (hl : ∀ L ∈ zs, L.length ≤ 1048576) (hm : m ≤ 1048576) :
    Calls Tryz.prog 34 #[.slice A n c, .slice C m d] w fun e w' => e = .returned (.bool (spB zs cs)) ∧ Below w.heap.size w w' := by
  have hcg := specCgIn_any A C n c m d zs cs w h h' hn hl hm
  cases hC : cgB zs cs
  · have HF : Hid (spB zs cs = false) := by show _ = _; unfold spB; rw [hC]; rfl
    rw [hC] at hcg
    clear h h' hl hC
    go_enter Tryz.func34, Tryz.ntmps34
    go_wp2_with fail
    refine hcg.mono ?_
    rintro e w1 ⟨rfl, hb⟩
    go_wp2
    go_ret
    exact ⟨by rw [HF.out]; try rfl, hb⟩
  · have HL := Lib.hid h.len
    have HR := Lib.hid h
    have HR' := Lib.hid h'
    have S := sgS_iff.1 (cgB_iff.1 hC).sg
    have HCH := Lib.hid S.ch
    have HFD : Hid (spB zs cs = dbB n (spP zs cs)) := by show _ = _; unfold spB; rw [hC, h.len]; rfl
    obtain rfl : m = n := by rw [← h.len, ← h'.len]; exact (cgB_iff.1 hC).len
    rw [hC] at hcg
    clear h h' hl hC S
    go_enter Tryz.func34, Tryz.ntmps34
    go_wp2_with fail
    refine hcg.mono ?_
    rintro e w1 ⟨rfl, hb⟩
    have hB2 := Lib.hid hb
    clear hcg hb
    go_wp2
    go_loopw [5] (fun s wr => ∃ i : Nat, i ≤ m ∧ s = .int .i64 (i : Int) ∧ Hid (∀ i', i' < i → ∀ k, k < i' → spP zs cs i' k = true) ∧ ∃ q, wr = w1.drewN q) (fun s _ => m - (intOf s).toNat)
    case atStart => exact ⟨0, Nat.zero_le _, rfl, Lib.hid (fun j hj => absurd hj (Nat.not_lt_zero _)), 0, rfl⟩
    case round =>
      obtain ⟨i, him, rfl, HI, q, hw⟩ := hrel
      by_cases hlt : i < m
      · have hii : (i : Int) < (m : Int) := by omega
        have HW := Lib.hid hw
        clear hw
        go_wp2
        go_loopw [6] (fun s wq => ∃ k : Nat, k ≤ i ∧ s = .int .i64 (k : Int) ∧ Hid (∀ k', k' < k → spP zs cs i k' = true) ∧ ∃ q, wq = w1.drewN q) (fun s _ => i - (intOf s).toNat)
        case atStart => exact ⟨0, Nat.zero_le _, rfl, Lib.hid (fun j hj => absurd hj (Nat.not_lt_zero _)), _, HW.out⟩
        case round =>
          clear HW q
          obtain ⟨k, hk1, rfl, HK, q, hw⟩ := hrel
          by_cases hki : k < i
          · have hkk : (k : Int) < (i : Int) := by omega
            have hkm : (k : Int) < (m : Int) := by omega
            have hil : i < zs.length := by have := HL.out; omega
            have hkl : k < zs.length := by have := HL.out; omega
            have hBq := below_drewN hB2.out q
            rw [← hw] at hBq
            obtain ⟨ac, rfl, _, a1⟩ := (HR'.out.below hBq).at_ hlt
            obtain ⟨ac', e1, _, a2⟩ := (HR'.out.below hBq).at_ (show k < m by omega)
            obtain rfl := Option.some.inj e1
            have hR := HR.out.below hBq
            obtain ⟨ad, Ai, ci, rfl, _, hci, hri⟩ := hR.at_ hlt
            obtain ⟨ad', Ak, ck, he, _, hck, hrk⟩ := hR.at_ (show k < m by omega)
            obtain rfl := Option.some.inj he
            have z1 := HCH.out _ (ent_mem hil)
            have z2 := HCH.out _ (ent_mem hkl)
            rw [show zs[i]?.getD [] = ent zs i from rfl, z1.2] at hci hri
            rw [show zs[k]?.getD [] = ent zs k from rfl, z2.2] at hck hrk
            have HC0 : Hid (∀ j, Calls Tryz.prog 79 #[.slice Ai (ent zs 0).length ci] (wr.drewN j) fun e w' => e = .returned (.bool (idB (ent zs i))) ∧ ∃ m, w' = wr.drewN m) := fun j => (l1Idem_c _ _ _ _ _ (hri.drawn j) z1.1).mono fun e w' h => ⟨h.1, by obtain ⟨q, hq⟩ := h.2; exact ⟨j + q, by rw [hq]; exact World.drewN_drewN _ _ _⟩⟩
            have HC2 : Hid (∀ j, Calls Tryz.prog 79 #[.slice Ak (ent zs 0).length ck] (wr.drewN j) fun e w' => e = .returned (.bool (idB (ent zs k))) ∧ ∃ m, w' = wr.drewN m) := fun j => (l1Idem_c _ _ _ _ _ (hrk.drawn j) z2.1).mono fun e w' h => ⟨h.1, by obtain ⟨q, hq⟩ := h.2; exact ⟨j + q, by rw [hq]; exact World.drewN_drewN _ _ _⟩⟩
            have HP : Hid (spP zs cs i k = !(decide (cs[i]?.getD 0 = cs[k]?.getD 0) && idB (ent zs i) && idB (ent zs k))) := rfl
            have HNO : Hid (spP zs cs i k = false → spB zs cs = false) := fun hf => by rw [HFD.out]; exact dbB_no hlt hki hf
            have HST : Hid (spP zs cs i k = true → ∀ k', k' < k + 1 → spP zs cs i k' = true) := fun hp => upto_step HK.out hp
            have HW := Lib.hid hw
            have HBQ := Lib.hid hBq
            clear hw hBq e1 he z1 z2 hri hrk hR
            generalize (ent zs 0).length = l0 at *
            generalize cs[i]?.getD 0 = x1 at *
            generalize cs[k]?.getD 0 = x2 at *
            generalize idB (ent zs i) = r0 at *
            generalize idB (ent zs k) = r2 at *
            by_cases hx : x1 = x2
            · have c1 : ((x1 : Int) == x2) = true := by simp [hx]
              rw [decide_eq_true hx] at HP
              clear hx
              cases r0
              · have HK2 := Lib.hid (HST.out (by rw [HP.out]; rfl))
                go_wp2
                go_quiet (with_reducible first | exact HC0.out _ | exact HC2.out _)
                all_goals go_wp2
                all_goals go_roundw
                case rel => exact ⟨k + 1, by omega, by go_num, HK2, drawn_on HW.out _⟩
                case measure => simp [intOf]; omega
              · cases r2
                · have HK2 := Lib.hid (HST.out (by rw [HP.out]; rfl))
                  go_wp2
                  go_quiet (with_reducible first | exact HC0.out _ | exact HC2.out _)
                  all_goals go_wp2
                  all_goals go_roundw
                  case rel => exact ⟨k + 1, by omega, by go_num, HK2, drawn_on HW.out _⟩
                  case measure => simp [intOf]; omega
                · have HF := Lib.hid (HNO.out (by rw [HP.out]; rfl))
                  go_wp2
                  go_quiet (with_reducible first | exact HC0.out _ | exact HC2.out _)
                  all_goals go_wp2
                  all_goals go_ret
                  all_goals exact ⟨by rw [HF.out]; try rfl, below_drewN HBQ.out _⟩
            · have c1 : ((x1 : Int) == x2) = false := by simp [hx]
              have HK2 := Lib.hid (HST.out (by rw [HP.out, decide_eq_false hx]; rfl))
              clear hx
              go_wp2
              go_quiet (with_reducible first | exact HC0.out _ | exact HC2.out _)
              all_goals go_wp2
              all_goals go_roundw
              case rel => exact ⟨k + 1, by omega, by go_num, HK2, drawn_on HW.out _⟩
              case measure => simp [intOf]; omega
          · have hkk : ¬ (k : Int) < (i : Int) := by omega
            obtain rfl : k = i := by omega
            have HI2 : Hid (∀ i', i' < k + 1 → ∀ j, j < i' → spP zs cs i' j = true) := upto_step (P := fun i' => ∀ j, j < i' → spP zs cs i' j = true) HI.out HK.out
            have HW := Lib.hid hw
            clear hw
            go_wp2
            go_roundw
            case rel => exact ⟨k + 1, by omega, by go_num, HI2, _, HW.out⟩
            case measure => simp [intOf]; omega
      · have hii : ¬ (i : Int) < (m : Int) := by omega
        obtain rfl : i = m := by omega
        have HT : Hid (spB zs cs = true) := by show _ = _; rw [HFD.out]; exact dbB_iff.2 HI.out
        have hBq := below_drewN hB2.out q
        rw [← hw] at hBq
        clear hw
        go_wp2
        go_ret
        exact ⟨by rw [HT.out]; try rfl, hBq⟩

/-! ### kernels -/
def mkB (zs : List (List Int)) (cs : List Int) (i : Nat) (x : Int) : Bool := (List.range i).any (fun j => idB (ent zs j) && decide (ofL cs j = x))
theorem mkB_succ (zs : List (List Int)) (cs : List Int) (i : Nat) (x : Int) : mkB zs cs (i + 1) x = (mkB zs cs i x || (idB (ent zs i) && decide (ofL cs i = x))) := by
  unfold mkB; rw [List.range_succ, List.any_append]; simp
def mkRow (zs : List (List Int)) (cs : List Int) (n i : Nat) : List Value := bvs ((List.range n).map (fun x : Nat => mkB zs cs i (x : Int)))
theorem mkRow_len (zs : List (List Int)) (cs : List Int) (n i : Nat) : (mkRow zs cs n i).length = n := by unfold mkRow bvs; simp
theorem mkRow_get (zs : List (List Int)) (cs : List Int) {n i x : Nat} (hx : x < n) : (mkRow zs cs n i)[x]? = some (.bool (mkB zs cs i (x : Int))) := by unfold mkRow bvs; simp [hx]
theorem mkRow_no {zs : List (List Int)} {cs : List Int} {n i : Nat} (h : idB (ent zs i) = false) : mkRow zs cs n (i + 1) = mkRow zs cs n i := by
  unfold mkRow
  congr 1
  refine List.map_congr_left (fun x _ => ?_)
  rw [mkB_succ, h]; simp
theorem mkRow_yes {zs : List (List Int)} {cs : List Int} {n i x : Nat} (h : idB (ent zs i) = true) (hx : ofL cs i = (x : Int)) (hxn : x < n) : (mkRow zs cs n i).set x (.bool true) = mkRow zs cs n (i + 1) := by
  apply List.ext_getElem?
  intro y
  by_cases hy : y < n
  · rw [mkRow_get _ _ hy, mkB_succ, h, hx, Bool.true_and, List.getElem?_set, mkRow_len]
    by_cases e : x = y
    · subst e; simp [hxn]
    · rw [if_neg e, mkRow_get _ _ hy]
      have : ¬ ((x : Int) = (y : Int)) := by omega
      simp [this]
  · rw [List.getElem?_eq_none (by rw [List.length_set, mkRow_len]; omega), List.getElem?_eq_none (by rw [mkRow_len]; omega)]
theorem mkRow_zero (zs : List (List Int)) (cs : List Int) (n : Nat) : mkRow zs cs n 0 = List.replicate n (.bool false) := by
  unfold mkRow bvs mkB
  simp [List.map_const']
/-- the charts that are equal to one that moves no point to another one -/
def krP (zs : List (List Int)) (cs : List Int) (L : List Int) : Bool := mkB zs cs zs.length (kC zs cs L)
def krL (zs : List (List Int)) (cs : List Int) : List (List Int) := if cgB zs cs = true then zs.filter (krP zs cs) else []
theorem krP_at {zs : List (List Int)} {cs : List Int} (hs : Srt zs) {i : Nat} (hi : i < zs.length) : krP zs cs (ent zs i) = mkB zs cs zs.length (ofL cs i) := by unfold krP kC; rw [ixP_at hs hi]
theorem map_snocB {zs : List (List Int)} {i : Nat} (p : List Int → Bool) (hi : i < zs.length) : (zs.take (i + 1)).map p = (zs.take i).map p ++ [p (ent zs i)] := by
  rw [List.take_succ_eq_append_getElem hi, List.map_append]
  have : ent zs i = zs[i] := by unfold ent; rw [List.getElem?_eq_getElem hi]; rfl
  rw [this]; rfl

set_option maxHeartbeats 2000000 in
theorem specCgKernel_any (A C : Option Addr) (n c m d : Nat) (zs : List (List Int)) (cs : List Int) (w : World) (h : RSS w A n zs) (h' : RI w C m cs) (hn : n ≤ 1048576) (hl : ∀ L ∈ zs, L.length ≤ 1048576) (hm : m ≤ 1048576) :
    Calls Tryz.prog 36 #[.slice A n c, .slice C m d] w fun e w' => ∃ v, e = .returned (.tuple #[v, .bool (cgB zs cs)]) ∧ OSS w' w.heap.size w'.heap.size v (krL zs cs) ∧ Below w.heap.size w w' := by
  have hcg := specCgIn_any A C n c m d zs cs w h h' hn hl hm
  cases hC : cgB zs cs
  · have HF : Hid (krL zs cs = []) := by show _ = _; unfold krL; rw [hC]; rfl
    rw [hC] at hcg
    clear h h' hl hC
    go_enter Tryz.func36, Tryz.ntmps36
    go_wp2_with fail
    refine hcg.mono ?_
    rintro e w1 ⟨rfl, hb⟩
    have hL0 : (w1.alloc (.cells #[] 24)).ownsRow w.heap.size 24 1 (.slice (some ⟨w1.heap.size, 0, none⟩) 0 0) 0 [] := World.ownsRow_lit (base := w.heap.size) (e := 24) (size := 1) w1 #[] 0 hb.size (by simp [maxLen]) rfl
    have hB := hb.alloc hb.size (.cells #[] 24)
    go_wp2
    go_ret2
    exact ⟨_, by try rfl, by rw [HF.out]; exact OV.oss ⟨hL0, Inn.nil⟩, hB⟩
  · have HL := Lib.hid h.len
    have HR := Lib.hid h
    have HR' := Lib.hid h'
    have S := sgS_iff.1 (cgB_iff.1 hC).sg
    have HCH := Lib.hid S.ch
    have HKA := Lib.hid (fun (i : Nat) (hi : i < zs.length) => krP_at (cs := cs) S.srt hi)
    have HV := Lib.hid (fun (i : Nat) (hi : i < zs.length) => cg_val hC hi)
    have HFK : Hid (krL zs cs = zs.filter (krP zs cs)) := by show _ = _; unfold krL; rw [hC]; rfl
    obtain rfl : m = n := by rw [← h.len, ← h'.len]; exact (cgB_iff.1 hC).len
    have h0 : 0 < m := by rw [← h.len]; exact S.one
    have hm4 : m ≤ 400 := by rw [← h.len]; exact S.most
    rw [hC] at hcg
    obtain ⟨i0, hi, hz0, hz1, hz2⟩ := info_parts info_bool
    have hb8 : i0.bytes * m ≤ 281474976710656 := by rw [hz2]; omega
    have hmx : m ≤ maxLen := by unfold maxLen; omega
    clear h h' hl hC S
    go_enter Tryz.func36, Tryz.ntmps36
    go_wp2_with fail
    refine hcg.mono ?_
    rintro e w1 ⟨rfl, hb⟩
    have hs1 := hb.size
    clear hcg
    go_wp2_with (at_make; refine wpList_make_full _ rfl _ _ _ rfl w1.heap.size 4 i0 _ 1 Tryz.underlying94 hi hz0 hz1 _ _ _ _ m rfl rfl rfl rfl hb8 hmx (Nat.le_refl _) ?_; intro w2 hown hg)
    have hB2 : Below w.heap.size w w2 := hb.grown hg hs1 (fun k e => by cases e)
    have hr0 : w2.ownsRow w1.heap.size 4 1 (.slice (some ⟨w1.heap.size, 0, none⟩) m m) m (mkRow zs cs m 0) := by
      have e : (madeCells (Value.bool false).cells (m * 1)).toList = mkRow zs cs m 0 := by
        show (madeCells #[Value.bool false] (m * 1)).toList = _
        rw [toList_madeCells_one, mkRow_zero, Nat.mul_one]
      rw [← e]; exact hown
    clear hown hg hb8 hb
    generalize w1.heap.size = G at *
    go_loopw [7] (fun s wr => ∃ i : Nat, i ≤ m ∧ s = .int .i64 (i : Int) ∧ wr.ownsRow G 4 1 (.slice (some ⟨G, 0, none⟩) m m) m (mkRow zs cs m i) ∧ Below w.heap.size w wr) (fun s _ => m - (intOf s).toNat)
    case atStart => exact ⟨0, Nat.zero_le _, rfl, hr0, hB2⟩
    case round =>
      clear hr0 hB2
      obtain ⟨i, him, rfl, hrow, hB⟩ := hrel
      by_cases hlt : i < m
      · have hii : (i : Int) < (m : Int) := by omega
        have hil : i < zs.length := by have := HL.out; omega
        obtain ⟨ac, rfl, _, a1⟩ := (HR'.out.below hB).at_ hlt
        obtain ⟨ad, Ai, ci, rfl, _, hci, hri⟩ := (HR.out.below hB).at_ hlt
        have z1 := HCH.out _ (ent_mem hil)
        rw [show zs[i]?.getD [] = ent zs i from rfl, z1.2] at hci hri
        rw [show cs[i]?.getD 0 = ofL cs i from rfl, HV.out i hil] at a1
        have hxm : nuE (ofL cs) i < m := by have := nu_lt (ofL cs) (show i < i + 1 by omega); have := frC_le (ofL cs) (i + 1); omega
        have HID := Lib.hid (l1Idem_c Ai _ ci (ent zs i) wr hri z1.1)
        have HNO := Lib.hid (mkRow_no (zs := zs) (cs := cs) (n := m) (i := i))
        have HYE : Hid (∀ x : Nat, x = nuE (ofL cs) i → idB (ent zs i) = true → (mkRow zs cs m i).set x (.bool true) = mkRow zs cs m (i + 1)) := fun x hx hid => mkRow_yes hid (by rw [HV.out i hil, hx]) (by omega)
        have hxi : ((nuE (ofL cs) i : Nat) : Int) < (m : Int) := by omega
        have hcell := hrow.cellAt (nuE (ofL cs) i) (by omega)
        rw [mkRow_get _ _ hxm] at hcell
        have hfz := hrow.frozenAt (nuE (ofL cs) i)
        have hst := hrow.stored (nuE (ofL cs) i) (.bool true)
        have HST := Lib.hid hst.1
        have HBS := Lib.hid (hB.setCell (p := ⟨G, nuE (ofL cs) i, none⟩) hs1 (.bool true))
        have HYY := Lib.hid (HYE.out _ rfl)
        clear hri z1 hst HYE
        generalize nuE (ofL cs) i = x at *
        generalize (ent zs 0).length = l0 at *
        generalize idB (ent zs i) = r at *
        generalize mkB zs cs i (x : Int) = ob at *
        go_wp2_with fail
        refine HID.out.mono ?_
        rintro e w3 ⟨rfl, q3, rfl⟩
        cases r
        · have hrow2 := own_below hrow (below_drewN (Below.refl _ _) q3)
          have hB3 := below_drewN hB q3
          have HN := Lib.hid (HNO.out rfl)
          go_wp2
          go_roundw
          case rel => exact ⟨i + 1, by omega, by go_num, by rw [HN.out]; exact hrow2, hB3⟩
          case measure => simp [intOf]; omega
        · have HY := Lib.hid (HYY.out rfl)
          have hrow2 := own_below hrow (below_drewN (Below.refl _ _) q3)
          have hB3 := below_drewN hB q3
          have hst := (hrow2.stored x (.bool true)).1
          rw [HY.out] at hst
          have HST2 := Lib.hid hst
          have HB2 := Lib.hid (hB3.setCell (p := ⟨G, x, none⟩) hs1 (.bool true))
          have hfz2 : (wr.drewN q3).frozen? ⟨G, x, none⟩ = false := hfz
          have hcell2 : (wr.drewN q3).cell? ⟨G, x, none⟩ = some (.bool ob) := hcell
          have a12 : (wr.drewN q3).cell? (ac.add i) = some (.int .i64 (x : Int)) := a1
          clear hst HBS HST hfz hcell
          go_wp2
          go_roundw
          case rel => exact ⟨i + 1, by omega, by go_num, HST2.out, HB2.out⟩
          case measure => simp [intOf]; omega
      · have hii : ¬ (i : Int) < (m : Int) := by omega
        obtain rfl : i = m := by omega
        have hG : G < wr.heap.size := (hrow.lt G rfl).2
        have hbx := hB.alloc hB.size (.cells #[] 4)
        have hbo : (wr.alloc (.cells #[] 4)).ownsRow wr.heap.size 4 1 (.slice (some ⟨wr.heap.size, 0, none⟩) 0 0) 0 (bvs ((zs.take 0).map (krP zs cs))) := World.ownsRow_lit (base := wr.heap.size) (e := 4) (size := 1) wr #[] 0 (Nat.le_refl _) (by simp [maxLen]) rfl
        have hrow1 := hrow.alloc (.cells #[] 4)
        have hGW := hB.size
        have hsz0 : wr.heap.size ≤ (wr.alloc (.cells #[] 4)).heap.size := by simp
        clear hrow hB
        go_wp2
        generalize wr.heap.size = G2 at *
        go_loopw [8, 9] (fun v s wq => ∃ k : Nat, k ≤ i ∧ s = .int .i64 (k : Int) ∧ wq.ownsRow G2 4 1 v k (bvs ((zs.take k).map (krP zs cs))) ∧ wq.ownsRow G 4 1 (.slice (some ⟨G, 0, none⟩) i i) i (mkRow zs cs i i) ∧ Below w.heap.size w wq ∧ G2 ≤ wq.heap.size) (fun _ s _ => i - (intOf s).toNat)
        case atStart => exact ⟨0, Nat.zero_le _, rfl, hbo, hrow1, hbx, hsz0⟩
        case round =>
          clear hbo hrow1 hbx hsz0
          obtain ⟨k, hki, rfl, hbo, hrow, hB, hsz⟩ := hrel
          by_cases hkl : k < i
          · have hkk : (k : Int) < (i : Int) := by omega
            have hkz : k < zs.length := by have := HL.out; omega
            obtain ⟨ac, rfl, _, a1⟩ := (HR'.out.below hB).at_ hkl
            rw [show cs[k]?.getD 0 = ofL cs k from rfl, HV.out k hkz] at a1
            have hxm : nuE (ofL cs) k < i := by have := nu_lt (ofL cs) (show k < k + 1 by omega); have := frC_le (ofL cs) (k + 1); omega
            have hcell := hrow.cellAt (nuE (ofL cs) k) (by omega)
            have HP : Hid (mkB zs cs i (nuE (ofL cs) k : Nat) = krP zs cs (ent zs k)) := by show _ = _; rw [HKA.out k hkz, HL.out, HV.out k hkz]
            rw [mkRow_get _ _ hxm, HP.out] at hcell
            have hxi : ((nuE (ofL cs) k : Nat) : Int) < (i : Int) := by omega
            have HSN : Hid (bvs ((zs.take k).map (krP zs cs)) ++ [.bool (krP zs cs (ent zs k))] = bvs ((zs.take (k + 1)).map (krP zs cs))) := by show _ = _; rw [map_snocB _ hkz]; simp [bvs]
            clear HP
            generalize nuE (ofL cs) k = x at *
            generalize krP zs cs (ent zs k) = b at *
            have h1 : k + 1 ≤ maxLen := by unfold maxLen; omega
            have h2 : (k + 1) * 1 ≤ 140737488355328 := by omega
            have h3 : ∀ o : Obj, G2 ≤ (wr.alloc o).heap.size := fun o => by simp; omega
            go_wp2_with (at_builtin; refine wpList_append_own _ rfl _ _ 94 rfl G2 4 i0 (.bool false) 1 1 Tryz.underlying94 hi hz0 hz1 hz2 rfl (by decide) _ _ _ rfl (hbo.alloc _) ⟨wr.heap.size, 0, none⟩ 1 1 [.bool b] rfl rfl (cell_one_new _ _ _) (by simp [Value.oneCell']) h1 h2 (h3 _) ?_; intro v' w5 hown' hgrow _)
            rw [HSN.out] at hown'
            have hrow2 := (hrow.alloc (.cells #[.bool b] 4)).kept hgrow (.inr (fun e => by have := (hbo.lt G e.symm).1; omega))
            have hB2 := (hB.alloc hB.size (.cells #[.bool b] 4)).grown hgrow (by have := hB.size; simp; omega) (fun g e => by have := (hbo.lt g e).1; omega)
            have hsz2 : G2 ≤ w5.heap.size := by have := hgrow.size; have := h3 (.cells #[.bool b] 4); omega
            clear hbo hrow hB hgrow hcell h3
            go_roundw
            case rel => exact ⟨k + 1, by omega, by go_num, hown', hrow2, hB2, hsz2⟩
            case measure => simp [intOf]; omega
          · have hkk : ¬ (k : Int) < (i : Int) := by omega
            obtain rfl : k = i := by omega
            obtain ⟨g, cp, rfl, _, _⟩ := hbo.form (by omega)
            rw [List.take_of_length_le (by have := HL.out; omega)] at hbo
            have HKP := Lib.hid (l3Keep_any A k c g cp G2 zs (krP zs cs) wr (HR.out.below hB) (by omega) (fun L hL => (HCH.out L hL).1) hbo)
            rw [← HFK.out] at HKP
            clear hbo hrow
            go_wp2_with fail
            refine HKP.out.mono ?_
            rintro e w6 ⟨v, rfl, hO, hb6⟩
            have hOO := hO.more hB.size (Nat.le_refl _)
            have hB6 := hB.trans (hb6.mono hB.size)
            clear HKP hO hb6
            go_wp2
            go_ret2
            exact ⟨_, by try rfl, hOO, hB6⟩
end

/-! impl.congruenceOf at class numbers; (impl.congruence[int]).agrees. -/
section
open Go.RowKit Go.Maps

set_option maxHeartbeats 2000000 in
theorem cgOfI_any (b m n gf : Nat) (ca cb : Array Value) (zs : List (List Int)) (hn : zs.length = n) (hn6 : n ≤ 1048576) (hz : ∀ L ∈ zs, isC L = true ∧ L.length = m) (hs : Srt zs) (f : List Int → Int) (w : World)
    (eg : ∀ args w, (callFunc gf args).run Tryz.prog w = .ok (.enter gf args) w)
    (hp : ∀ L ∈ zs, ∀ W, Below w.heap.size w W → Calls Tryz.prog gf (ca ++ #[.agg #[.int .i64 ((m : Int)), .int .i64 (ofL L 0), .int .i64 (ofL L 1), .int .i64 (ofL L 2), .int .i64 (ofL L 3), .int .i64 (ofL L 4), .int .i64 (ofL L 5)]] ++ cb) W fun e W' => e = .returned (.int .i64 (f L)) ∧ Below W.heap.size W W')
    (hown : w.ownsMap Tryz.prog 58 (plainElem (H := Unit) Tryz.prog 3) b n (mapP klL zs n)) :
    Calls Tryz.prog 85 #[.map (some b), .func (.func gf) ca cb] w fun e w' => ∃ C c q, e = .returned (.agg #[.map (some b), .slice C n c, .map (some q)]) ∧ w.heap.size ≤ q ∧ KgI w' b q n C zs (zs.map f) ∧ (∀ ad, C = some ad → w.heap.size ≤ ad.block) ∧ Below w.heap.size w w' := by
  obtain ⟨i0, hi, hi0, hi1, hi2⟩ := info_parts info_int
  have hbl := hown.lt
  have hB0 := (Below.refl _ w).alloc (Nat.le_refl _) (.cells #[.map none, .slice none 0 0, .map none] 51)
  have hs0 : w.heap.size + 1 = (w.alloc (.cells #[.map none, .slice none 0 0, .map none] 51)).heap.size := by simp
  have HBX := Lib.hid (Blk.new w 51 #[.map none, .slice none 0 0, .map none])
  have hown0 := hown.alloc (.cells #[.map none, .slice none 0 0, .map none] 51)
  have HN := Lib.hid hn
  have HP := Lib.hid hp
  clear hn hp hown
  have hmm := @ run_makeMap Tryz.prog
  go_enter Tryz.func85, Tryz.ntmps85
  go_wp2_with fail
  generalize w.alloc (.cells #[.map none, .slice none 0 0, .map none] 51) = W0 at *
  have hch := charts_any b m n zs HN.out hn6 hz hs W0 hown0
  have HS0 := Lib.hid hs0
  have HOW := Lib.hid (fun (W : World) (hW : Below W0.heap.size W0 W) => ownsMap_same hown0 (hW.block b hown0.lt))
  have HB0 := Lib.hid hB0
  have HBW : Hid (∀ W, Below W0.heap.size W0 W → Below w.heap.size w W) := fun W hW => HB0.out.trans (hW.mono HB0.out.size)
  clear hs hown0 hs0 hB0
  refine hch.mono ?_
  rintro e w1 ⟨G, rfl, hrow, hb1⟩
  have hC1 : Chs w1 G m zs := Chs.of_own (by rw [HN.out]; exact hrow)
  have hG := (hrow.lt G rfl).2
  have HG1 : Hid (G < w1.heap.size) := hG
  have hs01 := hb1.size
  clear hch hrow
  go_wp2
  go_loopw [5, 7, 11] (fun v _ i wr => ∃ k : Nat, k ≤ n ∧ i = .int .i64 (k : Int) ∧ wr.ownsRow w1.heap.size 3 1 v k (ivs ((zs.take k).map f)) ∧ Chs wr G m zs ∧ G < wr.heap.size ∧ Below W0.heap.size W0 wr ∧ w1.heap.size ≤ wr.heap.size) (fun _ _ i _ => n - (intOf i).toNat)
  case atStart => exact ⟨0, Nat.zero_le _, rfl, World.ownsRow_nil _ _ _ _, hC1, hG, hb1, Nat.le_refl _⟩
  case round =>
    clear hC1 hG
    obtain ⟨k, hk, rfl, hown, hC, hG, hB, hs1⟩ := hrel
    by_cases hlt : k < n
    · have hkl : k < zs.length := by have := HN.out; omega
      obtain ⟨L, hL⟩ : ∃ L, zs[k]? = some L := ⟨_, List.getElem?_eq_getElem hkl⟩
      obtain ⟨c0, c1, c2, c3, c4, c5, c6⟩ := hC.all hL
      have hB1 := hB.alloc hB.size (.cells #[.int .i64 ((m : Int)), .int .i64 (ofL L 0), .int .i64 (ofL L 1), .int .i64 (ofL L 2), .int .i64 (ofL L 3), .int .i64 (ofL L 4), .int .i64 (ofL L 5)] 58)
      have hcall := HP.out L (List.mem_of_getElem? hL) (wr.alloc (.cells #[.int .i64 ((m : Int)), .int .i64 (ofL L 0), .int .i64 (ofL L 1), .int .i64 (ofL L 2), .int .i64 (ofL L 3), .int .i64 (ofL L 4), .int .i64 (ofL L 5)] 58)) (HBW.out _ hB1)
      have hown1 := hown.alloc (.cells #[.int .i64 ((m : Int)), .int .i64 (ofL L 0), .int .i64 (ofL L 1), .int .i64 (ofL L 2), .int .i64 (ofL L 3), .int .i64 (ofL L 4), .int .i64 (ofL L 5)] 58)
      have hC2 := hC.same (Below.heap_alloc wr (.cells #[.int .i64 ((m : Int)), .int .i64 (ofL L 0), .int .i64 (ofL L 1), .int .i64 (ofL L 2), .int .i64 (ofL L 3), .int .i64 (ofL L 4), .int .i64 (ofL L 5)] 58) G hG)
      have hG2 : G < (wr.alloc (.cells #[.int .i64 ((m : Int)), .int .i64 (ofL L 0), .int .i64 (ofL L 1), .int .i64 (ofL L 2), .int .i64 (ofL L 3), .int .i64 (ofL L 4), .int .i64 (ofL L 5)] 58)).heap.size := by simp; omega
      have hs2 : w1.heap.size ≤ (wr.alloc (.cells #[.int .i64 ((m : Int)), .int .i64 (ofL L 0), .int .i64 (ofL L 1), .int .i64 (ofL L 2), .int .i64 (ofL L 3), .int .i64 (ofL L 4), .int .i64 (ofL L 5)] 58)).heap.size := by simp; omega
      have HST : Hid (ivs ((zs.take k).map f) ++ [.int .i64 (f L)] = ivs ((zs.take (k + 1)).map f)) := by
        show _ = _
        have hg := List.getElem?_eq_some_iff.1 hL
        rw [List.take_succ_eq_append_getElem hg.1, hg.2]; simp [ivs]
      clear hown hC hL
      generalize f L = fl at *
      go_wp2_with fail
      refine hcall.mono ?_
      rintro e w2 ⟨rfl, hb2⟩
      have hown2 := own_below hown1 hb2
      have hC3 := hC2.same (hb2.block G hG2)
      have hG3 : G < w2.heap.size := by have := hb2.size; omega
      have hs3 : w1.heap.size ≤ w2.heap.size := by have := hb2.size; omega
      have hB2 := hB1.trans (hb2.mono hB1.size)
      have p1 : k + 1 ≤ maxLen := by unfold maxLen; omega
      have p2 : (k + 1) * 8 ≤ 140737488355328 := by omega
      have p3 : w1.heap.size ≤ (w2.alloc (.cells #[.int .i64 fl] 3)).heap.size := by simp; omega
      have hrow2 := hown2.alloc (.cells #[.int .i64 fl] 3)
      have hbg := Below.heap_alloc w2 (.cells #[.int .i64 fl] 3) G hG3
      have hB3 := hB2.alloc hB2.size (.cells #[.int .i64 fl] 3)
      clear hown1 hC2 hG2 hs2 hb2 hB1 hcall hown2
      go_wp2_with (at_builtin; refine wpList_append_own _ rfl _ _ 24 rfl w1.heap.size 3 i0 (.int .i64 0) 1 8 Tryz.underlying24 hi hi0 hi1 hi2 rfl (by decide) _ _ _ rfl hrow2 ⟨w2.heap.size, 0, none⟩ 1 1 [.int .i64 fl] rfl rfl (cell_one_new _ _ _) (by simp [Value.oneCell']) p1 p2 p3 ?_; intro v' w4 hown' hgrow _)
      rw [HST.out] at hown'
      have hC4 : Chs w4 G m zs := hC3.same ((hgrow.block G (by simp; omega) (fun e => by have := (hrow2.lt G e.symm).1; have := HG1.out; omega)).trans hbg)
      have hgs := hgrow.size
      have hB4 := hB3.grown hgrow (by have := hB2.size; simp; omega) (fun g e => by have := (hrow2.lt g e).1; omega)
      clear hrow2 hgrow hB3 hB2 hC3 hbg
      go_roundw
      case rel => exact ⟨k + 1, by omega, by go_num, hown', hC4, by simp at hgs; omega, hB4, by simp at hgs; omega⟩
      case measure => simp [intOf]; omega
    · obtain rfl : k = n := by omega
      have e : zs.take k = zs := List.take_of_length_le (by have := HN.out; omega)
      rw [e] at hown
      obtain ⟨C, c, rfl⟩ := own_slice hown
      have hbx := HBX.out.below hB (by have := HS0.out; omega)
      have r0 : wr.cell? ⟨w.heap.size, 0, none⟩ = some (.map none) := hbx.cell 0
      have r1 : wr.cell? ⟨w.heap.size, 1, none⟩ = some (.slice none 0 0) := hbx.cell 1
      have r2 : wr.cell? ⟨w.heap.size, 2, none⟩ = some (.map none) := hbx.cell 2
      have f0 := hbx.frozen 0
      have f1 := hbx.frozen 1
      have f2 := hbx.frozen 2
      have hlr := hbx.lt
      have hsem := HOW.out wr hB
      have hne : (Value.slice C k c).ownBlock ≠ some w.heap.size := own_blk_ne hown hbx (by decide)
      have hBf := HBW.out wr hB
      have hcls : (((wr.setCell ⟨w.heap.size, 0, none⟩ (.map (some b))).setCell ⟨w.heap.size, 1, none⟩ (.slice C k c)).setCell ⟨w.heap.size, 2, none⟩ (.map (some wr.heap.size))).ownsRow w1.heap.size 3 1 (.slice C k c) k (ivs (zs.map f)) :=
        ownsRow_setCell_other (ownsRow_setCell_other (ownsRow_setCell_other hown (a := ⟨w.heap.size, 0, none⟩) hne _) (a := ⟨w.heap.size, 1, none⟩) hne _) (a := ⟨w.heap.size, 2, none⟩) hne _
      have hse2 := ((hsem.setCell (a := ⟨w.heap.size, 0, none⟩) (show b ≠ w.heap.size by omega) (.map (some b))).setCell (a := ⟨w.heap.size, 1, none⟩) (show b ≠ w.heap.size by omega) (.slice C k c)).setCell (a := ⟨w.heap.size, 2, none⟩) (show b ≠ w.heap.size by omega) (.map (some wr.heap.size))
      have hBF := ((hBf.setCell (p := ⟨w.heap.size, 0, none⟩) (Nat.le_refl _) (.map (some b))).setCell (p := ⟨w.heap.size, 1, none⟩) (Nat.le_refl _) (.slice C k c)).setCell (p := ⟨w.heap.size, 2, none⟩) (Nat.le_refl _) (.map (some wr.heap.size))
      have hm0 := World.ownsMap_made (((wr.setCell ⟨w.heap.size, 0, none⟩ (.map (some b))).setCell ⟨w.heap.size, 1, none⟩ (.slice C k c)).setCell ⟨w.heap.size, 2, none⟩ (.map (some wr.heap.size))) Tryz.prog 3 (plainElem (H := Unit) Tryz.prog 3)
      have HLO : Hid (∀ ad, C = some ad → w.heap.size ≤ ad.block) := fun ad e => by
        subst e
        have := (hown.lt ad.block (by rfl)).1
        have := HS0.out
        omega
      have hszS : (((wr.setCell ⟨w.heap.size, 0, none⟩ (.map (some b))).setCell ⟨w.heap.size, 1, none⟩ (.slice C k c)).setCell ⟨w.heap.size, 2, none⟩ (.map (some wr.heap.size))).heap.size = wr.heap.size := by simp [World.setCell]
      rw [hszS] at hm0
      have HK : Hid (KgI ((((wr.setCell ⟨w.heap.size, 0, none⟩ (.map (some b))).setCell ⟨w.heap.size, 1, none⟩ (.slice C k c)).setCell ⟨w.heap.size, 2, none⟩ (.map (some wr.heap.size))).alloc (.map #[] 0)) b wr.heap.size k C zs (zs.map f)) :=
        ⟨hse2.alloc _, ⟨_, _, hm0⟩, RI.of_own (hcls.alloc _), by omega⟩
      have HBF := Lib.hid (hBF.alloc (by rw [hszS]; omega) (.map #[] 0))
      clear hown hm0 hsem hcls hBf hbx hne hse2 hBF hszS
      go_wp2
      exact bodyPost_ret (v := .agg #[.map (some b), .slice C k c, .map (some wr.heap.size)]) (by simp [results, Tryz.results85, go_sem, r0, r1, r2, hlr]) rfl ⟨_, _, _, rfl, by omega, HK.out, HLO.out, HBF.out⟩
end

/-! (impl.congruence[int]).agrees. -/
section
open Go.RowKit Go.Maps

/-- charts of one class have one number -/
def agB (zs : List (List Int)) (cl : List Int) (num : List Int → Int) : Bool := zs.all (fun L => zs.all (fun M => !decide (kC zs cl L = kC zs cl M) || decide (num L = num M)))
theorem agB_iff {zs : List (List Int)} {cl : List Int} {num : List Int → Int} : agB zs cl num = true ↔ ∀ L ∈ zs, ∀ M ∈ zs, kC zs cl L = kC zs cl M → num L = num M := by
  unfold agB
  simp only [List.all_eq_true, Bool.or_eq_true, Bool.not_eq_true', decide_eq_false_iff_not, decide_eq_true_eq]
  constructor
  · intro h L hL M hM e
    rcases h L hL M hM with h | h
    · exact absurd e h
    · exact h
  · intro h L hL M hM
    by_cases e : kC zs cl L = kC zs cl M
    · exact .inr (h L hL M hM e)
    · exact .inl e
theorem agB_no {zs : List (List Int)} {cl : List Int} {num : List Int → Int} {L M : List Int} (hL : L ∈ zs) (hM : M ∈ zs) (e : kC zs cl L = kC zs cl M) (hne : num L ≠ num M) : agB zs cl num = false := by
  cases h : agB zs cl num
  · rfl
  · exact absurd (agB_iff.1 h L hL M hM e) hne

/-- the marks of the charts that are done -/
structure AgD (zs : List (List Int)) (cl : List Int) (num : List Int → Int) (left : Lit → Bool) (D : DataW Unit) : Prop where
  old : ∀ x, Maps.has D x = true → ∃ L, L ∈ zs ∧ left (klL L) = false ∧ kfI (kC zs cl L) = x
  at_ : ∀ L ∈ zs, left (klL L) = false → Maps.has D (kfI (kC zs cl L)) = true ∧ D.atKey (kfI (kC zs cl L)) (.lit (.int .i64 0)) = .lit (.int .i64 (num L))
theorem AgD.step {zs : List (List Int)} {cl : List Int} {num : List Int → Int} {left : Lit → Bool} {D : DataW Unit} (h : AgD zs cl num left D) (ht : Maps.Tidy D) (hz : ∀ L ∈ zs, isC L = true) {L : List Int} (hL : L ∈ zs) {z : Int} (hv : mrkV D (kfI (kC zs cl L)) (num L) z) :
    (z = num L → AgD zs cl num (fun x => left x && !x.sameKey (klL L)) (mrk D (kfI (kC zs cl L)) (num L))) ∧ (z ≠ num L → agB zs cl num = false) := by
  have hnew := mrk_new ht (kfI_key _) hv
  constructor
  · intro e
    subst e
    constructor
    · intro x hx
      rcases (mrk_has ht (kfI_key _) _ _).1 hx with h1 | h1
      · obtain ⟨M, hM, hl, e⟩ := h.old x h1
        exact ⟨M, hM, by rw [hl]; rfl, e⟩
      · refine ⟨L, hL, ?_, h1.symm⟩
        rw [sameKey_self (klL_key L)]; simp
    · intro M hM hl
      by_cases hlm : left (klL M) = false
      · obtain ⟨h1, h2⟩ := h.at_ M hM hlm
        exact ⟨(mrk_has ht (kfI_key _) _ _).2 (.inl h1), by rw [mrk_old _ h1]; exact h2⟩
      · have hlm : left (klL M) = true := by cases e : left (klL M) <;> simp_all
        rw [hlm, Bool.true_and] at hl
        have hsk : (klL M).sameKey (klL L) = true := by cases e : (klL M).sameKey (klL L) <;> simp_all
        have := klL_inj M L (hz M hM) (hz L hL) (same_key hsk)
        subst this
        exact ⟨(mrk_has ht (kfI_key _) _ _).2 (.inr rfl), hnew⟩
  · intro hne
    cases hh : Maps.has D (kfI (kC zs cl L)) with
    | false => exact absurd (hv.2 hh) hne
    | true =>
      obtain ⟨M, hM, hl, e⟩ := h.old _ hh
      have h2 := (h.at_ M hM hl).2
      rw [e, hv.1 hh] at h2
      injection h2 with h2
      injection h2 with _ h2
      exact agB_no hM hL (kfI_inj e) (by rw [← h2]; exact hne)
theorem AgD.done {zs : List (List Int)} {cl : List Int} {num : List Int → Int} {left : Lit → Bool} {D : DataW Unit} (h : AgD zs cl num left D) (hl : ∀ x, left x = false) : agB zs cl num = true := agB_iff.2 (fun L hL M hM e => by
  have h1 := (h.at_ L hL (hl _)).2
  have h2 := (h.at_ M hM (hl _)).2
  rw [e, h2] at h1
  injection h1 with h1
  injection h1 with _ h1
  exact h1.symm)
/-- what lies in memory while one chart is asked about -/
structure AgW (V W : World) (x0 b q n c nn : Nat) (C : Option Addr) (zs : List (List Int)) (cl : List Int) (D : DataW Unit) (m : Nat) (L : List Int) (y0 : Nat) : Prop where
  bx : Blk W x0 51 #[.map (some b), .slice C n c, .map (some q)]
  cx : Cb W y0 (m : Int) (ofL L)
  sem : W.ownsMap Tryz.prog 58 (plainElem (H := Unit) Tryz.prog 3) b n (mapP klL zs n)
  mkd : W.ownsMap Tryz.prog 3 (plainElem (H := Unit) Tryz.prog 3) q nn D
  cls : RI W C n cl
  gr : V.grownBy W (some q)
section
variable {V W W' : World} {x0 b q n c nn : Nat} {C : Option Addr} {zs : List (List Int)} {cl : List Int} {D : DataW Unit} {m : Nat} {L : List Int} {y0 : Nat}
theorem AgW.below (h : AgW V W x0 b q n c nn C zs cl D m L y0) (hb : Below W.heap.size W W') : AgW V W' x0 b q n c nn C zs cl D m L y0 :=
  ⟨h.bx.below hb h.bx.lt, h.cx.below hb h.cx.lt, ownsMap_same h.sem (hb.block b h.sem.lt), ownsMap_same h.mkd (hb.block q h.mkd.lt), h.cls.below hb, gbTr h.gr (gb_of hb _)⟩
theorem AgW.drew (h : AgW V W x0 b q n c nn C zs cl D m L y0) : AgW V W.drew x0 b q n c nn C zs cl D m L y0 := h.below (below_drewN (Below.refl _ _) 1)
theorem AgW.c0 (h : AgW V W x0 b q n c nn C zs cl D m L y0) : W.cell? ⟨x0, 0, none⟩ = some (.map (some b)) := h.bx.cell 0
theorem AgW.c1 (h : AgW V W x0 b q n c nn C zs cl D m L y0) : W.cell? ⟨x0, 1, none⟩ = some (.slice C n c) := h.bx.cell 1
theorem AgW.c2 (h : AgW V W x0 b q n c nn C zs cl D m L y0) : W.cell? ⟨x0, 2, none⟩ = some (.map (some q)) := h.bx.cell 2
end
set_option maxHeartbeats 2000000 in
theorem agreesI_any (b q m n c gf : Nat) (ca cb : Array Value) (C : Option Addr) (zs : List (List Int)) (cl : List Int) (num : List Int → Int) (hn : zs.length = n) (hn6 : n ≤ 1048576) (hz : ∀ L ∈ zs, isC L = true ∧ L.length = m) (hs : Srt zs) (hw : ∀ x ∈ cl, wfI x) (hnum : ∀ L ∈ zs, wfI (num L)) (w : World)
    (eg : ∀ args w, (callFunc gf args).run Tryz.prog w = .ok (.enter gf args) w)
    (hp : ∀ L ∈ zs, ∀ W, w.grownBy W (some q) → Calls Tryz.prog gf (ca ++ #[.agg #[.int .i64 ((m : Int)), .int .i64 (ofL L 0), .int .i64 (ofL L 1), .int .i64 (ofL L 2), .int .i64 (ofL L 3), .int .i64 (ofL L 4), .int .i64 (ofL L 5)]] ++ cb) W fun e W' => e = .returned (.int .i64 (num L)) ∧ Below W.heap.size W W')
    (hK : KgI w b q n C zs cl) :
    Calls Tryz.prog 69 #[.agg #[.map (some b), .slice C n c, .map (some q)], .func (.func gf) ca cb] w fun e w' => e = .returned (.bool (agB zs cl num)) ∧ (∃ nn D, w'.ownsMap Tryz.prog 3 (plainElem (H := Unit) Tryz.prog 3) q nn D) ∧ w.grownBy w' (some q) := by
  obtain ⟨nn0, D0, hmk⟩ := hK.mkd
  have hbq := hK.ne
  have hql := hmk.lt
  have hbl := hK.sem.lt
  have hown1 := hmk.alloc (.cells #[.map (some b), .slice C n c, .map (some q)] 51)
  have hsem1 := hK.sem.alloc (.cells #[.map (some b), .slice C n c, .map (some q)] 51)
  have hbx0 := Blk.new w 51 #[.map (some b), .slice C n c, .map (some q)]
  have hg0 := gb_al0 w (.cells #[.map (some b), .slice C n c, .map (some q)] 51) (some q)
  obtain ⟨w1, hrun, hm1, hg1⟩ := clear_run (t := 49) _ Tryz.underlying49 hown1 0
  have hbx1 := blk_kept hbx0 hg1 (row_map hown1)
  have hsem2 := hsem1.kept hg1 (fun e => hbq (by cases e; rfl))
  have hgr1 := gbTr hg0 hg1
  have HCLS := Lib.hid (fun (W : World) (hg : w.grownBy W (some q)) => ri_kept hK.cls hg hK.row)
  have HD : Hid (∀ x, Maps.has (mapP (H := Unit) klL zs n) x = true ↔ ∃ L, L ∈ zs ∧ klL L = x) := fun x => by subst hn; exact mapP_iff x
  have HSZ : Hid (Maps.size (mapP (H := Unit) klL zs n) = n) := by subst hn; exact mapP_size hz hs zs.length (Nat.le_refl _)
  have HN := Lib.hid hn
  have HZ := Lib.hid hz
  have HS := Lib.hid hs
  have HP := Lib.hid hp
  have HW := Lib.hid hw
  have HNU := Lib.hid hnum
  have HCL := Lib.hid hK.cls.len
  have k0 := hbx0.cell 2
  have k1 := hbx1.cell 0
  have HBX1 := Lib.hid hbx1
  have HGR1 := Lib.hid hgr1
  clear hn hz hs hp hw hnum hown1 hsem1 hbx0 hg0 hg1 hmk hbx1 hgr1 hK
  go_enter Tryz.func69, Tryz.ntmps69
  go_wp2_with (first | (at_range; refine wpList_range_own _ rfl _ 48 rfl 58 3 ch_keyed Tryz.underlying48 _ b n (mapP klL zs n) rfl hsem2 ?_; intro w2 hrg0 hg2 hs2) | go_in)
  try go_frame
  have hm2 := hm1.kept hg2 (by simp)
  have HBX2 := Lib.hid (HBX1.out.grown hg2 (by simp))
  have HGR2 := Lib.hid (HGR1.out.andThen hg2 (fun j e => by cases e))
  rw [HSZ.out] at hrg0
  have HRW : Hid (w.heap.size < w1.heap.size) := HBX1.out.lt
  clear hg2 hs2 hm1 hsem2 k0 k1 HBX1 HGR1 hrun
  generalize w1.heap.size = R at *
  go_loopw [5, 6] (fun _ _ wr => ∃ left cnt nn D, wr.ranges Tryz.prog 58 (plainElem Tryz.prog 3) b R n (mapP klL zs n) left cnt ∧ wr.ownsMap Tryz.prog 3 (plainElem (H := Unit) Tryz.prog 3) q nn D ∧ nn + cnt ≤ n ∧ Hid (∀ x, left x = true → Maps.has (mapP (H := Unit) klL zs n) x = true) ∧ Hid (AgD zs cl num left D) ∧ Hid (Blk wr w.heap.size 51 #[.map (some b), .slice C n c, .map (some q)]) ∧ Hid (w.grownBy wr (some q))) (fun _ _ wr => wr.rangeLeft b R)
  case atStart => exact ⟨_, _, _, _, hrg0, hm2, by simp, Lib.hid (fun x h => h), Lib.hid ⟨fun x hx => (by simp [Maps.has] at hx), fun L hL h => (by rw [(HD.out _).2 ⟨L, hL, rfl⟩] at h; cases h)⟩, HBX2.out, HGR2.out⟩
  case round =>
    clear hrg0 hm2 HBX2 HGR2
    obtain ⟨left, cnt, nn, D, hrg, hmp, hcn, P1, P2, HBX, HGR⟩ := hrel
    have hrl := hrg.lt
    go_wp2_with (first | (at_next; refine wpList_next_ranges _ rfl _ rfl 58 ch_keyed (plainElem Tryz.prog 3) mkCh (Value.int .i64) mkCh_inv plain_inv b R n _ _ _ rfl hrg ?_ ?_) | go_in)
    · intro hc0 hl0
      have HT := Lib.hid (P2.out.done hl0)
      go_wp2
      go_ret
      exact ⟨by rw [HT.out]; try rfl, ⟨_, _, hmp⟩, HGR.out⟩
    · intro xn xT cc kl yd yp w3 cnt2 hkey hlk hv hat hrg2 hlt hg3 hs3 hen
      obtain ⟨L, hL, hkl, hx⟩ := ch_of_key HZ.out hkey ((HD.out kl).1 (P1.out kl hlk))
      rw [hx] at hen
      rw [hx]
      subst hkl
      have hLz := HZ.out L hL
      have hqR : q ≠ R := by have := HRW.out; omega
      have hgr3 := HGR.out.andThen hg3 (fun j e => .inl (by cases e; have := HRW.out; omega))
      have hmp3 := hmp.kept hg3 (fun e => hqR (by cases e; rfl))
      have hbx3 := HBX.out.grown hg3 (fun e => by have := HRW.out; cases e; omega)
      have HAW0 : Hid (AgW w3 (w3.alloc (.cells #[.int .i64 ((m : Int)), .int .i64 (ofL L 0), .int .i64 (ofL L 1), .int .i64 (ofL L 2), .int .i64 (ofL L 3), .int .i64 (ofL L 4), .int .i64 (ofL L 5)] 58)) w.heap.size b q n c nn C zs cl D m L w3.heap.size) :=
        ⟨hbx3.alloc _, Cb.new w3 _ _, hrg2.owns.alloc _, hmp3.alloc _, HCLS.out _ (gbTr hgr3 (gb_al0 w3 _ _)), gb_al0 w3 _ _⟩
      have HRG := Lib.hid (fun (W : World) (hg : w3.grownBy W (some q)) => hrg2.kept hg (fun e => hbq (by cases e; rfl)) (fun e => hqR (by cases e; rfl)))
      have HGW := Lib.hid (fun (W : World) (hg : w3.grownBy W (some q)) => gbTr hgr3 hg)
      have P1' : Hid (∀ x, (left x && !x.sameKey (klL L)) = true → Maps.has (mapP (H := Unit) klL zs n) x = true) := fun x h => P1.out x (by rw [Bool.and_eq_true] at h; exact h.1)
      have HST := Lib.hid (fun (z : Int) hz => P2.out.step (hmp.tidy (int_keyed Tryz.underlying3)) (fun L hL => (HZ.out L hL).1) hL (z := z) hz)
      have hcall := HP.out L hL _ (HGW.out _ HAW0.out.gr)
      have hnn : nn < maxLen := by unfold maxLen; omega
      have hwk : wfI (kC zs cl L) := by
        have hi := (ixP_mem HS.out hL).1
        unfold kC ofL; rw [List.getElem?_eq_getElem (by rw [HCL.out, ← HN.out]; exact hi)]
        exact HW.out _ (List.getElem_mem _)
      have HCC := Lib.hid (fun (W : World) (hA : AgW w3 W w.heap.size b q n c nn C zs cl D m L w3.heap.size) => classI_any b m n c (some q) C zs cl L W HN.out HZ.out HS.out hL hA.sem hA.cls)
      have HMC := Lib.hid (fun (W : World) (hA : AgW w3 W w.heap.size b q n c nn C zs cl D m L w3.heap.size) => markI_any (some b) q nn n c C (kC zs cl L) (num L) D W hA.mkd hwk (HNU.out L hL) hnn)
      obtain ⟨a0, a1, a2, a3, a4, a5, a6⟩ := (Cb.new w3 (m : Int) (ofL L)).all
      have hlt2 : cnt2 < cnt := hlt
      clear hs3 hkey hx hv hat hlk P1 P2 hrg2 hmp3 hbx3 hg3 hmp hgr3 hwk
      generalize hkk : kC zs cl L = kv at *
      generalize hnn2 : num L = nv at *
      clear hkk hnn2
      go_wp2_with fail
      refine hcall.mono ?_
      rintro e w4 ⟨rfl, hb4⟩
      have hA := HAW0.out.below hb4
      have hA1 := hA.drew
      have d0 := hA.c0
      have d1 := hA.c1
      have d2 := hA.c2
      obtain ⟨a0, a1, a2, a3, a4, a5, a6⟩ := hA.cx.all
      clear hcall hb4 HAW0 hA
      go_wp2
      go_region_law (first
        | (go_simp
           go_at_call 70
           refine (HCC.out _ hA1).mono ?_
           rintro e w5 ⟨rfl, hb5⟩
           have hA1 := hA1.below hb5
           have d0 := hA1.c0
           have d1 := hA1.c1
           have d2 := hA1.c2)
        | (go_simp
           go_at_call 112
           refine (HMC.out _ hA1).mono ?_
           rintro e w6 ⟨z, rfl, hz6, hm6, hg6⟩))
      all_goals
        (try simp only [List.getElem_toArray, List.getElem_cons_succ, List.getElem_cons_zero, Act.put, List.setIfInBounds_toArray, List.set_cons_zero, List.set_cons_succ])
        have hgf := gbTr hA1.gr hg6
        have HG6 := Lib.hid (HGW.out _ hgf)
        have hrg6 := HRG.out _ hgf
        have HBX6 := Lib.hid (blk_kept hA1.bx hg6 (row_map hA1.mkd))
        clear hA1 hb5 hg6 hgf d0 d1 d2 a0 a1 a2 a3 a4 a5 a6
        by_cases hzn : z = nv
        · have hbe : ((z : Int) != nv) = false := by simp [hzn]
          have HD2 := Lib.hid ((HST.out z hz6).1 hzn)
          clear hzn hz6
          go_wp2
          go_roundw
          case rel => exact ⟨_, cnt2, nn + 1, _, hrg6, hm6, by omega, P1', HD2.out, HBX6, HG6⟩
          case measure => rw [hrg6.left_eq, hrg.left_eq]; exact hlt2
        · have hbe : ((z : Int) != nv) = true := by simp [hzn]
          have HF := Lib.hid ((HST.out z hz6).2 hzn)
          clear hzn hz6
          go_wp2
          go_ret
          exact ⟨by rw [HF.out]; try rfl, ⟨_, _, hm6⟩, HG6.out⟩
end

/-! slices.Equal of numbers; impl.keepsProducts. -/
section
open Go.RowKit Go.Maps

theorem RI.get8 {w : World} {A : Option Addr} {n : Nat} {zs : List Int} (h : RI w A n zs) {k : Nat} (hk : k < n) : ∃ (ad : Addr) (z : Int), A = some ad ∧ ad.block < w.heap.size ∧ zs[k]? = some z ∧ w.cell? (ad.add k) = some (.int .i64 z) := by
  obtain ⟨ad, e, hb, hc⟩ := h.at_ hk
  have hl : k < zs.length := by rw [h.len]; exact hk
  exact ⟨ad, _, e, hb, List.getElem?_eq_getElem hl, by rw [hc, List.getElem?_eq_getElem hl]; rfl⟩
theorem take_int8 {zs : List Int} {k : Nat} {z : Int} (h : zs[k]? = some z) : zs.take (k + 1) = zs.take k ++ [z] := by
  have hk := (List.getElem?_eq_some_iff.1 h)
  rw [List.take_succ_eq_append_getElem hk.1, hk.2]
set_option maxHeartbeats 1000000 in
theorem slEq8_any (A B : Option Addr) (n m c d : Nat) (zs ys : List Int) (w : World) (h : RI w A n zs) (h' : RI w B m ys) (hn : n ≤ 1048576) :
    Calls Tryz.prog 87 #[.slice A n c, .slice B m d] w fun e w' => e = .returned (.bool (decide (zs = ys))) ∧ Below w.heap.size w w' := by
  by_cases hnm : n = m
  · subst hnm
    have HL := Lib.hid h.len
    have HL' := Lib.hid h'.len
    go_enter Tryz.func87, Tryz.ntmps87
    go_wp2
    go_loopw [13] (fun i wr => ∃ k : Nat, k ≤ n ∧ i = .int .i64 k ∧ Hid (zs.take k = ys.take k) ∧ Below w.heap.size w wr) (fun i _ => n - (intOf i).toNat)
    case atStart => exact ⟨0, Nat.zero_le _, rfl, Lib.hid rfl, Below.refl _ _⟩
    case round =>
      obtain ⟨k, hk, rfl, HT, hbel⟩ := hrel
      by_cases hlt : k < n
      · obtain ⟨ad, s, rfl, hab, hs, hc⟩ := h.get8 hlt
        obtain ⟨ad', s', rfl, hab', hs', hc'⟩ := h'.get8 hlt
        have g := (hbel.cell (p := ad.add k) (by rw [block_of_add]; exact hab)).trans hc
        have g' := (hbel.cell (p := ad'.add k) (by rw [block_of_add]; exact hab')).trans hc'
        have HS := Lib.hid hs
        have HS' := Lib.hid hs'
        have hki : (k : Int) < (n : Int) := by omega
        clear hc hc' h h' hs hs'
        by_cases he : s = s'
        · have ht : (s != s') = false := by rw [he]; simp
          have HE := Lib.hid he
          clear he
          go_wp2
          go_quiet (fail)
          all_goals go_wp2
          go_roundw
          case rel =>
            refine ⟨k + 1, by omega, by go_num, ?_, below_drewN hbel _⟩
            show zs.take (k + 1) = ys.take (k + 1)
            rw [take_int8 HS.out, take_int8 HS'.out, HT.out, HE.out]
          case measure => simp [intOf]; omega
        · have ht : (s != s') = true := by rw [bne_iff_ne]; exact he
          have HE := Lib.hid he
          clear he
          go_wp2
          go_quiet (fail)
          all_goals go_wp2
          go_ret
          refine ⟨?_, below_drewN hbel _⟩
          rw [decide_eq_false (fun e => HE.out (by
            have h1 := HS.out
            have h2 := HS'.out
            rw [e] at h1
            exact Option.some.inj (h1.symm.trans h2)))]
          rfl
      · obtain rfl : k = n := by omega
        have hki : ¬ (k : Int) < (k : Int) := by omega
        go_wp2
        go_ret
        refine ⟨?_, hbel⟩
        have e : zs = ys := by
          have h := HT.out
          rwa [List.take_of_length_le (by have := HL.out; omega), List.take_of_length_le (by have := HL'.out; omega)] at h
        rw [decide_eq_true e]
        rfl
  · have hb : ((n : Int) != (m : Int)) = true := by rw [bne_iff_ne]; omega
    have HL := Lib.hid h.len
    have HL' := Lib.hid h'.len
    clear h h'
    go_enter Tryz.func87, Tryz.ntmps87
    go_wp2
    go_ret
    refine ⟨?_, Below.refl _ _⟩
    rw [decide_eq_false (fun e => hnm (by rw [← HL.out, ← HL'.out, e]))]
    rfl
theorem cb_kept {w w' : World} {y0 : Nat} {n : Int} {T : Nat → Int} {row : Option Nat} (h : Cb w y0 n T) (hg : w.grownBy w' row) (hm : ∀ r, row = some r → ∃ o : Obj, w.heap[r]? = some o ∧ o.isCells = false) : Cb w' y0 n T := by
  obtain ⟨o, ho, hc⟩ := cells_of_cell h.head
  exact World.rowIs.of_block h (grownBy_keeps_cells hg hm ho hc)
structure KpW (W : World) (x0 b q n c : Nat) (C : Option Addr) (zs : List (List Int)) (cl : List Int) (m : Nat) (K : List Int) (y0 : Nat) : Prop where
  bx : Blk W x0 51 #[.map (some b), .slice C n c, .map (some q)]
  cx : Cb W y0 (m : Int) (ofL K)
  sem : W.ownsMap Tryz.prog 58 (plainElem (H := Unit) Tryz.prog 3) b n (mapP klL zs n)
  cls : RI W C n cl
  ne : b ≠ q
section
variable {W W' : World} {x0 b q n c : Nat} {C : Option Addr} {zs : List (List Int)} {cl : List Int} {m : Nat} {K : List Int} {y0 : Nat}
theorem KpW.below (h : KpW W x0 b q n c C zs cl m K y0) (hb : Below W.heap.size W W') : KpW W' x0 b q n c C zs cl m K y0 := ⟨h.bx.below hb h.bx.lt, h.cx.below hb h.cx.lt, ownsMap_same h.sem (hb.block b h.sem.lt), h.cls.below hb, h.ne⟩
theorem KpW.kept (h : KpW W x0 b q n c C zs cl m K y0) (hg : W.grownBy W' (some q)) (hm : ∀ r, some q = some r → ∃ o : Obj, W.heap[r]? = some o ∧ o.isCells = false) : KpW W' x0 b q n c C zs cl m K y0 :=
  ⟨blk_kept h.bx hg hm, cb_kept h.cx hg hm, h.sem.kept hg (fun e => h.ne (by cases e; rfl)), ri_kept h.cls hg hm, h.ne⟩
theorem KpW.drew (h : KpW W x0 b q n c C zs cl m K y0) : KpW W.drew x0 b q n c C zs cl m K y0 := h.below (below_drewN (Below.refl _ _) 1)
theorem KpW.c0 (h : KpW W x0 b q n c C zs cl m K y0) : W.cell? ⟨x0, 0, none⟩ = some (.map (some b)) := h.bx.cell 0
theorem KpW.c1 (h : KpW W x0 b q n c C zs cl m K y0) : W.cell? ⟨x0, 1, none⟩ = some (.slice C n c) := h.bx.cell 1
theorem KpW.c2 (h : KpW W x0 b q n c C zs cl m K y0) : W.cell? ⟨x0, 2, none⟩ = some (.map (some q)) := h.bx.cell 2
end
set_option maxHeartbeats 2000000 in
theorem kp1_any (x0 b q m n c y0 : Nat) (C : Option Addr) (zs : List (List Int)) (cl L K : List Int) (hn : zs.length = n) (hz : ∀ L ∈ zs, isC L = true ∧ L.length = m) (hs : Srt zs) (hL : L ∈ zs) (hK : K ∈ zs) (hT : tiL L K ∈ zs) (w : World) (hA : KpW w x0 b q n c C zs cl m K y0) :
    Calls Tryz.prog 118 #[.agg #[.int .i64 ((m : Int)), .int .i64 (ofL L 0), .int .i64 (ofL L 1), .int .i64 (ofL L 2), .int .i64 (ofL L 3), .int .i64 (ofL L 4), .int .i64 (ofL L 5)], .pointer (some ⟨x0, 0, none⟩), .pointer (some ⟨y0, 0, none⟩)] w fun e w' => e = .returned (.int .i64 (kC zs cl (tiL L K))) ∧ Below w.heap.size w w' := by
  have hB0 := (Below.refl _ w).alloc (Nat.le_refl _) (.cells #[.int .i64 ((m : Int)), .int .i64 (ofL L 0), .int .i64 (ofL L 1), .int .i64 (ofL L 2), .int .i64 (ofL L 3), .int .i64 (ofL L 4), .int .i64 (ofL L 5)] 58)
  have hA0 := hA.below hB0
  have hx := (Cb.new w (m : Int) (ofL L))
  have HTI := Lib.hid (fun (W : World) => times_c m L K (hz L hL).1 (hz K hK).1 (hz L hL).2 (hz K hK).2 W)
  have HCC := Lib.hid (fun (W : World) (hA : KpW W x0 b q n c C zs cl m K y0) => classI_any b m n c (some q) C zs cl (tiL L K) W hn hz hs hT hA.sem hA.cls)
  obtain ⟨kv, hkv⟩ : ∃ kv, kC zs cl (tiL L K) = kv := ⟨_, rfl⟩
  rw [hkv] at HCC ⊢
  clear hkv hA hn hz hs hL hK hT
  go_enter Tryz.func118, Tryz.ntmps118
  go_wp2_with fail
  generalize w.alloc (.cells #[.int .i64 ((m : Int)), .int .i64 (ofL L 0), .int .i64 (ofL L 1), .int .i64 (ofL L 2), .int .i64 (ofL L 3), .int .i64 (ofL L 4), .int .i64 (ofL L 5)] 58) = W0 at *
  have hA1 := hA0.drew
  have hx1 := hx.drew
  have hB1 := hB0.drew
  obtain ⟨a0, a1, a2, a3, a4, a5, a6⟩ := hx.all
  obtain ⟨e0, e1, e2, e3, e4, e5, e6⟩ := hA0.cx.all
  have d0 := hA0.c0
  have d1 := hA0.c1
  have d2 := hA0.c2
  go_region_law (first
    | (go_simp
       go_at_call 115
       refine (HTI.out _).mono ?_
       rintro e w5 ⟨rfl, hb5⟩
       have hA1 := hA1.below hb5
       have hB1 := hB1.trans (hb5.mono hB1.size)
       have d0 := hA1.c0
       have d1 := hA1.c1
       have d2 := hA1.c2)
    | (go_simp
       go_at_call 70
       refine (HCC.out _ hA1).mono ?_
       rintro e w6 ⟨rfl, hb6⟩
       have hB2 := hB1.trans (hb6.mono hB1.size)))
  all_goals
    go_wp2
    go_ret
    exact ⟨rfl, hB2⟩
set_option maxHeartbeats 2000000 in
theorem kp2_any (x0 b q m n c y0 : Nat) (C : Option Addr) (zs : List (List Int)) (cl L K : List Int) (hn : zs.length = n) (hz : ∀ L ∈ zs, isC L = true ∧ L.length = m) (hs : Srt zs) (hL : L ∈ zs) (hK : K ∈ zs) (hT : tiL K L ∈ zs) (w : World) (hA : KpW w x0 b q n c C zs cl m K y0) :
    Calls Tryz.prog 119 #[.agg #[.int .i64 ((m : Int)), .int .i64 (ofL L 0), .int .i64 (ofL L 1), .int .i64 (ofL L 2), .int .i64 (ofL L 3), .int .i64 (ofL L 4), .int .i64 (ofL L 5)], .pointer (some ⟨x0, 0, none⟩), .pointer (some ⟨y0, 0, none⟩)] w fun e w' => e = .returned (.int .i64 (kC zs cl (tiL K L))) ∧ Below w.heap.size w w' := by
  have hB0 := (Below.refl _ w).alloc (Nat.le_refl _) (.cells #[.int .i64 ((m : Int)), .int .i64 (ofL L 0), .int .i64 (ofL L 1), .int .i64 (ofL L 2), .int .i64 (ofL L 3), .int .i64 (ofL L 4), .int .i64 (ofL L 5)] 58)
  have hA0 := hA.below hB0
  have hx := (Cb.new w (m : Int) (ofL L))
  have HTI := Lib.hid (fun (W : World) => times_c m K L (hz K hK).1 (hz L hL).1 (hz K hK).2 (hz L hL).2 W)
  have HCC := Lib.hid (fun (W : World) (hA : KpW W x0 b q n c C zs cl m K y0) => classI_any b m n c (some q) C zs cl (tiL K L) W hn hz hs hT hA.sem hA.cls)
  obtain ⟨kv, hkv⟩ : ∃ kv, kC zs cl (tiL K L) = kv := ⟨_, rfl⟩
  rw [hkv] at HCC ⊢
  clear hkv hA hn hz hs hL hK hT
  go_enter Tryz.func119, Tryz.ntmps119
  go_wp2_with fail
  generalize w.alloc (.cells #[.int .i64 ((m : Int)), .int .i64 (ofL L 0), .int .i64 (ofL L 1), .int .i64 (ofL L 2), .int .i64 (ofL L 3), .int .i64 (ofL L 4), .int .i64 (ofL L 5)] 58) = W0 at *
  have hA1 := hA0.drew
  have hx1 := hx.drew
  have hB1 := hB0.drew
  obtain ⟨a0, a1, a2, a3, a4, a5, a6⟩ := hx.all
  obtain ⟨e0, e1, e2, e3, e4, e5, e6⟩ := hA0.cx.all
  have d0 := hA0.c0
  have d1 := hA0.c1
  have d2 := hA0.c2
  go_region_law (first
    | (go_simp
       go_at_call 115
       refine (HTI.out _).mono ?_
       rintro e w5 ⟨rfl, hb5⟩
       have hA1 := hA1.below hb5
       have hB1 := hB1.trans (hb5.mono hB1.size)
       have d0 := hA1.c0
       have d1 := hA1.c1
       have d2 := hA1.c2)
    | (go_simp
       go_at_call 70
       refine (HCC.out _ hA1).mono ?_
       rintro e w6 ⟨rfl, hb6⟩
       have hB2 := hB1.trans (hb6.mono hB1.size)))
  all_goals
    go_wp2
    go_ret
    exact ⟨rfl, hB2⟩
theorem cp_ag {zs : List (List Int)} {cl : List Int} : (∀ K ∈ zs, agB zs cl (fun L => kC zs cl (tiL L K)) = true ∧ agB zs cl (fun L => kC zs cl (tiL K L)) = true) ↔ cpB zs cl = true := by
  rw [cpB_iff]
  constructor
  · intro h L hL M hM e K hK
    exact ⟨agB_iff.1 (h K hK).1 L hL M hM e, agB_iff.1 (h K hK).2 L hL M hM e⟩
  · intro h K hK
    exact ⟨agB_iff.2 (fun L hL M hM e => (h L hL M hM e K hK).1), agB_iff.2 (fun L hL M hM e => (h L hL M hM e K hK).2)⟩
theorem cp_no {zs : List (List Int)} {cl : List Int} {K : List Int} (hK : K ∈ zs) (h : agB zs cl (fun L => kC zs cl (tiL L K)) = false ∨ agB zs cl (fun L => kC zs cl (tiL K L)) = false) : cpB zs cl = false := by
  cases e : cpB zs cl
  · rfl
  · have := cp_ag.2 e K hK
    rcases h with h | h
    · rw [this.1] at h; cases h
    · rw [this.2] at h; cases h
theorem kc_wf {zs : List (List Int)} {cl : List Int} (hs : Srt zs) (hl : cl.length = zs.length) (hw : ∀ x ∈ cl, wfI x) {L : List Int} (hL : L ∈ zs) : wfI (kC zs cl L) := by
  have hi := (ixP_mem hs hL).1
  unfold kC ofL; rw [List.getElem?_eq_getElem (by rw [hl]; exact hi)]
  exact hw _ (List.getElem_mem _)
set_option maxHeartbeats 2000000 in
theorem keepsI_any (b q m n c : Nat) (C : Option Addr) (zs : List (List Int)) (cl : List Int) (hn : zs.length = n) (hn6 : n ≤ 1048576) (hz : ∀ L ∈ zs, isC L = true ∧ L.length = m) (hs : Srt zs) (hti : ∀ L ∈ zs, ∀ M ∈ zs, tiL L M ∈ zs) (hw : ∀ x ∈ cl, wfI x) (w : World) (hK : KgI w b q n C zs cl) :
    Calls Tryz.prog 88 #[.agg #[.map (some b), .slice C n c, .map (some q)]] w fun e w' => e = .returned (.bool (cpB zs cl)) ∧ (∃ nn D, w'.ownsMap Tryz.prog 3 (plainElem (H := Unit) Tryz.prog 3) q nn D) ∧ w.grownBy w' (some q) := by
  have hbq := hK.ne
  have hql := hK.q_lt
  have hsem1 := hK.sem.alloc (.cells #[.map (some b), .slice C n c, .map (some q)] 51)
  have HBX1 := Lib.hid (Blk.new w 51 #[.map (some b), .slice C n c, .map (some q)])
  have hg0 := gb_al0 w (.cells #[.map (some b), .slice C n c, .map (some q)] 51) (some q)
  have HCLS := Lib.hid (fun (W : World) (hg : w.grownBy W (some q)) => ri_kept hK.cls hg hK.row)
  have HD : Hid (∀ x, Maps.has (mapP (H := Unit) klL zs n) x = true ↔ ∃ L, L ∈ zs ∧ klL L = x) := fun x => by subst hn; exact mapP_iff x
  have HZ := Lib.hid hz
  have HMK : Hid (∃ nn D, (w.alloc (.cells #[.map (some b), .slice C n c, .map (some q)] 51)).ownsMap Tryz.prog 3 (plainElem (H := Unit) Tryz.prog 3) q nn D) := by
    obtain ⟨nn, D, h⟩ := hK.mkd
    exact ⟨nn, D, h.alloc _⟩
  have HK1 := Lib.hid (fun (x0 y0 : Nat) (L K : List Int) (hL : L ∈ zs) (hK : K ∈ zs) (W : World) (hA : KpW W x0 b q n c C zs cl m K y0) => kp1_any x0 b q m n c y0 C zs cl L K hn hz hs hL hK (hti L hL K hK) W hA)
  have HK2 := Lib.hid (fun (x0 y0 : Nat) (L K : List Int) (hL : L ∈ zs) (hK : K ∈ zs) (W : World) (hA : KpW W x0 b q n c C zs cl m K y0) => kp2_any x0 b q m n c y0 C zs cl L K hn hz hs hL hK (hti K hK L hL) W hA)
  have HWF := Lib.hid (fun (L : List Int) (hL : L ∈ zs) => kc_wf hs (hK.cls.len.trans hn.symm) hw hL)
  have HTI := Lib.hid hti
  have HAG := Lib.hid (fun (gf : Nat) (cb : Array Value) (num : List Int → Int) (hnum : ∀ L ∈ zs, wfI (num L)) (W : World) (eg : ∀ args w, (callFunc gf args).run Tryz.prog w = .ok (.enter gf args) w) (hp) (hK : KgI W b q n C zs cl) => agreesI_any b q m n c gf #[] cb C zs cl num hn hn6 hz hs hw hnum W eg hp hK)
  have k0 := HBX1.out.cell 0
  clear hn hz hs hti hw hK
  go_enter Tryz.func88, Tryz.ntmps88
  go_wp2_with (first | (at_range; refine wpList_range_own _ rfl _ 48 rfl 58 3 ch_keyed Tryz.underlying48 _ b n (mapP klL zs n) rfl hsem1 ?_; intro w2 hrg0 hg2 hs2) | go_in)
  try go_frame
  have HBX2 := Lib.hid (HBX1.out.grown hg2 (by simp))
  have HGR2 := Lib.hid (hg0.andThen hg2 (fun j e => by cases e))
  have HMK2 : Hid (∃ nn D, w2.ownsMap Tryz.prog 3 (plainElem (H := Unit) Tryz.prog 3) q nn D) := by
    obtain ⟨nn, D, h⟩ := HMK.out
    exact ⟨nn, D, h.kept hg2 (by simp)⟩
  have HRW : Hid (w.heap.size < (w.alloc (.cells #[.map (some b), .slice C n c, .map (some q)] 51)).heap.size) := HBX1.out.lt
  clear hg2 hs2 hsem1 k0 HBX1 hg0 HMK
  generalize (w.alloc (.cells #[.map (some b), .slice C n c, .map (some q)] 51)).heap.size = R at *
  go_loopw [3] (fun _ wr => ∃ left cnt, wr.ranges Tryz.prog 58 (plainElem Tryz.prog 3) b R n (mapP klL zs n) left cnt ∧ Hid (∃ nn D, wr.ownsMap Tryz.prog 3 (plainElem (H := Unit) Tryz.prog 3) q nn D) ∧ Hid (∀ x, left x = true → Maps.has (mapP (H := Unit) klL zs n) x = true) ∧ Hid (∀ K ∈ zs, left (klL K) = false → agB zs cl (fun L => kC zs cl (tiL L K)) = true ∧ agB zs cl (fun L => kC zs cl (tiL K L)) = true) ∧ Hid (Blk wr w.heap.size 51 #[.map (some b), .slice C n c, .map (some q)]) ∧ Hid (w.grownBy wr (some q))) (fun _ wr => wr.rangeLeft b R)
  case atStart => exact ⟨_, _, hrg0, HMK2.out, Lib.hid (fun x h => h), Lib.hid (fun L hL h => (by rw [(HD.out _).2 ⟨L, hL, rfl⟩] at h; cases h)), HBX2.out, HGR2.out⟩
  case round =>
    clear hrg0 HMK2 HBX2 HGR2
    obtain ⟨left, cnt, hrg, HMK, P1, P2, HBX, HGR⟩ := hrel
    have hrl := hrg.lt
    go_wp2_with (first | (at_next; refine wpList_next_ranges _ rfl _ rfl 58 ch_keyed (plainElem Tryz.prog 3) mkCh (Value.int .i64) mkCh_inv plain_inv b R n _ _ _ rfl hrg ?_ ?_) | go_in)
    · intro hc0 hl0
      have HT := Lib.hid (cp_ag.1 (fun K hK => P2.out K hK (hl0 _)))
      go_wp2
      go_ret
      exact ⟨by rw [HT.out]; try rfl, HMK.out, HGR.out⟩
    · intro xn xT cc kl yd yp w3 cnt2 hkey hlk hv hat hrg2 hlt hg3 hs3 hen
      obtain ⟨K, hK, hkl, hx⟩ := ch_of_key HZ.out hkey ((HD.out kl).1 (P1.out kl hlk))
      rw [hx] at hen
      rw [hx]
      subst hkl
      have hqR : q ≠ R := by have := HRW.out; omega
      have hgr3 := HGR.out.andThen hg3 (fun j e => .inl (by cases e; have := HRW.out; omega))
      have hmp3 : ∃ nn D, (w3.alloc (.cells #[.int .i64 ((m : Int)), .int .i64 (ofL K 0), .int .i64 (ofL K 1), .int .i64 (ofL K 2), .int .i64 (ofL K 3), .int .i64 (ofL K 4), .int .i64 (ofL K 5)] 58)).ownsMap Tryz.prog 3 (plainElem (H := Unit) Tryz.prog 3) q nn D := by
        obtain ⟨nn, D, h⟩ := HMK.out
        exact ⟨nn, D, (h.kept hg3 (fun e => hqR (by cases e; rfl))).alloc _⟩
      have hbx3 := HBX.out.grown hg3 (fun e => by have := HRW.out; cases e; omega)
      have hA := (⟨hbx3.alloc _, Cb.new w3 _ _, hrg2.owns.alloc _, HCLS.out _ (gbTr hgr3 (gb_al0 w3 _ _)), hbq⟩ : KpW (w3.alloc (.cells #[.int .i64 ((m : Int)), .int .i64 (ofL K 0), .int .i64 (ofL K 1), .int .i64 (ofL K 2), .int .i64 (ofL K 3), .int .i64 (ofL K 4), .int .i64 (ofL K 5)] 58)) w.heap.size b q n c C zs cl m K w3.heap.size)
      have HA := Lib.hid hA
      have HRG := Lib.hid (fun (W : World) (hg : (w3.alloc (.cells #[.int .i64 ((m : Int)), .int .i64 (ofL K 0), .int .i64 (ofL K 1), .int .i64 (ofL K 2), .int .i64 (ofL K 3), .int .i64 (ofL K 4), .int .i64 (ofL K 5)] 58)).grownBy W (some q)) => hrg2.kept (gbTr (gb_al0 w3 _ (some q)) hg) (fun e => hbq (by cases e; rfl)) (fun e => hqR (by cases e; rfl)))
      have HGW := Lib.hid (fun (W : World) (hg : (w3.alloc (.cells #[.int .i64 ((m : Int)), .int .i64 (ofL K 0), .int .i64 (ofL K 1), .int .i64 (ofL K 2), .int .i64 (ofL K 3), .int .i64 (ofL K 4), .int .i64 (ofL K 5)] 58)).grownBy W (some q)) => gbTr hgr3 (gbTr (gb_al0 w3 _ (some q)) hg))
      have P1' : Hid (∀ x, (left x && !x.sameKey (klL K)) = true → Maps.has (mapP (H := Unit) klL zs n) x = true) := fun x h => P1.out x (by rw [Bool.and_eq_true] at h; exact h.1)
      have P2' : Hid (agB zs cl (fun L => kC zs cl (tiL L K)) = true → agB zs cl (fun L => kC zs cl (tiL K L)) = true → ∀ M ∈ zs, (left (klL M) && !(klL M).sameKey (klL K)) = false → agB zs cl (fun L => kC zs cl (tiL L M)) = true ∧ agB zs cl (fun L => kC zs cl (tiL M L)) = true) := fun h1 h2 M hM hl => by
        by_cases hlm : left (klL M) = false
        · exact P2.out M hM hlm
        · have hlm : left (klL M) = true := by cases e : left (klL M) <;> simp_all
          rw [hlm, Bool.true_and] at hl
          have hsk : (klL M).sameKey (klL K) = true := by cases e : (klL M).sameKey (klL K) <;> simp_all
          have := klL_inj M K (HZ.out M hM).1 (HZ.out K hK).1 (same_key hsk)
          subst this
          exact ⟨h1, h2⟩
      have HNO := Lib.hid (fun h => cp_no (cl := cl) hK h)
      have HC1 := Lib.hid (fun (W : World) (hW : KpW W w.heap.size b q n c C zs cl m K w3.heap.size) (hm : ∃ nn D, W.ownsMap Tryz.prog 3 (plainElem (H := Unit) Tryz.prog 3) q nn D) => HAG.out 118 #[.pointer (some ⟨w.heap.size, 0, none⟩), .pointer (some ⟨w3.heap.size, 0, none⟩)] (fun L => kC zs cl (tiL L K)) (fun L hL => HWF.out _ (HTI.out L hL K hK)) W (enters_of Tryz.func118 (by kernel_rfl) rfl) (fun L hL V hV => HK1.out w.heap.size w3.heap.size L K hL hK V (hW.kept hV (by obtain ⟨nn, D, h⟩ := hm; exact row_map h))) ⟨hW.sem, hm, hW.cls, hW.ne⟩)
      have HC2 := Lib.hid (fun (W : World) (hW : KpW W w.heap.size b q n c C zs cl m K w3.heap.size) (hm : ∃ nn D, W.ownsMap Tryz.prog 3 (plainElem (H := Unit) Tryz.prog 3) q nn D) => HAG.out 119 #[.pointer (some ⟨w.heap.size, 0, none⟩), .pointer (some ⟨w3.heap.size, 0, none⟩)] (fun L => kC zs cl (tiL K L)) (fun L hL => HWF.out _ (HTI.out K hK L hL)) W (enters_of Tryz.func119 (by kernel_rfl) rfl) (fun L hL V hV => HK2.out w.heap.size w3.heap.size L K hL hK V (hW.kept hV (by obtain ⟨nn, D, h⟩ := hm; exact row_map h))) ⟨hW.sem, hm, hW.cls, hW.ne⟩)
      have d0 := hA.c0
      have d1 := hA.c1
      have d2 := hA.c2
      have hc1 := HC1.out _ hA hmp3
      have HM3 := Lib.hid hmp3
      have HHK := Lib.hid hK
      clear hs3 hkey hx hv hat hlk P1 P2 hrg2 hbx3 hg3 hgr3 hmp3 hA HMK HBX HGR HC1 hK
      generalize hr1 : agB zs cl (fun L => kC zs cl (tiL L K)) = r1 at *
      generalize hr2 : agB zs cl (fun L => kC zs cl (tiL K L)) = r2 at *
      clear hr1 hr2
      go_wp2_with fail
      refine hc1.mono ?_
      rintro e w4 ⟨rfl, hm4, hg4⟩
      have hA4 := HA.out.kept hg4 (by obtain ⟨nn, D, h⟩ := HM3.out; exact row_map h)
      have HM4 := Lib.hid hm4
      cases r1 with
      | false =>
        have HF := Lib.hid (HNO.out (.inl rfl))
        have HG4 := Lib.hid (HGW.out _ hg4)
        clear hc1 hg4 hm4
        go_wp2
        go_ret
        exact ⟨by rw [HF.out]; try rfl, HM4.out, HG4.out⟩
      | true =>
        have hc2 := HC2.out _ hA4 hm4
        have d0 := hA4.c0
        have d1 := hA4.c1
        have d2 := hA4.c2
        have HG40 := Lib.hid hg4
        have HBX4 := Lib.hid hA4.bx
        have HRM4 : Hid (∀ r, some q = some r → ∃ o : Obj, w4.heap[r]? = some o ∧ o.isCells = false) := by obtain ⟨nn, D, h⟩ := hm4; exact row_map h
        clear hc1 hg4 hm4 HC2 hA4
        go_wp2_with fail
        refine hc2.mono ?_
        rintro e w5 ⟨rfl, hm5, hg5⟩
        have HM5 := Lib.hid hm5
        have hgf := gbTr HG40.out hg5
        have HG5 := Lib.hid (HGW.out _ hgf)
        have hrg5 := HRG.out _ hgf
        have HBX5 := Lib.hid (blk_kept HBX4.out hg5 HRM4.out)
        clear hc2 hm5 hg5 hgf d0 d1 d2
        cases r2 with
        | false =>
          have HF := Lib.hid (HNO.out (.inr rfl))
          go_wp2
          go_ret
          exact ⟨by rw [HF.out]; try rfl, HM5.out, HG5.out⟩
        | true =>
          have HP := Lib.hid (P2'.out (by first | rfl | trivial) (by first | rfl | trivial))
          go_wp2
          go_roundw
          case rel => exact ⟨_, cnt2, hrg5, HM5.out, P1', HP.out, HBX5, HG5⟩
          case measure => rw [hrg5.left_eq, hrg.left_eq]; exact hlt
end

/-! impl.congruenceFrom, CongruenceIn. -/
section
open Go.RowKit Go.Maps

set_option maxHeartbeats 1000000 in
theorem cgf1_any (x0 y0 b m n c : Nat) (C : Option Addr) (zs : List (List Int)) (cl L : List Int) (w : World) (hn : zs.length = n) (hz : ∀ L ∈ zs, isC L = true ∧ L.length = m) (hs : Srt zs) (hL : L ∈ zs)
    (hown : w.ownsMap Tryz.prog 58 (plainElem (H := Unit) Tryz.prog 3) b n (mapP klL zs n)) (hC : RI w C n cl) (hx : w.cell? ⟨x0, 0, none⟩ = some (.slice C n c)) (hy : w.cell? ⟨y0, 0, none⟩ = some (.map (some b))) (hxl : x0 < w.heap.size) (hyl : y0 < w.heap.size) :
    Calls Tryz.prog 86 #[.agg #[.int .i64 ((m : Int)), .int .i64 (ofL L 0), .int .i64 (ofL L 1), .int .i64 (ofL L 2), .int .i64 (ofL L 3), .int .i64 (ofL L 4), .int .i64 (ofL L 5)], .pointer (some ⟨x0, 0, none⟩), .pointer (some ⟨y0, 0, none⟩)] w fun e w' => e = .returned (.int .i64 (kC zs cl L)) ∧ Below w.heap.size w w' := by
  obtain ⟨hi, _, _⟩ := ixP_mem hs hL
  rw [hn] at hi
  have hat := mapP_ix (H := Unit) hz hs hn hL (.lit (.int .i64 0))
  obtain ⟨kv, hkv⟩ : ∃ kv, kC zs cl L = kv := ⟨_, rfl⟩
  have HKV := Lib.hid hkv
  obtain ⟨ac, rfl, hab, hc⟩ := hC.at_ hi
  rw [show cl[ixP zs L]?.getD 0 = kC zs cl L from rfl, hkv] at hc
  clear hkv
  have hkey : keyOf Tryz.prog 58 (.agg #[.int .i64 ((m : Int)), .int .i64 (ofL L 0), .int .i64 (ofL L 1), .int .i64 (ofL L 2), .int .i64 (ofL L 3), .int .i64 (ofL L 4), .int .i64 (ofL L 5)]) = some (klL L) := by have := keyOf_L (hz L hL).1; rw [(hz L hL).2] at this; exact this
  have hB : Below w.heap.size w (w.alloc (.cells #[.int .i64 ((m : Int)), .int .i64 (ofL L 0), .int .i64 (ofL L 1), .int .i64 (ofL L 2), .int .i64 (ofL L 3), .int .i64 (ofL L 4), .int .i64 (ofL L 5)] 58)) := (Below.refl _ w).alloc (Nat.le_refl _) _
  have hown1 := hown.alloc (.cells #[.int .i64 ((m : Int)), .int .i64 (ofL L 0), .int .i64 (ofL L 1), .int .i64 (ofL L 2), .int .i64 (ofL L 3), .int .i64 (ofL L 4), .int .i64 (ofL L 5)] 58)
  have hch := Cb.new w (m : Int) (ofL L)
  have hcc := (hB.cell (p := ac.add (ixP zs L)) (by rw [block_of_add]; exact hab)).trans hc
  have hx1 := (hB.cell (p := ⟨x0, 0, none⟩) hxl).trans hx
  have hy1 := (hB.cell (p := ⟨y0, 0, none⟩) hyl).trans hy
  clear hC hc hab hown hz hs hL hn hx hy hxl hyl
  go_enter Tryz.func86, Tryz.ntmps86
  go_wp2
  generalize w.alloc (.cells #[.int .i64 ((m : Int)), .int .i64 (ofL L 0), .int .i64 (ofL L 1), .int .i64 (ofL L 2), .int .i64 (ofL L 3), .int .i64 (ofL L 4), .int .i64 (ofL L 5)] 58) = W0 at *
  have hrun : ∀ j, (Instr.lookup 48 (.map (some b)) (.agg #[.int .i64 ((m : Int)), .int .i64 (ofL L 0), .int .i64 (ofL L 1), .int .i64 (ofL L 2), .int .i64 (ofL L 3), .int .i64 (ofL L 4), .int .i64 (ofL L 5)]) false).run Tryz.prog (W0.drewN j) = .ok (.int .i64 (ixP zs L : Nat)) (W0.drewN j) := fun j => by
    have hz0 : (zeroValue 3).run Tryz.prog (W0.drewN j) = .ok (.int .i64 0) (W0.drewN j) := by kernel_rfl
    obtain ⟨z, hr, ha, _⟩ := World.ownsMap.lookup_int (w := W0.drewN j) hown1 ch_keyed Tryz.underlying48 Tryz.underlying3 hz0 hkey
    rw [hat] at ha
    injection ha with ha
    injection ha with _ ha
    rw [ha]; exact hr
  obtain ⟨a0, a1, a2, a3, a4, a5, a6⟩ := hch.all
  have hii : ((ixP zs L : Nat) : Int) < (n : Int) := by omega
  generalize ixP zs L = p at *
  go_quiet (fail)
  all_goals go_wp2
  go_ret
  exact ⟨by rw [HKV.out]; try rfl, below_drewN hB _⟩
/-- what a told congruence is in memory, or the zero one -/
def CgV (zs : List (List Int)) (cs : List Int) (w w' : World) (kv : Value) : Prop :=
  (cgB zs cs = false → kv = .agg #[.map none, .slice none 0 0, .map none]) ∧
  (cgB zs cs = true → ∃ b q C c, kv = .agg #[.map (some b), .slice C zs.length c, .map (some q)] ∧ KgI w' b q zs.length C zs cs ∧ w.heap.size ≤ b ∧ w.heap.size ≤ q)
theorem map_kC {zs : List (List Int)} {cs : List Int} (hs : Srt zs) (hl : cs.length = zs.length) : zs.map (kC zs cs) = cs := by
  apply List.ext_getElem?
  intro i
  by_cases hi : i < zs.length
  · rw [List.getElem?_map, List.getElem?_eq_getElem hi]
    have e : zs[i] = ent zs i := by unfold ent; rw [List.getElem?_eq_getElem hi]; rfl
    have e2 : kC zs cs (ent zs i) = ofL cs i := by unfold kC; rw [ixP_at hs hi]
    show some (kC zs cs zs[i]) = _
    rw [e, e2]
    unfold ofL
    rw [List.getElem?_eq_getElem (by omega)]; rfl
  · rw [List.getElem?_eq_none (by simp; omega), List.getElem?_eq_none (by omega)]
theorem ri_set {w : World} {A : Option Addr} {n : Nat} {zs : List Int} (h : RI w A n zs) {p : Addr} (hp : ∀ ad, A = some ad → ad.block ≠ p.block) (v : Value) : RI (w.setCell p v) A n zs := by
  refine ⟨h.1, h.2.1, fun h0 => ?_⟩
  obtain ⟨ad, e, hb, hc⟩ := h.2.2 h0
  refine ⟨ad, e, by simpa [World.setCell] using hb, fun j u hu => ?_⟩
  rw [World.cell?_setCell_other]
  · exact hc j u hu
  · intro e2
    exact hp ad e (by rw [e2, block_of_add])
theorem KgI.set_ {w : World} {b q n : Nat} {C : Option Addr} {zs : List (List Int)} {cl : List Int} (h : KgI w b q n C zs cl) {p : Addr} (h1 : b ≠ p.block) (h2 : q ≠ p.block) (hp : ∀ ad, C = some ad → ad.block ≠ p.block) (v : Value) : KgI (w.setCell p v) b q n C zs cl := by
  obtain ⟨nn, D, hm⟩ := h.mkd
  exact ⟨h.sem.setCell h1 v, ⟨nn, D, hm.setCell h2 v⟩, ri_set h.cls hp v, h.ne⟩
/-- what lies in memory while a told congruence is looked at -/
structure CfW (V W : World) (x0 z0 r0 b q n c m d : Nat) (C2 C : Option Addr) (zs : List (List Int)) (cs : List Int) : Prop where
  bx : Blk W z0 51 #[.map (some b), .slice C2 n c, .map (some q)]
  cx : Blk W x0 24 #[.slice C m d]
  br : Blk W r0 51 #[.map none, .slice none 0 0, .map none]
  kg : KgI W b q n C2 zs cs
  rc : RI W C m cs
  gr : V.grownBy W (some q)
section
variable {V W W' : World} {x0 z0 r0 b q n c m d : Nat} {C2 C : Option Addr} {zs : List (List Int)} {cs : List Int}
theorem CfW.below (h : CfW V W x0 z0 r0 b q n c m d C2 C zs cs) (hb : Below W.heap.size W W') : CfW V W' x0 z0 r0 b q n c m d C2 C zs cs := ⟨h.bx.below hb h.bx.lt, h.cx.below hb h.cx.lt, h.br.below hb h.br.lt, h.kg.below hb, h.rc.below hb, gbTr h.gr (gb_of hb _)⟩
theorem CfW.kept (h : CfW V W x0 z0 r0 b q n c m d C2 C zs cs) (hg : W.grownBy W' (some q)) (hm : ∃ nn D, W'.ownsMap Tryz.prog 3 (plainElem (H := Unit) Tryz.prog 3) q nn D) : CfW V W' x0 z0 r0 b q n c m d C2 C zs cs :=
  ⟨blk_kept h.bx hg h.kg.row, blk_kept h.cx hg h.kg.row, blk_kept h.br hg h.kg.row, h.kg.kept hg hm, ri_kept h.rc hg h.kg.row, gbTr h.gr hg⟩
theorem CfW.drew (h : CfW V W x0 z0 r0 b q n c m d C2 C zs cs) : CfW V W.drew x0 z0 r0 b q n c m d C2 C zs cs := h.below (below_drewN (Below.refl _ _) 1)
theorem CfW.c0 (h : CfW V W x0 z0 r0 b q n c m d C2 C zs cs) : W.cell? ⟨z0, 0, none⟩ = some (.map (some b)) := h.bx.cell 0
theorem CfW.c1 (h : CfW V W x0 z0 r0 b q n c m d C2 C zs cs) : W.cell? ⟨z0, 1, none⟩ = some (.slice C2 n c) := h.bx.cell 1
theorem CfW.c2 (h : CfW V W x0 z0 r0 b q n c m d C2 C zs cs) : W.cell? ⟨z0, 2, none⟩ = some (.map (some q)) := h.bx.cell 2
theorem CfW.cc (h : CfW V W x0 z0 r0 b q n c m d C2 C zs cs) : W.cell? ⟨x0, 0, none⟩ = some (.slice C m d) := h.cx.cell 0
theorem CfW.r_ (h : CfW V W x0 z0 r0 b q n c m d C2 C zs cs) : W.cell? ⟨r0, 0, none⟩ = some (.map none) ∧ W.cell? ⟨r0, 1, none⟩ = some (.slice none 0 0) ∧ W.cell? ⟨r0, 2, none⟩ = some (.map none) ∧ W.frozen? ⟨r0, 0, none⟩ = false ∧ W.frozen? ⟨r0, 1, none⟩ = false ∧ W.frozen? ⟨r0, 2, none⟩ = false := ⟨h.br.cell 0, h.br.cell 1, h.br.cell 2, h.br.frozen 0, h.br.frozen 1, h.br.frozen 2⟩
end
set_option maxHeartbeats 2000000 in
theorem cgFrom_any (A C : Option Addr) (n c m d : Nat) (zs : List (List Int)) (cs : List Int) (w : World) (h : RSS w A n zs) (h' : RI w C m cs) (hw : ∀ x ∈ cs, wfI x) (hg : EtAt w) :
    Calls Tryz.prog 44 #[.slice A n c, .slice C m d] w fun e w' => ∃ kv, e = .returned (.tuple #[kv, .bool (cgB zs cs)]) ∧ CgV zs cs w w' kv ∧ Below w.heap.size w w' := by
  have hB0 : Below w.heap.size w ((w.alloc (.cells #[.slice C m d] 24)).alloc (.cells #[.map none, .slice none 0 0, .map none] 51)) := ((Below.refl _ w).alloc (Nat.le_refl _) _).alloc (by simp) _
  have HBC := Lib.hid ((Blk.new w 24 #[.slice C m d]).alloc (.cells #[.map none, .slice none 0 0, .map none] 51))
  have hbr := Blk.new (w.alloc (.cells #[.slice C m d] 24)) 51 #[.map none, .slice none 0 0, .map none]
  rw [World.size_alloc] at hbr
  have HBR := Lib.hid hbr
  have HRC := Lib.hid h'
  have HL := Lib.hid h.len
  have HL' := Lib.hid h'.len
  have HWF := Lib.hid hw
  have htd := told_any A n c zs _ (h.below hB0) (hg.below hB0)
  clear h h' hw hg hbr
  go_enter Tryz.func44, Tryz.ntmps44
  go_wp2_with fail
  generalize (w.alloc (.cells #[.slice C m d] 24)).alloc (.cells #[.map none, .slice none 0 0, .map none] 51) = W0 at *
  have HB0 := Lib.hid hB0
  clear hB0
  refine htd.mono ?_
  rintro e w1 ⟨sv, rfl, hy, hno, hb1⟩
  have HBC1 := Lib.hid (HBC.out.below hb1 HBC.out.lt)
  have HBR1 := Lib.hid (HBR.out.below hb1 HBR.out.lt)
  have HB1 := Lib.hid (HB0.out.trans (hb1.mono HB0.out.size))
  cases hS : sgS zs
  · obtain rfl := hno hS
    have HF : Hid ((∀ W, CgV zs cs w W (.agg #[.map none, .slice none 0 0, .map none])) ∧ cgB zs cs = false) := ⟨fun _ => ⟨fun _ => rfl, fun e => (by rw [cg_nsg hS] at e; cases e)⟩, cg_nsg hS⟩
    have r0 : w1.cell? ⟨w.heap.size + 1, 0, none⟩ = some (.map none) := HBR1.out.cell 0
    have r1 : w1.cell? ⟨w.heap.size + 1, 1, none⟩ = some (.slice none 0 0) := HBR1.out.cell 1
    have r2 : w1.cell? ⟨w.heap.size + 1, 2, none⟩ = some (.map none) := HBR1.out.cell 2
    have f0 := HBR1.out.frozen 0
    have f1 := HBR1.out.frozen 1
    have f2 := HBR1.out.frozen 2
    have hlr := HBR1.out.lt
    have hb2 := ((HB1.out.setCell (p := ⟨w.heap.size + 1, 0, none⟩) (Nat.le_succ _) (.map none)).setCell (p := ⟨w.heap.size + 1, 1, none⟩) (Nat.le_succ _) (.slice none 0 0)).setCell (p := ⟨w.heap.size + 1, 2, none⟩) (Nat.le_succ _) (.map none)
    have HBF := Lib.hid (hb2.alloc hb2.size (.cells #[.map none] 48))
    clear hy hno hb1 htd hb2
    go_wp2
    exact bodyPost_ret (v := .tuple #[.agg #[.map none, .slice none 0 0, .map none], .bool false]) (by simp [results, Tryz.results44, go_sem, r0, r1, r2, hlr]) rfl ⟨_, by rw [HF.out.2], HF.out.1 _, HBF.out⟩
  · obtain ⟨b, rfl, hbl, hown⟩ := hy hS
    rw [HL.out] at hown
    have S := sgS_iff.1 hS
    have HSS := Lib.hid S
    have HS := Lib.hid hS
    have hn6 : n ≤ 1048576 := by have := S.most; have := HL.out; omega
    have hown2 := hown.alloc (.cells #[.map (some b)] 48)
    have hlen := hown2.len Tryz.underlying48
    rw [show Maps.size (mapP (H := Unit) klL zs n) = n by rw [← HL.out]; exact mapP_size S.ch S.srt zs.length (Nat.le_refl _)] at hlen
    have cc : (w1.alloc (.cells #[.map (some b)] 48)).cell? ⟨w.heap.size, 0, none⟩ = some (.slice C m d) := (HBC1.out.alloc _).cell 0
    have hcl := HBC1.out.lt
    have hBw := hb1.size
    have hw01 : w.heap.size + 1 < W0.heap.size := HBR.out.lt
    clear hy hno hb1 htd S hS hown
    by_cases hmn : m = n
    · subst hmn
      have hne : ((m : Int) != (m : Int)) = false := by simp
      have HB2 := Lib.hid (HB1.out.alloc HB1.out.size (.cells #[.map (some b)] 48))
      have HBC2 := Lib.hid (HBC1.out.alloc (.cells #[.map (some b)] 48))
      have HBR2 := Lib.hid (HBR1.out.alloc (.cells #[.map (some b)] 48))
      have HBS2 := Lib.hid (Blk.new w1 48 #[.map (some b)])
      have HMK := Lib.hid (map_kC (cs := cs) HSS.out.srt (HL'.out.trans HL.out.symm))
      have hof := cgOfI_any b (ent zs 0).length m 86 #[] #[.pointer (some ⟨w.heap.size, 0, none⟩), .pointer (some ⟨w1.heap.size, 0, none⟩)] zs HL.out hn6 HSS.out.ch HSS.out.srt (kC zs cs) (w1.alloc (.cells #[.map (some b)] 48)) (enters_of Tryz.func86 (by kernel_rfl) rfl)
        (fun L hL V hV => cgf1_any w.heap.size w1.heap.size b (ent zs 0).length m d C zs cs L V HL.out HSS.out.ch HSS.out.srt hL (ownsMap_same hown2 (hV.block b hown2.lt)) (HRC.out.below (HB2.out.trans (hV.mono HB2.out.size))) ((HBC2.out.below hV HBC2.out.lt).cell 0) ((HBS2.out.below hV HBS2.out.lt).cell 0) (HBC2.out.below hV HBC2.out.lt).lt (HBS2.out.below hV HBS2.out.lt).lt) hown2
      rw [HMK.out] at hof
      have hs12 : w.heap.size + 1 < (w1.alloc (.cells #[.map (some b)] 48)).heap.size := HBR2.out.lt
      go_wp2_with fail
      clear hlen cc hne
      generalize w1.alloc (.cells #[.map (some b)] 48) = w2 at *
      refine hof.mono ?_
      rintro e w3 ⟨C2, c2, q, rfl, hql, hkg, hlo, hb3⟩
      have hB3 := HB2.out.trans (hb3.mono HB2.out.size)
      have hb4 : Below w3.heap.size w3 (w3.alloc (.cells #[.map (some b), .slice C2 m c2, .map (some q)] 51)) := (Below.refl _ _).alloc (Nat.le_refl _) _
      have hB4 := hB3.trans (hb4.mono hB3.size)
      have hA : CfW (w3.alloc (.cells #[.map (some b), .slice C2 m c2, .map (some q)] 51)) (w3.alloc (.cells #[.map (some b), .slice C2 m c2, .map (some q)] 51)) w.heap.size w3.heap.size (w.heap.size + 1) b q m c2 m d C2 C zs cs :=
        ⟨Blk.new w3 _ _, (HBC2.out.below hb3 HBC2.out.lt).alloc _, (HBR2.out.below hb3 HBR2.out.lt).alloc _, hkg.below hb4, HRC.out.below hB4, World.grownBy.refl _ _⟩
      have HFB : Hid (∀ W, (w3.alloc (.cells #[.map (some b), .slice C2 m c2, .map (some q)] 51)).grownBy W (some q) → Below w.heap.size w W) := fun W hg => hB4.grown hg hB4.size (fun k e => by cases e; omega)
      have HLOW : Hid (∀ ad, C2 = some ad → ad.block ≠ w.heap.size + 1) := fun ad e h => by have := hlo ad e; omega
      have hqr : q ≠ w.heap.size + 1 := by omega
      have hbr : b ≠ w.heap.size + 1 := by omega
      have HNU := Lib.hid (fun (W : World) (nn : Nat) (D : DataW Unit) (hC : RI W C2 m cs) (hm : W.ownsMap Tryz.prog 3 (plainElem (H := Unit) Tryz.prog 3) q nn D) => numbersI_any (some b) q nn m c2 C2 cs D W hn6 HWF.out hC hm)
      have HKP := Lib.hid (fun (W : World) (hK : KgI W b q m C2 zs cs) => keepsI_any b q (ent zs 0).length m c2 C2 zs cs HL.out hn6 HSS.out.ch HSS.out.srt HSS.out.ti HWF.out W hK)
      have HCG : Hid (nuL (ofL cs) m = cs → cpB zs cs = true → cgB zs cs = true) := fun h1 h2 => cgB_iff.2 ⟨HS.out, HL'.out.trans HL.out.symm, by rw [HL.out]; exact h1, cpB_iff.1 h2⟩
      have HCN : Hid (nuL (ofL cs) m ≠ cs → cgB zs cs = false) := fun h1 => cg_nnu (by rw [HL.out]; exact h1)
      have HCP : Hid (cpB zs cs = false → cgB zs cs = false) := fun h1 => by unfold cgB; rw [h1]; simp
      have HZV : Hid (cgB zs cs = false → ∀ W, CgV zs cs w W (.agg #[.map none, .slice none 0 0, .map none])) := fun h0 W => ⟨fun _ => rfl, fun e => (by rw [h0] at e; cases e)⟩
      have HYV : Hid (cgB zs cs = true → ∀ W, KgI W b q m C2 zs cs → CgV zs cs w W (.agg #[.map (some b), .slice C2 m c2, .map (some q)])) := fun h0 W hk => ⟨fun e => (by rw [h0] at e; cases e), fun _ => ⟨b, q, C2, c2, by rw [HL.out], by rw [HL.out]; exact hk, by omega, by omega⟩⟩
      have hA1 := hA.drew
      have d0 := hA.c0
      have d1 := hA.c1
      have d2 := hA.c2
      have cc := hA.cc
      clear hof hown2 hkg hlo hb3 hB3 hb4 hB4 hA HBC2 HBR2 HBS2 HMK HBC HBR HB0 HBC1 HBR1 HB1 HB2
      by_cases hnu : nuL (ofL cs) m = cs
      · have hdn : decide (nuL (ofL cs) m = cs) = true := decide_eq_true hnu
        have HNE := Lib.hid hnu
        clear hnu
        cases hcp : cpB zs cs
        · have HC0 := Lib.hid (HCP.out hcp)
          rw [hcp] at HKP
          clear hcp
          go_wp2
          go_region_law (first
            | (go_simp
               go_at_call 66
               obtain ⟨nn5, D5, hm5⟩ := hA1.kg.mkd
               refine (HNU.out _ nn5 D5 hA1.kg.cls hm5).mono ?_
               rintro e w5 ⟨v5, rfl, hown5, hmm5, hg5⟩
               have hA1 := hA1.kept hg5 hmm5
               have d0 := hA1.c0
               have d1 := hA1.c1
               have d2 := hA1.c2
               have cc := hA1.cc
               obtain ⟨A5, c5, rfl⟩ := own_slice hown5
               have hr5 := RI.of_own hown5)
            | (go_simp
               go_at_call 87
               refine (slEq8_any A5 C m m c5 d (nuL (ofL cs) m) cs _ hr5 hA1.rc hn6).mono ?_
               rw [hdn]
               rintro e w6 ⟨rfl, hb6⟩
               have hA1 := hA1.below hb6
               have d0 := hA1.c0
               have d1 := hA1.c1
               have d2 := hA1.c2)
            | (go_simp
               go_at_call 88
               refine (HKP.out _ hA1.kg).mono ?_
               rintro e w7 ⟨rfl, hmm7, hg7⟩
               have hA1 := hA1.kept hg7 hmm7))
          all_goals
            (try simp only [List.getElem_toArray, List.getElem_cons_succ, List.getElem_cons_zero, Act.put, List.setIfInBounds_toArray, List.set_cons_zero, List.set_cons_succ])
            obtain ⟨r0, r1, r2, f0, f1, f2⟩ := hA1.r_
            have hlr := hA1.br.lt
            have HBF := Lib.hid ((((HFB.out _ hA1.gr).setCell (p := ⟨w.heap.size + 1, 0, none⟩) (Nat.le_succ _) (.map none)).setCell (p := ⟨w.heap.size + 1, 1, none⟩) (Nat.le_succ _) (.slice none 0 0)).setCell (p := ⟨w.heap.size + 1, 2, none⟩) (Nat.le_succ _) (.map none))
            clear hA1
            go_wp2
            exact bodyPost_ret (v := .tuple #[.agg #[.map none, .slice none 0 0, .map none], .bool false]) (by simp [results, Tryz.results44, go_sem, r0, r1, r2, hlr]) rfl ⟨_, by rw [HC0.out], HZV.out HC0.out _, HBF.out⟩
        · have HC0 := Lib.hid (HCG.out HNE.out hcp)
          rw [hcp] at HKP
          clear hcp
          go_wp2
          go_region_law (first
            | (go_simp
               go_at_call 66
               obtain ⟨nn5, D5, hm5⟩ := hA1.kg.mkd
               refine (HNU.out _ nn5 D5 hA1.kg.cls hm5).mono ?_
               rintro e w5 ⟨v5, rfl, hown5, hmm5, hg5⟩
               have hA1 := hA1.kept hg5 hmm5
               have d0 := hA1.c0
               have d1 := hA1.c1
               have d2 := hA1.c2
               have cc := hA1.cc
               obtain ⟨A5, c5, rfl⟩ := own_slice hown5
               have hr5 := RI.of_own hown5)
            | (go_simp
               go_at_call 87
               refine (slEq8_any A5 C m m c5 d (nuL (ofL cs) m) cs _ hr5 hA1.rc hn6).mono ?_
               rw [hdn]
               rintro e w6 ⟨rfl, hb6⟩
               have hA1 := hA1.below hb6
               have d0 := hA1.c0
               have d1 := hA1.c1
               have d2 := hA1.c2)
            | (go_simp
               go_at_call 88
               refine (HKP.out _ hA1.kg).mono ?_
               rintro e w7 ⟨rfl, hmm7, hg7⟩
               have hA1 := hA1.kept hg7 hmm7))
          all_goals
            (try simp only [List.getElem_toArray, List.getElem_cons_succ, List.getElem_cons_zero, Act.put, List.setIfInBounds_toArray, List.set_cons_zero, List.set_cons_succ])
            obtain ⟨r0, r1, r2, f0, f1, f2⟩ := hA1.r_
            have hlr := hA1.br.lt
            have HBF := Lib.hid ((((HFB.out _ hA1.gr).setCell (p := ⟨w.heap.size + 1, 0, none⟩) (Nat.le_succ _) (.map (some b))).setCell (p := ⟨w.heap.size + 1, 1, none⟩) (Nat.le_succ _) (.slice C2 m c2)).setCell (p := ⟨w.heap.size + 1, 2, none⟩) (Nat.le_succ _) (.map (some q)))
            have HKF := Lib.hid (((hA1.kg.set_ (p := ⟨w.heap.size + 1, 0, none⟩) hbr hqr HLOW.out (.map (some b))).set_ (p := ⟨w.heap.size + 1, 1, none⟩) hbr hqr HLOW.out (.slice C2 m c2)).set_ (p := ⟨w.heap.size + 1, 2, none⟩) hbr hqr HLOW.out (.map (some q)))
            have d0 := hA1.c0
            have d1 := hA1.c1
            have d2 := hA1.c2
            clear hA1
            go_wp2
            exact bodyPost_ret (v := .tuple #[.agg #[.map (some b), .slice C2 m c2, .map (some q)], .bool true]) (by simp [results, Tryz.results44, go_sem, r0, r1, r2, hlr]) rfl ⟨_, by rw [HC0.out], HYV.out HC0.out _ HKF.out, HBF.out⟩
      · have hdn : decide (nuL (ofL cs) m = cs) = false := decide_eq_false hnu
        have HC0 := Lib.hid (HCN.out hnu)
        clear hnu
        go_wp2
        go_region_law (first
          | (go_simp
             go_at_call 66
             obtain ⟨nn5, D5, hm5⟩ := hA1.kg.mkd
             refine (HNU.out _ nn5 D5 hA1.kg.cls hm5).mono ?_
             rintro e w5 ⟨v5, rfl, hown5, hmm5, hg5⟩
             have hA1 := hA1.kept hg5 hmm5
             have d0 := hA1.c0
             have d1 := hA1.c1
             have d2 := hA1.c2
             have cc := hA1.cc
             obtain ⟨A5, c5, rfl⟩ := own_slice hown5
             have hr5 := RI.of_own hown5)
          | (go_simp
             go_at_call 87
             refine (slEq8_any A5 C m m c5 d (nuL (ofL cs) m) cs _ hr5 hA1.rc hn6).mono ?_
             rw [hdn]
             rintro e w6 ⟨rfl, hb6⟩
             have hA1 := hA1.below hb6
             have d0 := hA1.c0
             have d1 := hA1.c1
             have d2 := hA1.c2))
        all_goals
          (try simp only [List.getElem_toArray, List.getElem_cons_succ, List.getElem_cons_zero, Act.put, List.setIfInBounds_toArray, List.set_cons_zero, List.set_cons_succ])
          obtain ⟨r0, r1, r2, f0, f1, f2⟩ := hA1.r_
          have hlr := hA1.br.lt
          have HBF := Lib.hid ((((HFB.out _ hA1.gr).setCell (p := ⟨w.heap.size + 1, 0, none⟩) (Nat.le_succ _) (.map none)).setCell (p := ⟨w.heap.size + 1, 1, none⟩) (Nat.le_succ _) (.slice none 0 0)).setCell (p := ⟨w.heap.size + 1, 2, none⟩) (Nat.le_succ _) (.map none))
          clear hA1
          go_wp2
          exact bodyPost_ret (v := .tuple #[.agg #[.map none, .slice none 0 0, .map none], .bool false]) (by simp [results, Tryz.results44, go_sem, r0, r1, r2, hlr]) rfl ⟨_, by rw [HC0.out], HZV.out HC0.out _, HBF.out⟩
    · have hne : ((m : Int) != (n : Int)) = true := by simp; omega
      have HF : Hid ((∀ W, CgV zs cs w W (.agg #[.map none, .slice none 0 0, .map none])) ∧ cgB zs cs = false) := by
        have h0 : cgB zs cs = false := cg_nlen (by rw [HL.out, HL'.out]; exact hmn)
        exact ⟨fun _ => ⟨fun _ => rfl, fun e => (by rw [h0] at e; cases e)⟩, h0⟩
      have r0 : w1.cell? ⟨w.heap.size + 1, 0, none⟩ = some (.map none) := HBR1.out.cell 0
      have r1 : w1.cell? ⟨w.heap.size + 1, 1, none⟩ = some (.slice none 0 0) := HBR1.out.cell 1
      have r2 : w1.cell? ⟨w.heap.size + 1, 2, none⟩ = some (.map none) := HBR1.out.cell 2
      have f0 := HBR1.out.frozen 0
      have f1 := HBR1.out.frozen 1
      have f2 := HBR1.out.frozen 2
      have hlr := HBR1.out.lt
      have hb2 := ((HB1.out.setCell (p := ⟨w.heap.size + 1, 0, none⟩) (Nat.le_succ _) (.map none)).setCell (p := ⟨w.heap.size + 1, 1, none⟩) (Nat.le_succ _) (.slice none 0 0)).setCell (p := ⟨w.heap.size + 1, 2, none⟩) (Nat.le_succ _) (.map none)
      have HBF := Lib.hid (hb2.alloc hb2.size (.cells #[.map (some b)] 48))
      clear hb2 hown2
      go_wp2
      exact bodyPost_ret (v := .tuple #[.agg #[.map none, .slice none 0 0, .map none], .bool false]) (by simp [results, Tryz.results44, go_sem, r0, r1, r2, hlr]) rfl ⟨_, by rw [HF.out.2], HF.out.1 _, HBF.out⟩
end

/-! impl.CongruenceIn, CongruenceFiner. -/
section
open Go.RowKit Go.Maps

set_option maxHeartbeats 1000000 in
theorem implCgIn_any (A C : Option Addr) (n c m d : Nat) (zs : List (List Int)) (cs : List Int) (w : World) (h : RSS w A n zs) (h' : RI w C m cs) (hw : ∀ x ∈ cs, wfI x) (hg : EtAt w) :
    Calls Tryz.prog 12 #[.slice A n c, .slice C m d] w fun e w' => e = .returned (.bool (cgB zs cs)) ∧ Below w.heap.size w w' := by
  have hcf := cgFrom_any A C n c m d zs cs w h h' hw hg
  clear h h' hw hg
  go_enter Tryz.func12, Tryz.ntmps12
  go_wp2_with fail
  refine hcf.mono ?_
  rintro e w1 ⟨kv, rfl, hkv, hb⟩
  clear hcf
  cases hr : cgB zs cs
  · obtain rfl := hkv.1 hr
    clear hkv
    have hsz := hb.size
    go_wp2
    go_ret
    exact ⟨by rw [hr]; try rfl, by first | exact hb | exact hb.alloc hsz _⟩
  · obtain ⟨b, q, C2, c2, rfl, _⟩ := hkv.2 hr
    clear hkv
    have hsz := hb.size
    go_wp2
    go_ret
    exact ⟨by rw [hr]; try rfl, by first | exact hb | exact hb.alloc hsz _⟩
theorem fi_ag {zs : List (List Int)} {cs ds : List Int} (h1 : cgB zs cs = true) (h2 : cgB zs ds = true) : agB zs cs (kC zs ds) = fiB zs cs ds := by
  have S := sgS_iff.1 (cgB_iff.1 h1).sg
  unfold fiB
  rw [h1, h2, Bool.true_and, Bool.true_and, Bool.eq_iff_iff, agB_iff, dbB_iff]
  have hk : ∀ (cl : List Int) i, i < zs.length → kC zs cl (ent zs i) = ofL cl i := fun cl i hi => by unfold kC; rw [ixP_at S.srt hi]
  have hf : ∀ i k, fiP cs ds i k = true ↔ (ofL cs i = ofL cs k → ofL ds i = ofL ds k) := fun i k => by
    unfold fiP
    rw [Bool.or_eq_true, Bool.not_eq_true', decide_eq_false_iff_not, decide_eq_true_eq]
    constructor
    · rintro (h | h) e
      · exact absurd e h
      · exact h
    · intro h
      by_cases e : ofL cs i = ofL cs k
      · exact .inr (h e)
      · exact .inl e
  constructor
  · intro h i hi k hk'
    rw [hf]
    intro e
    have := h _ (ent_mem hi) _ (ent_mem (show k < zs.length by omega))
    rw [hk cs i hi, hk cs k (by omega), hk ds i hi, hk ds k (by omega)] at this
    exact this e
  · intro h L hL M hM e
    obtain ⟨i, hi, rfl⟩ := mem_ent hL
    obtain ⟨k, hk', rfl⟩ := mem_ent hM
    rw [hk cs i hi, hk cs k hk'] at e
    rw [hk ds i hi, hk ds k hk']
    rcases Nat.lt_trichotomy i k with g | g | g
    · exact ((hf k i).1 (h k hk' i g) e.symm).symm
    · subst g; rfl
    · exact (hf i k).1 (h i hi k g) e
set_option maxHeartbeats 2000000 in
theorem implFiner_any (A C D : Option Addr) (n c m d m' d' : Nat) (zs : List (List Int)) (cs ds : List Int) (w : World) (h : RSS w A n zs) (h' : RI w C m cs) (h2 : RI w D m' ds) (hw : ∀ x ∈ cs, wfI x) (hw2 : ∀ x ∈ ds, wfI x) (hg : EtAt w) :
    Calls Tryz.prog 27 #[.slice A n c, .slice C m d, .slice D m' d'] w fun e w' => e = .returned (.bool (fiB zs cs ds)) ∧ Below w.heap.size w w' := by
  have hcf := cgFrom_any A C n c m d zs cs w h h' hw hg
  have HCF2 := Lib.hid (fun (W : World) (hb : Below w.heap.size w W) => cgFrom_any A D n c m' d' zs ds W (h.below hb) (h2.below hb) hw2 (hg.below hb))
  have HW := Lib.hid hw
  have HW2 := Lib.hid hw2
  clear h h' h2 hw hw2 hg
  go_enter Tryz.func27, Tryz.ntmps27
  go_wp2_with fail
  refine hcf.mono ?_
  rintro e w1 ⟨kv, rfl, hkv, hb⟩
  clear hcf
  cases hr : cgB zs cs
  · obtain rfl := hkv.1 hr
    have HF : Hid (fiB zs cs ds = false) := by show _ = _; unfold fiB; rw [hr]; rfl
    have hb1 := hb.alloc hb.size (.cells #[.map none, .slice none 0 0, .map none] 51)
    have hcf2 := HCF2.out _ hb1
    clear hkv hr
    go_wp2_with fail
    refine hcf2.mono ?_
    rintro e w2 ⟨kv2, rfl, hkv2, hb2⟩
    have HB2 := Lib.hid (hb1.trans (hb2.mono hb1.size))
    clear hcf2 hb1 hb2
    cases hr2 : cgB zs ds
    · obtain rfl := hkv2.1 hr2
      have HBF := Lib.hid (HB2.out.alloc HB2.out.size (.cells #[.map none, .slice none 0 0, .map none] 51))
      clear hkv2 hr2
      go_wp2
      go_ret
      exact ⟨by rw [HF.out]; try rfl, HBF.out⟩
    · obtain ⟨b2, q2, C3, c3, rfl, _⟩ := hkv2.2 hr2
      have HBF := Lib.hid (HB2.out.alloc HB2.out.size (.cells #[.map (some b2), .slice C3 zs.length c3, .map (some q2)] 51))
      clear hkv2 hr2
      go_wp2
      go_ret
      exact ⟨by rw [HF.out]; try rfl, HBF.out⟩
  · obtain ⟨b, q, C2, c2, rfl, hk1, hb1l, hq1l⟩ := hkv.2 hr
    have hb1 := hb.alloc hb.size (.cells #[.map (some b), .slice C2 zs.length c2, .map (some q)] 51)
    have HK1 := Lib.hid (hk1.below ((Below.refl _ w1).alloc (Nat.le_refl _) (.cells #[.map (some b), .slice C2 zs.length c2, .map (some q)] 51)))
    have HBX1 := Lib.hid (Blk.new w1 51 #[.map (some b), .slice C2 zs.length c2, .map (some q)])
    have hcf2 := HCF2.out _ hb1
    clear hkv hk1
    go_wp2_with fail
    refine hcf2.mono ?_
    rintro e w2 ⟨kv2, rfl, hkv2, hb2⟩
    have HB2 := Lib.hid (hb1.trans (hb2.mono hb1.size))
    have HK2 := Lib.hid (HK1.out.below hb2)
    have HBX2 := Lib.hid (HBX1.out.below hb2 HBX1.out.lt)
    have hqs := HK1.out.q_lt
    have hbs2 := hb1.size
    clear hcf2 hb1 hb2 HK1 HBX1
    cases hr2 : cgB zs ds
    · obtain rfl := hkv2.1 hr2
      have HF : Hid (fiB zs cs ds = false) := by show _ = _; unfold fiB; rw [hr, hr2]; rfl
      have HBF := Lib.hid (HB2.out.alloc HB2.out.size (.cells #[.map none, .slice none 0 0, .map none] 51))
      clear hkv2 hr2 hr
      go_wp2
      go_ret
      exact ⟨by rw [HF.out]; try rfl, HBF.out⟩
    · obtain ⟨b2, q2, C3, c3, rfl, hk2, hb2l, hq2l⟩ := hkv2.2 hr2
      have S := sgS_iff.1 (cgB_iff.1 hr).sg
      have hFE := fi_ag hr hr2
      have HBF := HB2.out.alloc HB2.out.size (.cells #[.map (some b2), .slice C3 zs.length c3, .map (some q2)] 51)
      have hb3 := ((Below.refl _ w2).alloc (Nat.le_refl _) (.cells #[.map (some b2), .slice C3 zs.length c3, .map (some q2)] 51))
      have hkA := HK2.out.below hb3
      have hkB := hk2.below hb3
      have hqq : b2 ≠ q := fun e => by omega
      have d0 := (HBX2.out.alloc (.cells #[.map (some b2), .slice C3 zs.length c3, .map (some q2)] 51)).cell 0
      have hag := agreesI_any b q (ent zs 0).length zs.length c2 70 #[.agg #[.map (some b2), .slice C3 zs.length c3, .map (some q2)]] #[] C2 zs cs (kC zs ds) rfl (by have := S.most; omega) S.ch S.srt HW.out
        (fun L hL => kc_wf S.srt ((cgB_iff.1 hr2).len) HW2.out hL) _ (enters_of Tryz.func70 (by kernel_rfl) rfl)
        (fun L hL V hV => classI_any b2 (ent zs 0).length zs.length c3 (some q2) C3 zs ds L V rfl S.ch S.srt hL (hkB.sem.kept hV (fun e => hqq (by cases e; rfl))) (ri_kept hkB.cls hV hkA.row)) hkA
      rw [hFE] at hag
      have HBG : Hid (∀ W, (w2.alloc (.cells #[.map (some b2), .slice C3 zs.length c3, .map (some q2)] 51)).grownBy W (some q) → Below w.heap.size w W) := fun W hg => HBF.grown hg HBF.size (fun k e => by cases e; omega)
      have e0 : (w2.alloc (.cells #[.map (some b2), .slice C3 zs.length c3, .map (some q2)] 51)).cell? ⟨w1.heap.size, 0, none⟩ = some (.map (some b)) := (HBX2.out.alloc _).cell 0
      have e1 : (w2.alloc (.cells #[.map (some b2), .slice C3 zs.length c3, .map (some q2)] 51)).cell? ⟨w1.heap.size, 1, none⟩ = some (.slice C2 zs.length c2) := (HBX2.out.alloc _).cell 1
      have e2 : (w2.alloc (.cells #[.map (some b2), .slice C3 zs.length c3, .map (some q2)] 51)).cell? ⟨w1.heap.size, 2, none⟩ = some (.map (some q)) := (HBX2.out.alloc _).cell 2
      have hlx := HBX2.out.lt
      clear hkv2 hr2 hr HK2 hk2 hkA hkB S hFE HBF hb3 HBX2 d0 HB2 hb
      go_wp2_with fail
      refine hag.mono ?_
      rintro e w3 ⟨rfl, _, hg3⟩
      have HB3 := Lib.hid (HBG.out _ hg3)
      clear hag hg3
      go_wp2
      go_ret
      exact ⟨rfl, HB3.out⟩
end

/-! (impl.congruence[int]).markAll, splits; CongruenceSplits, CongruenceSize. -/
section
open Go.RowKit Go.Maps

theorem own_nmap {w : World} {lo size n q nn : Nat} {e K : TypeId} {v : Value} {xs : List Value} {R : Value → Option (DataW Unit × List MemPlace)} {D : DataW Unit} (h : w.ownsRow lo e size v n xs) (hm : w.ownsMap Tryz.prog K R q nn D) : v.ownBlock ≠ some q := fun e2 => by
  rcases h.2 with ⟨rfl, _⟩ | ⟨g, cap, cur, rfl, _, hh, _⟩
  · cases e2
  · cases e2
    obtain ⟨es, clock, hb, _⟩ := hm
    rw [hb] at hh
    cases hh
/-- the class of the i-th of some charts -/
def cAt (zs : List (List Int)) (cl : List Int) (Ls : List (List Int)) (i : Nat) : Int := kC zs cl (ent Ls i)
structure MaS (w wr : World) (b q n c lo k : Nat) (C : Option Addr) (zs : List (List Int)) (cl : List Int) (m : Nat) (Ls : List (List Int)) (v : Value) : Prop where
  row : wr.ownsRow lo 58 7 v Ls.length (cwc m Ls)
  mkd : wr.ownsMap Tryz.prog 3 (plainElem (H := Unit) Tryz.prog 3) q k (mrD (cAt zs cl Ls) kfI (fun i => (i : Int)) k)
  bx : Blk wr w.heap.size 51 #[.map (some b), .slice C n c, .map (some q)]
  sem : wr.ownsMap Tryz.prog 58 (plainElem (H := Unit) Tryz.prog 3) b n (mapP klL zs n)
  cls : RI wr C n cl
  gr : w.grownBy wr (some q)
set_option maxHeartbeats 2000000 in
theorem markAllI_any (b q m n c lo : Nat) (C : Option Addr) (zs : List (List Int)) (cl : List Int) (Ls : List (List Int)) (v : Value) (hn : zs.length = n) (hn6 : n ≤ 1048576) (hr6 : Ls.length ≤ 1048576) (hz : ∀ L ∈ zs, isC L = true ∧ L.length = m) (hs : Srt zs) (hw : ∀ x ∈ cl, wfI x) (hLs : ∀ L ∈ Ls, L ∈ zs) (w : World)
    (hrow : w.ownsRow lo 58 7 v Ls.length (cwc m Ls)) (hK : KgI w b q n C zs cl) :
    Calls Tryz.prog 81 #[.agg #[.map (some b), .slice C n c, .map (some q)], v] w fun e w' => e = .returned (.int .i64 (frC (cAt zs cl Ls) Ls.length : Nat)) ∧ (∃ nn D, w'.ownsMap Tryz.prog 3 (plainElem (H := Unit) Tryz.prog 3) q nn D ∧ ∀ x, Maps.has D x = true ↔ ∃ i, i < Ls.length ∧ kfI (cAt zs cl Ls i) = x) ∧ w.grownBy w' (some q) := by
  obtain ⟨A, cp, rfl⟩ := own_shape hrow
  obtain ⟨nn0, D0, hmk⟩ := hK.mkd
  have hbq := hK.ne
  have hown1 := hmk.alloc (.cells #[.map (some b), .slice C n c, .map (some q)] 51)
  have hsem1 := hK.sem.alloc (.cells #[.map (some b), .slice C n c, .map (some q)] 51)
  have hrow1 := hrow.alloc (.cells #[.map (some b), .slice C n c, .map (some q)] 51)
  have hbx0 := Blk.new w 51 #[.map (some b), .slice C n c, .map (some q)]
  have hg0 := gb_al0 w (.cells #[.map (some b), .slice C n c, .map (some q)] 51) (some q)
  obtain ⟨w1, hrun, hm1, hg1⟩ := clear_run (t := 49) _ Tryz.underlying49 hown1 0
  have hgr1 := gbTr hg0 hg1
  have HS0 : Hid (MaS w w1 b q n c lo 0 C zs cl m Ls (.slice A Ls.length cp)) := ⟨hrow1.kept hg1 (.inr (own_nmap hrow1 hown1)), hm1, blk_kept hbx0 hg1 (row_map hown1), hsem1.kept hg1 (fun e => hbq (by cases e; rfl)), ri_kept hK.cls hgr1 hK.row, hgr1⟩
  have k2 := hbx0.cell 2
  have HLS := Lib.hid hLs
  have HZ := Lib.hid hz
  have HWC := Lib.hid (fun (L : List Int) (hL : L ∈ zs) => kc_wf hs (hK.cls.len.trans hn.symm) hw hL)
  have HCC := Lib.hid (fun (V W : World) (nn : Nat) (D : DataW Unit) (L : List Int) (y0 : Nat) (hL : L ∈ zs) (hA : AgW V W w.heap.size b q n c nn C zs cl D m L y0) => classI_any b m n c (some q) C zs cl L W hn hz hs hL hA.sem hA.cls)
  clear hown1 hsem1 hrow1 hbx0 hg0 hg1 hmk hgr1 hm1 hLs hz hs hw hn hK hrow
  go_enter Tryz.func81, Tryz.ntmps81
  go_wp2
  go_loopw [5, 6, 11] (fun _ _ s wr => ∃ k : Nat, k ≤ Ls.length ∧ s = .int .i64 (k : Int) ∧ Hid (MaS w wr b q n c lo k C zs cl m Ls (.slice A Ls.length cp))) (fun _ _ s _ => Ls.length - (intOf s).toNat)
  case atStart => exact ⟨0, Nat.zero_le _, rfl, HS0.out⟩
  case round =>
    clear HS0 hrun k2
    obtain ⟨k, hkn, rfl, HN⟩ := hrel
    by_cases hlt : k < Ls.length
    · have hkk : (k : Int) < (Ls.length : Int) := by omega
      obtain ⟨L, hL⟩ : ∃ L, Ls[k]? = some L := ⟨_, List.getElem?_eq_getElem hlt⟩
      have hLz := HLS.out L (List.mem_of_getElem? hL)
      obtain ⟨g1, cp1, hv, _, hg1⟩ := HN.out.row.form (by omega)
      injection hv with hv1 _ hv3
      subst hv1
      subst hv3
      have hC1 : Chs wr g1 m Ls := Chs.of_own HN.out.row
      obtain ⟨a0, a1, a2, a3, a4, a5, a6⟩ := hC1.all hL
      have hE : cAt zs cl Ls k = kC zs cl L := by unfold cAt ent; rw [hL]; rfl
      have hAW0 : AgW wr (wr.alloc (.cells #[.int .i64 ((m : Int)), .int .i64 (ofL L 0), .int .i64 (ofL L 1), .int .i64 (ofL L 2), .int .i64 (ofL L 3), .int .i64 (ofL L 4), .int .i64 (ofL L 5)] 58)) w.heap.size b q n c k C zs cl (mrD (cAt zs cl Ls) kfI (fun i => (i : Int)) k) m L wr.heap.size :=
        ⟨HN.out.bx.alloc _, Cb.new wr _ _, HN.out.sem.alloc _, HN.out.mkd.alloc _, HN.out.cls.below ((Below.refl _ _).alloc (Nat.le_refl _) _), gb_al0 wr _ _⟩
      have hwv : wfI (k : Int) := WalkArith.wf_i64 (by omega)
      have HMC := Lib.hid (fun (W : World) (hA : AgW wr W w.heap.size b q n c k C zs cl (mrD (cAt zs cl Ls) kfI (fun i => (i : Int)) k) m L wr.heap.size) => markI_any (some b) q k n c C (kC zs cl L) (k : Int) _ W hA.mkd (HWC.out L hLz) hwv (by unfold maxLen; omega))
      have HC2 := Lib.hid (fun (W : World) hA => HCC.out wr W k (mrD (cAt zs cl Ls) kfI (fun i => (i : Int)) k) L wr.heap.size hLz hA)
      have HMS : Hid (mrk (mrD (H := Unit) (cAt zs cl Ls) kfI (fun i => (i : Int)) k) (.int .i64 (kC zs cl L)) (k : Int) = mrD (cAt zs cl Ls) kfI (fun i => (i : Int)) (k + 1)) := by
        show _ = _
        rw [← hE]; rfl
      have hrow2 := HN.out.row
      have hng := own_nmap hrow2 HN.out.mkd
      have HROW : Hid (∀ W, wr.grownBy W (some q) → W.ownsRow lo 58 7 (.slice (some ⟨g1, 0, none⟩) Ls.length cp) Ls.length (cwc m Ls)) := fun W hg => hrow2.kept hg (.inr hng)
      have HGR := Lib.hid (fun (W : World) (hg : wr.grownBy W (some q)) => gbTr HN.out.gr hg)
      have hA1 := hAW0.drew
      have d0 := hAW0.c0
      have d1 := hAW0.c1
      have d2 := hAW0.c2
      obtain ⟨e0, e1, e2, e3, e4, e5, e6⟩ := hAW0.cx.all
      clear hL hLz hC1 hAW0 HN hrow2 hng hE hwv
      generalize kC zs cl L = kv at *
      generalize mrD (H := Unit) (cAt zs cl Ls) kfI (fun i => (i : Int)) k = Dk at *
      go_wp2
      go_region_law (first
        | (go_simp
           go_at_call 70
           refine (HC2.out _ hA1).mono ?_
           rintro e w5 ⟨rfl, hb5⟩
           have hA1 := hA1.below hb5
           have d0 := hA1.c0
           have d1 := hA1.c1
           have d2 := hA1.c2)
        | (go_simp
           go_at_call 112
           refine (HMC.out _ hA1).mono ?_
           rintro e w6 ⟨z, rfl, hz6, hm6, hg6⟩))
      all_goals
        (try simp only [List.getElem_toArray, List.getElem_cons_succ, List.getElem_cons_zero, Act.put, List.setIfInBounds_toArray, List.set_cons_zero, List.set_cons_succ])
        rw [HMS.out] at hm6
        have hgf := gbTr hA1.gr hg6
        have HN6 : Hid (MaS w w6 b q n c lo (k + 1) C zs cl m Ls (.slice (some ⟨g1, 0, none⟩) Ls.length cp)) := ⟨HROW.out _ hgf, hm6, blk_kept hA1.bx hg6 (row_map hA1.mkd), hA1.sem.kept hg6 (fun e => hbq (by cases e; rfl)), ri_kept hA1.cls hg6 (row_map hA1.mkd), HGR.out _ hgf⟩
        clear hA1 hb5 hg6 hgf hm6 hz6
        go_wp2
        go_roundw
        case rel => exact ⟨k + 1, by omega, by go_num, HN6.out⟩
        case measure => simp [intOf]; omega
    · obtain rfl : k = Ls.length := by omega
      have hkk : ¬ (Ls.length : Int) < (Ls.length : Int) := by omega
      have hinj : ∀ i j, i < Ls.length → j < Ls.length → kfI (cAt zs cl Ls i) = kfI (cAt zs cl Ls j) → cAt zs cl Ls i = cAt zs cl Ls j := fun i j _ _ h => kfI_inj h
      have hlen := HN.out.mkd.len Tryz.underlying49
      rw [mrD_size (n := Ls.length) kfI_key hinj Ls.length (Nat.le_refl _)] at hlen
      have HH : Hid (∀ x, Maps.has (mrD (H := Unit) (cAt zs cl Ls) kfI (fun i => (i : Int)) Ls.length) x = true ↔ ∃ i, i < Ls.length ∧ kfI (cAt zs cl Ls i) = x) := fun x => mrD_has kfI_key Ls.length
      have d2 : wr.cell? ⟨w.heap.size, 2, none⟩ = some (.map (some q)) := HN.out.bx.cell 2
      clear hinj
      go_wp2
      go_ret
      exact ⟨by try rfl, ⟨_, _, HN.out.mkd, HH.out⟩, HN.out.gr⟩
set_option maxHeartbeats 1000000 in
theorem markAllI_none (w : World) (S : Option Addr) :
    Calls Tryz.prog 81 #[.agg #[.map none, .slice none 0 0, .map none], .slice S 0 0] w fun e w' => e = .returned (.int .i64 0) ∧ Below w.heap.size w w' := by
  have hB := (Below.refl _ w).alloc (Nat.le_refl _) (.cells #[.map none, .slice none 0 0, .map none] 51)
  have hlen := fun (W : World) => Maps.len_nil (w := W) (P := Tryz.prog) Tryz.underlying49
  have hcl : ∀ W : World, (Builtin.clear_ #[49] 0 #[.map none]).run Tryz.prog W = .ok (.tuple #[]) W := fun W => by
    simp [Builtin.clear_, run_underlying Tryz.underlying49]
  have k2 := (Blk.new w 51 #[.map none, .slice none 0 0, .map none]).cell 2
  go_enter Tryz.func81, Tryz.ntmps81
  go_wp2
  go_loopw [5, 6, 11] (fun _ _ s wr => s = .int .i64 0 ∧ wr = w.alloc (.cells #[.map none, .slice none 0 0, .map none] 51)) (fun _ _ _ _ => 0)
  case atStart => exact ⟨rfl, rfl⟩
  case round =>
    obtain ⟨rfl, rfl⟩ := hrel
    go_wp2
    go_ret
    exact ⟨by try rfl, hB⟩
theorem fr_full {α : Type} [DecidableEq α] {c : Nat → α} : ∀ {n : Nat}, frC c n = n ↔ ∀ i, i < n → ∀ j, j < i → c j ≠ c i
  | 0 => by simp [frC]
  | n + 1 => by
    have hle := frC_le c n
    constructor
    · intro h
      by_cases hf : fsE c n = n
      · rw [frC_next hf] at h
        have ih := (fr_full (c := c) (n := n)).1 (by omega)
        intro i hi j hj
        rcases Nat.lt_or_ge i n with g | g
        · exact ih i g j hj
        · obtain rfl : i = n := by omega
          exact fsE_none c i j (by omega)
      · rw [frC_same hf] at h; omega
    · intro h
      have hf : fsE c n = n := fsE_is (Nat.le_refl _) rfl (fun j hj => h n (by omega) j hj)
      rw [frC_next hf, (fr_full (c := c) (n := n)).2 (fun i hi j hj => h i (by omega) j hj)]
theorem srt_inj {zs : List (List Int)} (hs : Srt zs) {i j : Nat} (hi : i < zs.length) (hj : j < zs.length) (e : ent zs i = ent zs j) : i = j := by
  rcases Nat.lt_trichotomy i j with g | g | g
  · have := hs i j g hj; rw [e, lexB_irrefl] at this; cases this
  · exact g
  · have := hs j i g hi; rw [e, lexB_irrefl] at this; cases this
theorem srt_nodup8 {zs : List (List Int)} (hs : Srt zs) : zs.Nodup := by
  rw [List.Nodup, List.pairwise_iff_getElem]
  intro i j hi hj hij e
  have e1 : ent zs i = zs[i] := by unfold ent; rw [List.getElem?_eq_getElem hi]; rfl
  have e2 : ent zs j = zs[j] := by unfold ent; rw [List.getElem?_eq_getElem hj]; rfl
  have := srt_inj hs hi hj (by rw [e1, e2, e])
  omega
theorem nodup_ent {l : List (List Int)} (h : l.Nodup) {i j : Nat} (hi : i < l.length) (hj : j < l.length) (e : ent l i = ent l j) : i = j := by
  have e1 : ent l i = l[i] := by unfold ent; rw [List.getElem?_eq_getElem hi]; rfl
  have e2 : ent l j = l[j] := by unfold ent; rw [List.getElem?_eq_getElem hj]; rfl
  rw [e1, e2] at e
  exact (List.getElem_inj h).1 e
theorem cAt_all {zs : List (List Int)} {cl : List Int} (hs : Srt zs) {i : Nat} (hi : i < zs.length) : cAt zs cl zs i = ofL cl i := by unfold cAt kC; rw [ixP_at hs hi]
theorem size_is {zs : List (List Int)} {cs : List Int} (hc : cgB zs cs = true) : frC (cAt zs cs zs) zs.length = szN zs cs := by
  have S := sgS_iff.1 (cgB_iff.1 hc).sg
  unfold szN
  rw [if_pos hc]
  exact fr_same (fun i j hi hj => by rw [cAt_all S.srt hi, cAt_all S.srt hj]) _ (Nat.le_refl _)
theorem splits_is {zs : List (List Int)} {cs : List Int} (hc : cgB zs cs = true) : frC (cAt zs cs (zs.filter idB)) (zs.filter idB).length = (zs.filter idB).length ↔ spB zs cs = true := by
  have S := sgS_iff.1 (cgB_iff.1 hc).sg
  have hnd : (zs.filter idB).Nodup := List.Pairwise.filter _ (srt_nodup8 S.srt)
  have hk : ∀ i, i < zs.length → kC zs cs (ent zs i) = ofL cs i := fun i hi => by unfold kC; rw [ixP_at S.srt hi]
  have hsp : ∀ i k, spP zs cs i k = true ↔ ¬ (ofL cs i = ofL cs k ∧ idB (ent zs i) = true ∧ idB (ent zs k) = true) := fun i k => by
    unfold spP
    rw [Bool.not_eq_true', Bool.and_eq_false_iff, Bool.and_eq_false_iff, decide_eq_false_iff_not]
    constructor
    · rintro ((h | h) | h) ⟨h1, h2, h3⟩
      · exact h h1
      · rw [h2] at h; cases h
      · rw [h3] at h; cases h
    · intro h
      by_cases h1 : ofL cs i = ofL cs k
      · cases h2 : idB (ent zs i)
        · exact .inl (.inr rfl)
        · cases h3 : idB (ent zs k)
          · exact .inr rfl
          · exact absurd ⟨h1, h2, h3⟩ h
      · exact .inl (.inl h1)
  unfold spB
  rw [hc, Bool.true_and, dbB_iff, fr_full]
  constructor
  · intro h i hi k hki
    rw [hsp]
    rintro ⟨e, h1, h2⟩
    have hk' : k < zs.length := by omega
    obtain ⟨p, hp, ep⟩ := mem_ent (List.mem_filter.2 ⟨ent_mem hi, h1⟩)
    obtain ⟨r, hr, er⟩ := mem_ent (List.mem_filter.2 ⟨ent_mem hk', h2⟩)
    have hce : cAt zs cs (zs.filter idB) p = cAt zs cs (zs.filter idB) r := by unfold cAt; rw [ep, er, hk i hi, hk k hk']; exact e
    rcases Nat.lt_trichotomy p r with g | g | g
    · exact h r hr p g hce
    · subst g
      have := srt_inj S.srt hi hk' (ep.symm.trans er)
      omega
    · exact h p hp r g hce.symm
  · intro h p hp r hr e
    have m1 := List.mem_filter.1 (ent_mem hp)
    have m2 := List.mem_filter.1 (ent_mem (show r < (zs.filter idB).length by omega))
    obtain ⟨i, hi, ei⟩ := mem_ent m1.1
    obtain ⟨k, hk', ek⟩ := mem_ent m2.1
    unfold cAt at e
    rw [← ei, ← ek, hk i hi, hk k hk'] at e
    rw [← ei] at m1
    rw [← ek] at m2
    rcases Nat.lt_trichotomy i k with g | g | g
    · exact (hsp k i).1 (h k hk' i g) ⟨e, m2.2, m1.2⟩
    · subst g
      have := nodup_ent hnd hp (by omega) (ei.symm.trans ek)
      omega
    · exact (hsp i k).1 (h i hi k g) ⟨e.symm, m1.2, m2.2⟩
end

/-! CongruenceSplits, CongruenceSize of the program. -/
section
open Go.RowKit Go.Maps

set_option maxHeartbeats 1000000 in
theorem splitsI_any (b q c : Nat) (C : Option Addr) (zs : List (List Int)) (cs : List Int) (hc : cgB zs cs = true) (hw : ∀ x ∈ cs, wfI x) (w : World) (hK : KgI w b q zs.length C zs cs) :
    Calls Tryz.prog 78 #[.agg #[.map (some b), .slice C zs.length c, .map (some q)]] w fun e w' => e = .returned (.bool (spB zs cs)) ∧ w.grownBy w' (some q) := by
  have S := sgS_iff.1 (cgB_iff.1 hc).sg
  have hn6 : zs.length ≤ 1048576 := by have := S.most; omega
  have hql := hK.q_lt
  have hb1 := (Below.refl _ w).alloc (Nat.le_refl _) (.cells #[.map (some b), .slice C zs.length c, .map (some q)] 51)
  have HBX := Lib.hid (Blk.new w 51 #[.map (some b), .slice C zs.length c, .map (some q)])
  have HK1 := Lib.hid (hK.below hb1)
  have hid := idems_any b (ent zs 0).length zs.length zs rfl hn6 S.ch S.srt _ HK1.out.sem
  have HSP := Lib.hid (splits_is hc)
  have HFL : Hid ((zs.filter idB).length ≤ zs.length) := List.length_filter_le _ _
  have HMA := Lib.hid (fun (W : World) (lo : Nat) (v : Value) (hrow) (hK : KgI W b q zs.length C zs cs) => markAllI_any b q (ent zs 0).length zs.length c lo C zs cs (zs.filter idB) v rfl hn6 (by have := HFL.out; omega) S.ch S.srt hw (fun L hL => (List.mem_filter.1 hL).1) W hrow hK)
  have k0 := HBX.out.cell 0
  clear hK hb1 hw S
  go_enter Tryz.func78, Tryz.ntmps78
  go_wp2_with fail
  refine hid.mono ?_
  rintro e w1 ⟨v, rfl, hrow, hb2⟩
  have hK2 := HK1.out.below hb2
  have hbx2 := HBX.out.below hb2 HBX.out.lt
  have e0 : w1.cell? ⟨w.heap.size, 0, none⟩ = some (.map (some b)) := hbx2.cell 0
  have e1 : w1.cell? ⟨w.heap.size, 1, none⟩ = some (.slice C zs.length c) := hbx2.cell 1
  have e2 : w1.cell? ⟨w.heap.size, 2, none⟩ = some (.map (some q)) := hbx2.cell 2
  obtain ⟨A, cp, rfl⟩ := own_shape hrow
  have hma := HMA.out w1 _ _ hrow hK2
  have hg1 : w.grownBy w1 (some q) := gbTr (gb_al0 w _ (some q)) (gb_of hb2 _)
  have HG1 := Lib.hid hg1
  generalize hnn : (zs.filter idB).length = r at *
  generalize hff : frC (cAt zs cs (zs.filter idB)) r = f at *
  have HPB : Hid (((f : Int) == (r : Int)) = spB zs cs) := by
    show _ = _
    rw [Bool.eq_iff_iff, beq_iff_eq, ← HSP.out]
    omega
  obtain ⟨sb, hsb⟩ : ∃ sb, ((f : Int) == (r : Int)) = sb := ⟨_, rfl⟩
  have HSB : Hid (sb = spB zs cs) := hsb.symm.trans HPB.out
  clear hid hrow hb2 hK2 hbx2 k0 HK1 HBX hg1 HMA HFL hnn hff HPB HSP
  go_wp2_with fail
  refine hma.mono ?_
  rintro e w2 ⟨rfl, _, hg2⟩
  have HGF := Lib.hid (gbTr HG1.out hg2)
  clear hma hg2
  go_wp2
  go_ret
  exact ⟨by rw [← HSB.out]; try rfl, HGF.out⟩
set_option maxHeartbeats 1000000 in
theorem implSplits_any (A C : Option Addr) (n c m d : Nat) (zs : List (List Int)) (cs : List Int) (w : World) (h : RSS w A n zs) (h' : RI w C m cs) (hw : ∀ x ∈ cs, wfI x) (hg : EtAt w) :
    Calls Tryz.prog 32 #[.slice A n c, .slice C m d] w fun e w' => e = .returned (.bool (spB zs cs)) ∧ Below w.heap.size w w' := by
  have hcf := cgFrom_any A C n c m d zs cs w h h' hw hg
  have HW := Lib.hid hw
  clear h h' hg hw
  go_enter Tryz.func32, Tryz.ntmps32
  go_wp2_with fail
  refine hcf.mono ?_
  rintro e w1 ⟨kv, rfl, hkv, hb⟩
  clear hcf
  cases hr : cgB zs cs
  · obtain rfl := hkv.1 hr
    have HF : Hid (spB zs cs = false) := by show _ = _; unfold spB; rw [hr]; rfl
    have HB := Lib.hid (hb.alloc hb.size (.cells #[.map none, .slice none 0 0, .map none] 51))
    clear hkv hr hb
    go_wp2
    go_ret
    exact ⟨by rw [HF.out]; try rfl, HB.out⟩
  · obtain ⟨b, q, C2, c2, rfl, hk, hbl, hql⟩ := hkv.2 hr
    have hb1 := hb.alloc hb.size (.cells #[.map (some b), .slice C2 zs.length c2, .map (some q)] 51)
    have hk1 := hk.below ((Below.refl _ w1).alloc (Nat.le_refl _) (.cells #[.map (some b), .slice C2 zs.length c2, .map (some q)] 51))
    have hsp := splitsI_any b q c2 C2 zs cs hr HW.out _ hk1
    have HBG : Hid (∀ W, (w1.alloc (.cells #[.map (some b), .slice C2 zs.length c2, .map (some q)] 51)).grownBy W (some q) → Below w.heap.size w W) := fun W hg => hb1.grown hg hb1.size (fun k e => by cases e; omega)
    clear hkv hr hb hk hk1 hb1
    obtain ⟨r, hr2⟩ : ∃ r, spB zs cs = r := ⟨_, rfl⟩
    have HSB := Lib.hid hr2
    rw [hr2] at hsp
    clear hr2
    go_wp2_with fail
    refine hsp.mono ?_
    rintro e w3 ⟨rfl, hg3⟩
    have HB3 := Lib.hid (HBG.out _ hg3)
    clear hsp hg3
    go_wp2
    go_ret
    exact ⟨by rw [HSB.out]; try rfl, HB3.out⟩
set_option maxHeartbeats 1000000 in
theorem implSize_any (A C : Option Addr) (n c m d : Nat) (zs : List (List Int)) (cs : List Int) (w : World) (h : RSS w A n zs) (h' : RI w C m cs) (hw : ∀ x ∈ cs, wfI x) (hg : EtAt w) :
    Calls Tryz.prog 39 #[.slice A n c, .slice C m d] w fun e w' => e = .returned (.tuple #[.int .i64 (szN zs cs : Nat), .bool (cgB zs cs)]) ∧ Below w.heap.size w w' := by
  have hcf := cgFrom_any A C n c m d zs cs w h h' hw hg
  have HW := Lib.hid hw
  clear h h' hg hw
  go_enter Tryz.func39, Tryz.ntmps39
  go_wp2_with fail
  refine hcf.mono ?_
  rintro e w1 ⟨kv, rfl, hkv, hb⟩
  clear hcf
  cases hr : cgB zs cs
  · obtain rfl := hkv.1 hr
    have HF : Hid (szN zs cs = 0) := by show _ = _; unfold szN; rw [hr]; rfl
    have HCC := Lib.hid hr
    have hb1 := hb.alloc hb.size (.cells #[.map none, .slice none 0 0, .map none] 51)
    have hbx := Blk.new w1 51 #[.map none, .slice none 0 0, .map none]
    clear hkv hr hb
    go_wp2_with fail
    generalize w1.alloc (.cells #[.map none, .slice none 0 0, .map none] 51) = w2 at *
    have d0 : w2.cell? ⟨w1.heap.size, 0, none⟩ = some (.map none) := hbx.cell 0
    have d1 : w2.cell? ⟨w1.heap.size, 1, none⟩ = some (.slice none 0 0) := hbx.cell 1
    have d2 : w2.cell? ⟨w1.heap.size, 2, none⟩ = some (.map none) := hbx.cell 2
    have hb2 := hb1.drew
    have hbx2 := hbx.drew
    go_region_law (first
      | (go_simp
         go_at_call 82
         refine (charts_none _).mono ?_
         rintro e w5 ⟨G, rfl, hb5⟩
         have hb2 := hb2.trans (hb5.mono hb2.size)
         have hbx2 := hbx2.below hb5 hbx2.lt
         have d0 : w5.cell? ⟨w1.heap.size, 0, none⟩ = some (.map none) := hbx2.cell 0
         have d1 : w5.cell? ⟨w1.heap.size, 1, none⟩ = some (.slice none 0 0) := hbx2.cell 1
         have d2 : w5.cell? ⟨w1.heap.size, 2, none⟩ = some (.map none) := hbx2.cell 2)
      | (go_simp
         go_at_call 81
         refine (markAllI_none _ _).mono ?_
         rintro e w6 ⟨rfl, hb6⟩
         have hb3 := hb2.trans (hb6.mono hb2.size)))
    all_goals
      have HB3 := Lib.hid hb3
      clear hb3 hb2 hbx2 hb6 hb5 hb1 hbx
      (try simp only [List.getElem_toArray, List.getElem_cons_succ, List.getElem_cons_zero, Act.put, List.setIfInBounds_toArray, List.set_cons_zero, List.set_cons_succ])
      go_wp2
      go_ret2
      exact ⟨by (try rw [HCC.out]); rw [HF.out]; try rfl, HB3.out⟩
  · obtain ⟨b, q, C2, c2, rfl, hk, hbl, hql⟩ := hkv.2 hr
    have S := sgS_iff.1 (cgB_iff.1 hr).sg
    have hn6 : zs.length ≤ 1048576 := by have := S.most; omega
    have hb1 := hb.alloc hb.size (.cells #[.map (some b), .slice C2 zs.length c2, .map (some q)] 51)
    have hk1 := hk.below ((Below.refl _ w1).alloc (Nat.le_refl _) (.cells #[.map (some b), .slice C2 zs.length c2, .map (some q)] 51))
    have hbx := Blk.new w1 51 #[.map (some b), .slice C2 zs.length c2, .map (some q)]
    have HSZ : Hid (frC (cAt zs cs zs) zs.length = szN zs cs) := size_is hr
    have HCC := Lib.hid hr
    have HCH := Lib.hid (fun (W : World) (hK : KgI W b q zs.length C2 zs cs) => charts_any b (ent zs 0).length zs.length zs rfl hn6 S.ch S.srt W hK.sem)
    have HMA := Lib.hid (fun (W : World) (lo : Nat) (v : Value) (hrow) (hK : KgI W b q zs.length C2 zs cs) => markAllI_any b q (ent zs 0).length zs.length c2 lo C2 zs cs zs v rfl hn6 hn6 S.ch S.srt HW.out (fun L hL => hL) W hrow hK)
    rw [HSZ.out] at HMA
    clear hkv hr hb hk S
    go_wp2_with fail
    generalize w1.alloc (.cells #[.map (some b), .slice C2 zs.length c2, .map (some q)] 51) = w2 at *
    have d0 : w2.cell? ⟨w1.heap.size, 0, none⟩ = some (.map (some b)) := hbx.cell 0
    have d1 : w2.cell? ⟨w1.heap.size, 1, none⟩ = some (.slice C2 zs.length c2) := hbx.cell 1
    have d2 : w2.cell? ⟨w1.heap.size, 2, none⟩ = some (.map (some q)) := hbx.cell 2
    have hb2 := hb1.drew
    have hbx2 := hbx.drew
    have hk2 := hk1.below (below_drewN (Below.refl _ w2) 1)
    go_region_law (first
      | (go_simp
         go_at_call 82
         refine (HCH.out _ hk2).mono ?_
         rintro e w5 ⟨G, rfl, hrow5, hb5⟩
         have hb2 := hb2.trans (hb5.mono hb2.size)
         have hk2 := hk2.below hb5
         have hbx2 := hbx2.below hb5 hbx2.lt
         have d0 : w5.cell? ⟨w1.heap.size, 0, none⟩ = some (.map (some b)) := hbx2.cell 0
         have d1 : w5.cell? ⟨w1.heap.size, 1, none⟩ = some (.slice C2 zs.length c2) := hbx2.cell 1
         have d2 : w5.cell? ⟨w1.heap.size, 2, none⟩ = some (.map (some q)) := hbx2.cell 2)
      | (go_simp
         go_at_call 81
         refine (HMA.out _ _ _ hrow5 hk2).mono ?_
         rintro e w6 ⟨rfl, _, hg6⟩
         have hb3 := hb2.grown hg6 hb2.size (fun k e => by cases e; omega)))
    all_goals
      have HB3 := Lib.hid hb3
      clear hb3 hb2 hbx2 hg6 hb5 hb1 hbx hk2 hk1 hrow5
      (try simp only [List.getElem_toArray, List.getElem_cons_succ, List.getElem_cons_zero, Act.put, List.setIfInBounds_toArray, List.set_cons_zero, List.set_cons_succ])
      go_wp2
      go_ret2
      exact ⟨by (try rw [HCC.out]); try rfl, HB3.out⟩
end

/-! CongruenceKernel of the program. -/
section
open Go.RowKit Go.Maps

theorem krL_le (zs : List (List Int)) (cs : List Int) : (krL zs cs).length ≤ 400 ∧ totL (krL zs cs) ≤ 2400 ∧ ∀ L ∈ krL zs cs, L.length ≤ 1048576 := by
  unfold krL
  split
  · rename_i h; exact sub_le (cgB_iff.1 h).sg (List.length_filter_le _ _) (fun L hL => (List.mem_filter.1 hL).1)
  · exact nil_le
/-- the charts whose class one that moves no point to another has -/
theorem krP_iff {zs : List (List Int)} {cs : List Int} (hs : Srt zs) {L : List Int} : (∃ i, i < (zs.filter idB).length ∧ kfI (cAt zs cs (zs.filter idB) i) = kfI (kC zs cs L)) ↔ krP zs cs L = true := by
  unfold krP mkB
  rw [List.any_eq_true]
  constructor
  · rintro ⟨i, hi, e⟩
    have e := kfI_inj e
    have hm := ent_mem hi
    obtain ⟨hm1, hm2⟩ := List.mem_filter.1 hm
    obtain ⟨j, hj, ej⟩ := mem_ent hm1
    refine ⟨j, List.mem_range.2 hj, ?_⟩
    rw [Bool.and_eq_true, decide_eq_true_eq, ej]
    refine ⟨hm2, ?_⟩
    unfold cAt at e
    rw [← e, ← ej]; unfold kC; rw [ixP_at hs hj]
  · rintro ⟨j, hj, e⟩
    rw [Bool.and_eq_true, decide_eq_true_eq] at e
    have hj := List.mem_range.1 hj
    have hm : ent zs j ∈ zs.filter idB := List.mem_filter.2 ⟨ent_mem hj, e.1⟩
    obtain ⟨i, hi, ei⟩ := mem_ent hm
    refine ⟨i, hi, ?_⟩
    congr 1
    unfold cAt
    rw [ei, ← e.2]
    show kC zs cs (ent zs j) = _
    unfold kC; rw [ixP_at hs hj]
theorem lookI {q nn : Nat} {D : DataW Unit} {w : World} {x : Int} (hm : w.ownsMap Tryz.prog 3 (plainElem (H := Unit) Tryz.prog 3) q nn D) (hx : wfI x) :
    ∃ z, (Instr.lookup 49 (.map (some q)) (.int .i64 x) true).run Tryz.prog w = .ok (.tuple #[.int .i64 z, .bool (Maps.has D (kfI x))]) w := by
  have hkey : keyOf Tryz.prog 3 (.int .i64 x) = some (kfI x) := keyOf_int_mk Tryz.underlying3 hx
  have hz : (zeroValue 3).run Tryz.prog w = .ok (.int .i64 0) w := by kernel_rfl
  obtain ⟨v, ps, hrun, hv⟩ := hm.look_ok (int_keyed Tryz.underlying3) Tryz.underlying49 hz (plainElem_int Tryz.underlying3 (by decide)) hkey
  obtain ⟨c, rfl, _, _⟩ := plainElem_int_inv Tryz.underlying3 hv
  exact ⟨c, hrun⟩
set_option maxHeartbeats 1000000 in
theorem kernelF_any (b q m n c B nn : Nat) (C : Option Addr) (zs : List (List Int)) (cl L : List Int) (D : DataW Unit) (w : World) (hn : zs.length = n) (hz : ∀ L ∈ zs, isC L = true ∧ L.length = m) (hs : Srt zs) (hL : L ∈ zs) (hw : ∀ x ∈ cl, wfI x)
    (hown : w.ownsMap Tryz.prog 58 (plainElem (H := Unit) Tryz.prog 3) b n (mapP klL zs n)) (hC : RI w C n cl)
    (hm : w.ownsMap Tryz.prog 3 (plainElem (H := Unit) Tryz.prog 3) q nn D) (hbx : Blk w B 51 #[.map (some b), .slice C n c, .map (some q)]) :
    Calls Tryz.prog 106 #[.agg #[.int .i64 ((m : Int)), .int .i64 (ofL L 0), .int .i64 (ofL L 1), .int .i64 (ofL L 2), .int .i64 (ofL L 3), .int .i64 (ofL L 4), .int .i64 (ofL L 5)], .pointer (some ⟨B, 0, none⟩)] w fun e w' => e = .returned (.bool (Maps.has D (kfI (kC zs cl L)))) ∧ Below w.heap.size w w' := by
  have hkw : wfI (kC zs cl L) := by
    have hi := (ixP_mem hs hL).1
    unfold kC ofL; rw [List.getElem?_eq_getElem (by rw [hC.len, ← hn]; exact hi)]
    exact hw _ (List.getElem_mem _)
  have hb1 := (Below.refl _ w).alloc (Nat.le_refl _) (.cells #[.int .i64 ((m : Int)), .int .i64 (ofL L 0), .int .i64 (ofL L 1), .int .i64 (ofL L 2), .int .i64 (ofL L 3), .int .i64 (ofL L 4), .int .i64 (ofL L 5)] 58)
  have hA0 : AgW w (w.alloc (.cells #[.int .i64 ((m : Int)), .int .i64 (ofL L 0), .int .i64 (ofL L 1), .int .i64 (ofL L 2), .int .i64 (ofL L 3), .int .i64 (ofL L 4), .int .i64 (ofL L 5)] 58)) B b q n c nn C zs cl D m L w.heap.size := ⟨hbx.below hb1 hbx.lt, Cb.new w (m : Int) (ofL L), hown.alloc _, hm.alloc _, hC.below hb1, gb_al0 w _ _⟩
  have HCC := Lib.hid (fun (W : World) (hA : AgW w W B b q n c nn C zs cl D m L w.heap.size) => classI_any b m n c (some q) C zs cl L W hn hz hs hL hA.sem hA.cls)
  obtain ⟨x, hx⟩ : ∃ x, kC zs cl L = x := ⟨_, rfl⟩
  have HLK := Lib.hid (fun (W : World) (hA : AgW w W B b q n c nn C zs cl D m L w.heap.size) => lookI (x := x) hA.mkd (by rw [← hx]; exact hkw))
  rw [hx] at HCC ⊢
  clear hown hC hx hs hz hL hw hn hm hbx hkw
  go_enter Tryz.func106, Tryz.ntmps106
  go_wp2
  generalize w.alloc (.cells #[.int .i64 ((m : Int)), .int .i64 (ofL L 0), .int .i64 (ofL L 1), .int .i64 (ofL L 2), .int .i64 (ofL L 3), .int .i64 (ofL L 4), .int .i64 (ofL L 5)] 58) = W0 at *
  have hA1 := hA0.drew
  have hb2 := hb1.drew
  have d0 := hA0.c0
  have d1 := hA0.c1
  have d2 := hA0.c2
  obtain ⟨a0, a1, a2, a3, a4, a5, a6⟩ := hA0.cx.all
  go_region_law (
      (go_simp
       go_at_call 70
       refine (HCC.out _ hA1).mono ?_
       rintro e w5 ⟨rfl, hb5⟩
       have hA1 := hA1.below hb5
       have hb2 := hb2.trans (hb5.mono hb2.size)
       have d0 := hA1.c0
       have d1 := hA1.c1
       have d2 := hA1.c2
       obtain ⟨z, hrun⟩ := HLK.out _ hA1))
  all_goals
    (try simp only [List.getElem_toArray, List.getElem_cons_succ, List.getElem_cons_zero, Act.put, List.setIfInBounds_toArray, List.set_cons_zero, List.set_cons_succ])
    go_wp2
    go_ret
    exact ⟨by try rfl, hb2⟩
set_option maxHeartbeats 1000000 in
theorem kernelI_any (b q c : Nat) (C : Option Addr) (zs : List (List Int)) (cs : List Int) (hc : cgB zs cs = true) (hw : ∀ x ∈ cs, wfI x) (w : World) (hK : KgI w b q zs.length C zs cs) :
    Calls Tryz.prog 59 #[.agg #[.map (some b), .slice C zs.length c, .map (some q)]] w fun e w' => ∃ v lo, e = .returned v ∧ w'.ownsRow lo 58 7 v (zs.filter (krP zs cs)).length (cwc (ent zs 0).length (zs.filter (krP zs cs))) ∧ w.grownBy w' (some q) := by
  have S := sgS_iff.1 (cgB_iff.1 hc).sg
  have hn6 : zs.length ≤ 1048576 := by have := S.most; omega
  have hql := hK.q_lt
  have hb1 := (Below.refl _ w).alloc (Nat.le_refl _) (.cells #[.map (some b), .slice C zs.length c, .map (some q)] 51)
  have HBX := Lib.hid (Blk.new w 51 #[.map (some b), .slice C zs.length c, .map (some q)])
  have HK1 := Lib.hid (hK.below hb1)
  have HID := Lib.hid (fun (W : World) (hK : KgI W b q zs.length C zs cs) => idems_any b (ent zs 0).length zs.length zs rfl hn6 S.ch S.srt W hK.sem)
  have HG0 := Lib.hid (gb_al0 w (.cells #[.map (some b), .slice C zs.length c, .map (some q)] 51) (some q))
  have HFL : Hid ((zs.filter idB).length ≤ zs.length) := List.length_filter_le _ _
  have HMA := Lib.hid (fun (W : World) (lo : Nat) (v : Value) (hrow) (hK : KgI W b q zs.length C zs cs) => markAllI_any b q (ent zs 0).length zs.length c lo C zs cs (zs.filter idB) v rfl hn6 (by have := HFL.out; omega) S.ch S.srt hw (fun L hL => (List.mem_filter.1 hL).1) W hrow hK)
  have HPT := Lib.hid (fun (W : World) (nn : Nat) (D : DataW Unit) (hsem : W.ownsMap Tryz.prog 58 (plainElem (H := Unit) Tryz.prog 3) b zs.length (mapP klL zs zs.length)) (hC : RI W C zs.length cs)
      (hm : W.ownsMap Tryz.prog 3 (plainElem (H := Unit) Tryz.prog 3) q nn D) (hbx : Blk W w.heap.size 51 #[.map (some b), .slice C zs.length c, .map (some q)])
      (hh : ∀ x, Maps.has D x = true ↔ ∃ i, i < (zs.filter idB).length ∧ kfI (cAt zs cs (zs.filter idB) i) = x) =>
    part_any (H := Unit) b (ent zs 0).length zs.length 106 #[] #[.pointer (some ⟨w.heap.size, 0, none⟩)] zs rfl hn6 S.ch S.srt (krP zs cs) W (enters_of Tryz.func106 (by kernel_rfl) rfl) (fun L hL X hX => by
      have h := kernelF_any b q (ent zs 0).length zs.length c w.heap.size nn C zs cs L D X rfl S.ch S.srt hL hw (ownsMap_same hsem (hX.block b hsem.lt)) (hC.below hX) (ownsMap_same hm (hX.block q hm.lt)) (hbx.below hX hbx.lt)
      have e : Maps.has D (kfI (kC zs cs L)) = krP zs cs L := by rw [Bool.eq_iff_iff, hh]; exact krP_iff S.srt
      rw [e] at h
      exact h) hsem)
  have k0 := HBX.out.cell 0
  clear hK hb1 hw S
  go_enter Tryz.func59, Tryz.ntmps59
  go_wp2
  generalize w.alloc (.cells #[.map (some b), .slice C zs.length c, .map (some q)] 51) = W0 at *
  have hk2 := HK1.out.below (below_drewN (Below.refl _ W0) 1)
  have hbx2 := HBX.out.drew
  have hgq := gbTr HG0.out (gb_of (below_drewN (Below.refl _ W0) 1) (some q))
  have d0 := HBX.out.cell 0
  have d1 := HBX.out.cell 1
  have d2 := HBX.out.cell 2
  go_region_law (first
    | (go_simp
       go_at_call 60
       refine (HID.out _ hk2).mono ?_
       rintro e w5 ⟨v, rfl, hrow5, hb5⟩
       obtain ⟨A, cp, rfl⟩ := own_shape hrow5
       have hk2 := hk2.below hb5
       have hgq := gbTr hgq (gb_of hb5 _)
       have hbx2 := hbx2.below hb5 hbx2.lt
       have d0 := hbx2.cell 0
       have d1 := hbx2.cell 1
       have d2 := hbx2.cell 2)
    | (go_simp
       go_at_call 81
       refine (HMA.out _ _ _ hrow5 hk2).mono ?_
       rintro e w6 ⟨rfl, ⟨nn, D, hm2, hh2⟩, hg2⟩))
  all_goals
    have hk3 := hk2.kept hg2 ⟨nn, D, hm2⟩
    have hbx3 := blk_kept hbx2 hg2 hk2.row
    have hpt := HPT.out w6 nn D hk3.sem hk3.cls hm2 hbx3 hh2
    have f0 := hbx3.cell 0
    have HG2 := Lib.hid (gbTr hgq hg2)
    clear hg2 hk3 hbx3 hm2 hh2 HPT hk2 hbx2 hgq d0 d1 d2 hb5 hrow5
    (try simp only [List.getElem_toArray, List.getElem_cons_succ, List.getElem_cons_zero, Act.put, List.setIfInBounds_toArray, List.set_cons_zero, List.set_cons_succ])
    go_wp2_with fail
    refine hpt.mono ?_
    rintro e w3 ⟨v3, rfl, hrow3, hb3⟩
    have HG3 := Lib.hid (gbTr HG2.out (gb_of hb3 _))
    clear hpt HG2 hb3 f0
    go_wp2
    go_ret
    exact ⟨_, _, by try rfl, hrow3, HG3.out⟩
set_option maxHeartbeats 1000000 in
theorem kernelI_none (w : World) :
    Calls Tryz.prog 59 #[.agg #[.map none, .slice none 0 0, .map none]] w fun e w' => e = .returned (.slice none 0 0) ∧ Below w.heap.size w w' := by
  have hb1 := (Below.refl _ w).alloc (Nat.le_refl _) (.cells #[.map none, .slice none 0 0, .map none] 51)
  have HBX := Lib.hid (Blk.new w 51 #[.map none, .slice none 0 0, .map none])
  have k0 := HBX.out.cell 0
  go_enter Tryz.func59, Tryz.ntmps59
  go_wp2
  generalize w.alloc (.cells #[.map none, .slice none 0 0, .map none] 51) = W0 at *
  have hb2 := hb1.drew
  have hbx2 := HBX.out.drew
  have d0 := HBX.out.cell 0
  have d1 := HBX.out.cell 1
  have d2 := HBX.out.cell 2
  go_region_law (first
    | (go_simp
       go_at_call 60
       refine (idems_none _).mono ?_
       rintro e w5 ⟨rfl, hb5⟩
       have hb2 := hb2.trans (hb5.mono hb2.size)
       have hbx2 := hbx2.below hb5 hbx2.lt
       have d0 := hbx2.cell 0
       have d1 := hbx2.cell 1
       have d2 := hbx2.cell 2)
    | (go_simp
       go_at_call 81
       refine (markAllI_none _ none).mono ?_
       rintro e w6 ⟨rfl, hb6⟩))
  all_goals
    have hb3 := hb2.trans (hb6.mono hb2.size)
    have f0 := (hbx2.below hb6 hbx2.lt).cell 0
    clear hb1 hb2 hbx2 d0 d1 d2 hb5 hb6
    (try simp only [List.getElem_toArray, List.getElem_cons_succ, List.getElem_cons_zero, Act.put, List.setIfInBounds_toArray, List.set_cons_zero, List.set_cons_succ])
    go_wp2_with fail
    refine (part_none _ rfl _).mono ?_
    rintro e w3 ⟨rfl, hb7⟩
    have hb8 := hb3.trans (hb7.mono hb3.size)
    clear hb3 hb7 f0
    go_wp2
    go_ret
    exact ⟨by try rfl, hb8⟩
set_option maxHeartbeats 1000000 in
theorem implKernel_any (A C : Option Addr) (n c m d : Nat) (zs : List (List Int)) (cs : List Int) (w : World) (h : RSS w A n zs) (h' : RI w C m cs) (hw : ∀ x ∈ cs, wfI x) (hg : EtAt w) :
    Calls Tryz.prog 20 #[.slice A n c, .slice C m d] w fun e w' => ∃ v, e = .returned (.tuple #[v, .bool (cgB zs cs)]) ∧ OSS w' w.heap.size w'.heap.size v (krL zs cs) ∧ Below w.heap.size w w' := by
  have hcf := cgFrom_any A C n c m d zs cs w h h' hw hg
  have HW := Lib.hid hw
  clear h h' hg hw
  go_enter Tryz.func20, Tryz.ntmps20
  go_wp2_with fail
  refine hcf.mono ?_
  rintro e w1 ⟨kv, rfl, hkv, hb⟩
  clear hcf
  cases hr : cgB zs cs
  · obtain rfl := hkv.1 hr
    have HF : Hid (krL zs cs = []) := by show _ = _; unfold krL; rw [hr]; rfl
    have HCC := Lib.hid hr
    have hb1 := hb.alloc hb.size (.cells #[.map none, .slice none 0 0, .map none] 51)
    clear hkv hr hb
    go_wp2_with fail
    refine (kernelI_none _).mono ?_
    rintro e w3 ⟨rfl, hb3⟩
    have hB3 := hb1.trans (hb3.mono hb1.size)
    clear hb1 hb3
    go_wp2_with fail
    refine (listsOf_any 0 0 (.slice none 0 0) [] (fun L h => by cases h) (by simp) w3 (World.ownsRow_nil _ _ _ _)).mono ?_
    rintro e w4 ⟨v', rfl, hO, hb4⟩
    have hs3 := hB3.size
    go_wp2
    go_ret2
    exact ⟨_, by (try rw [HCC.out]); try rfl, by rw [HF.out]; exact hO.more hs3 (Nat.le_refl _), hB3.trans (hb4.mono hs3)⟩
  · obtain ⟨b, q, C2, c2, rfl, hk, hbl, hql⟩ := hkv.2 hr
    have S := sgS_iff.1 (cgB_iff.1 hr).sg
    have hb1 := hb.alloc hb.size (.cells #[.map (some b), .slice C2 zs.length c2, .map (some q)] 51)
    have hk1 := hk.below ((Below.refl _ w1).alloc (Nat.le_refl _) (.cells #[.map (some b), .slice C2 zs.length c2, .map (some q)] 51))
    have hkn := kernelI_any b q c2 C2 zs cs hr HW.out _ hk1
    have HBG : Hid (∀ W, (w1.alloc (.cells #[.map (some b), .slice C2 zs.length c2, .map (some q)] 51)).grownBy W (some q) → Below w.heap.size w W) := fun W hg => hb1.grown hg hb1.size (fun k e => by cases e; omega)
    have HCC := Lib.hid hr
    have HI : Hid (krL zs cs = zs.filter (krP zs cs)) := by show _ = _; unfold krL; rw [if_pos hr]
    have HZ : Hid (∀ L ∈ zs.filter (krP zs cs), isC L = true ∧ L.length = (ent zs 0).length) := fun L hL => S.ch L (List.mem_filter.1 hL).1
    have hle : (zs.filter (krP zs cs)).length ≤ 1048576 := Nat.le_trans (List.length_filter_le _ _) (by have := S.most; omega)
    have HKR : Hid (krP zs cs = krP zs cs) := rfl
    clear hkv hr hb hk hk1 hb1 S
    obtain ⟨Fs, hfs⟩ : ∃ Fs, zs.filter (krP zs cs) = Fs := ⟨_, rfl⟩
    rw [hfs] at hkn HI HZ hle
    clear hfs
    go_wp2_with fail
    refine hkn.mono ?_
    rintro e w3 ⟨v3, lo3, rfl, hrow3, hg3⟩
    have hB3 := HBG.out _ hg3
    clear hkn hg3 HBG
    go_wp2_with fail
    refine (listsOf_any (ent zs 0).length lo3 v3 Fs HZ.out hle w3 hrow3).mono ?_
    rintro e w4 ⟨v', rfl, hO, hb4⟩
    have hs3 := hB3.size
    go_wp2
    go_ret2
    exact ⟨_, by (try rw [HCC.out]); try rfl, by rw [HI.out]; exact hO.more hs3 (Nat.le_refl _), hB3.trans (hb4.mono hs3)⟩
end

/-! The group congruence is a congruence; its kernel. Mathematics: no program. -/
section
open Go.RowKit Go.Maps

theorem be_self {L : List Int} (h : isC L = true) : beB L L = true := (beB_iff (isP_of h h rfl)).2 fun _ _ => .inr rfl
theorem gU_iff {zs : List (List Int)} (h : sgU zs = true) : sgS zs = true ∧ ∀ e ∈ zs, idB e = true → ∀ c ∈ zs, beB e c = true → idB c = true := by
  unfold sgU at h
  rw [Bool.and_eq_true] at h
  refine ⟨h.1, fun e he hi c hc hb => ?_⟩
  have h1 := List.all_eq_true.1 h.2 e (List.mem_filter.2 ⟨he, hi⟩)
  exact List.all_eq_true.1 h1 c (List.mem_filter.2 ⟨hc, hb⟩)
theorem gk_iff {zs : List (List Int)} (hS : sgS zs = true) {L M : List Int} (hL : L ∈ zs) (hM : M ∈ zs) : kC zs (grpL zs) L = kC zs (grpL zs) M ↔ ctF (ldN zs) L = ctF (ldN zs) M := by
  have S := sgS_iff.1 hS
  have key : ∀ K ∈ zs, kC zs (grpL zs) K = (nuE (grC zs) (ixP zs K) : Int) ∧ grC zs (ixP zs K) = ctF (ldN zs) K := fun K hK => by
    obtain ⟨hi, he, _⟩ := ixP_mem S.srt hK
    constructor
    · unfold kC grpL; rw [if_pos hS, nuL_of _ hi]
    · unfold grC; rw [he]
  obtain ⟨a1, a2⟩ := key L hL
  obtain ⟨b1, b2⟩ := key M hM
  have := nu_iff (grC zs) (ixP zs L) (ixP zs M)
  rw [a1, b1, ← a2, ← b2]
  constructor
  · intro h; exact this.1 (by omega)
  · intro h; have := this.2 h; omega
theorem ti_below {Z L K : List Int} (h : beB Z L = true) (hP : isP L K = true) : beB (tiL Z K) (tiL L K) = true ∧ beB (tiL K Z) (tiL K L) = true := by
  have p := beB_isP h
  obtain ⟨cZ, cL, lZ⟩ := isP_yes p
  obtain ⟨_, cK, lK⟩ := isP_yes hP
  have hb := (beB_iff p).1 h
  have q1 := isP_of cZ cK (by omega)
  have q2 := isP_of cK cL (by omega)
  have q3 := isP_of cK cZ (by omega)
  constructor
  · refine (beB_iff (isP_of (tiL_isC q1) (tiL_isC hP) (by rw [tiL_len q1, tiL_len hP]; omega))).2 (fun j hj => ?_)
    rw [tiL_len q1] at hj
    rw [tiL_get q1 hj, tiL_get hP (by omega)]
    unfold cmp
    rcases hb j hj with e | e
    · exact .inl (by rw [e, if_neg (by omega)])
    · exact .inr (by rw [e, lZ])
  · refine (beB_iff (isP_of (tiL_isC q3) (tiL_isC q2) (by rw [tiL_len q3, tiL_len q2]))).2 (fun j hj => ?_)
    rw [tiL_len q3] at hj
    rw [tiL_get q3 hj, tiL_get q2 hj]
    unfold cmp
    have hE := isC_ent cK j hj
    have hE : ofL K j = -1 ∨ (0 ≤ ofL K j ∧ ofL K j < (K.length : Int)) := by
      have e : ofL K j = K[j]?.getD 0 := rfl
      rw [e]; omega
    rcases hE with e | ⟨e1, e2⟩
    · exact .inl (by rw [e, if_neg (by omega)])
    · rw [if_pos ⟨e1, e2⟩, if_pos ⟨e1, e2⟩]
      exact hb _ (by omega)
theorem gr_cg {zs : List (List Int)} (hS : sgS zs = true) : cgB zs (grpL zs) = true := by
  have S := sgS_iff.1 hS
  have hg : grpL zs = nuL (grC zs) zs.length := by unfold grpL; rw [if_pos hS]
  have hcp : cpB zs (grpL zs) = true := by
    refine cpB_iff.2 (fun L hL M hM e K hK => ?_)
    obtain ⟨Z, hZ, b1, b2⟩ := (ct_below S hL hM).2 ((gk_iff hS hL hM).1 e)
    have pL := isP_of (S.ch L hL).1 (S.ch K hK).1 ((S.ch L hL).2.trans (S.ch K hK).2.symm)
    have pM := isP_of (S.ch M hM).1 (S.ch K hK).1 ((S.ch M hM).2.trans (S.ch K hK).2.symm)
    obtain ⟨x1, x2⟩ := ti_below b1 pL
    obtain ⟨y1, y2⟩ := ti_below b2 pM
    exact ⟨(gk_iff hS (S.ti L hL K hK) (S.ti M hM K hK)).2 ((ct_below S (S.ti L hL K hK) (S.ti M hM K hK)).1 ⟨_, S.ti Z hZ K hK, x1, y1⟩),
      (gk_iff hS (S.ti K hK L hL) (S.ti K hK M hM)).2 ((ct_below S (S.ti K hK L hL) (S.ti K hK M hM)).1 ⟨_, S.ti K hK Z hZ, x2, y2⟩)⟩
  unfold cgB
  rw [hS, hcp, decide_eq_true (show (grpL zs).length = zs.length by rw [hg, nuL_len]), decide_eq_true (show nuL (ofL (grpL zs)) zs.length = grpL zs by rw [hg, nuL_again])]
  rfl
theorem idem_below {Z e : List Int} (h : beB Z e = true) (hi : idB e = true) : idB Z = true := by
  obtain ⟨cZ, ce, l⟩ := isP_yes (beB_isP h)
  refine (idB_iff cZ).2 (fun j hj => ?_)
  rcases (beB_iff (beB_isP h)).1 h j hj with x | x
  · exact .inl x
  · rw [x]; exact (idB_iff ce).1 hi j (by omega)
theorem gr_kr {zs : List (List Int)} (hS : sgS zs = true) {L : List Int} (hL : L ∈ zs) : krP zs (grpL zs) L = true ↔ ∃ e ∈ zs, idB e = true ∧ ∃ Z ∈ zs, beB Z e = true ∧ beB Z L = true := by
  have S := sgS_iff.1 hS
  unfold krP mkB
  rw [List.any_eq_true]
  constructor
  · rintro ⟨j, hj, e⟩
    rw [Bool.and_eq_true, decide_eq_true_eq] at e
    have hj := List.mem_range.1 hj
    have e2 : kC zs (grpL zs) (ent zs j) = kC zs (grpL zs) L := by rw [← e.2]; unfold kC; rw [ixP_at S.srt hj]
    exact ⟨_, ent_mem hj, e.1, (ct_below S (ent_mem hj) hL).2 ((gk_iff hS (ent_mem hj) hL).1 e2)⟩
  · rintro ⟨e, he, hi, hz⟩
    obtain ⟨j, hj, rfl⟩ := mem_ent he
    refine ⟨j, List.mem_range.2 hj, ?_⟩
    rw [Bool.and_eq_true, decide_eq_true_eq]
    refine ⟨hi, ?_⟩
    rw [← (gk_iff hS (ent_mem hj) hL).2 ((ct_below S (ent_mem hj) hL).1 hz)]
    unfold kC; rw [ixP_at S.srt hj]
theorem gr_law {zs : List (List Int)} (hS : sgS zs = true) : decide (krL zs (grpL zs) = idL zs) = sgU zs := by
  have S := sgS_iff.1 hS
  have h1 : krL zs (grpL zs) = zs.filter (krP zs (grpL zs)) := by unfold krL; rw [if_pos (gr_cg hS)]
  have h2 : idL zs = zs.filter idB := by unfold idL; rw [hS]; rfl
  rw [h1, h2, Bool.eq_iff_iff, decide_eq_true_eq]
  constructor
  · intro h
    unfold sgU
    rw [hS, Bool.true_and]
    unfold unB
    refine List.all_eq_true.2 (fun e he => ?_)
    obtain ⟨he1, he2⟩ := List.mem_filter.1 he
    unfold unE
    refine List.all_eq_true.2 (fun c hc => ?_)
    obtain ⟨hc1, hc2⟩ := List.mem_filter.1 hc
    have hk : c ∈ zs.filter (krP zs (grpL zs)) := List.mem_filter.2 ⟨hc1, (gr_kr hS hc1).2 ⟨e, he1, he2, e, he1, be_self (S.ch e he1).1, hc2⟩⟩
    rw [h] at hk
    exact (List.mem_filter.1 hk).2
  · intro h
    obtain ⟨_, hu⟩ := gU_iff h
    refine List.filter_congr (fun L hL => ?_)
    rw [Bool.eq_iff_iff, gr_kr hS hL]
    constructor
    · rintro ⟨e, he, hi, Z, hZ, b1, b2⟩
      exact hu Z hZ (idem_below b1 hi) L hL b2
    · intro hi
      exact ⟨L, hL, hi, L, hL, be_self (S.ch L hL).1, be_self (S.ch L hL).1⟩
/-- one number for all charts that move no point to another one -/
theorem gr_one {zs : List (List Int)} (hS : sgS zs = true) : ∃ z : Nat, ∀ i, i < zs.length → idB (ent zs i) = true → ofL (grpL zs) i = (z : Int) := by
  have S := sgS_iff.1 hS
  have hg : grpL zs = nuL (grC zs) zs.length := by unfold grpL; rw [if_pos hS]
  have key : ∀ i j, i < zs.length → j < zs.length → idB (ent zs i) = true → idB (ent zs j) = true → grC zs i = grC zs j := fun i j hi hj h1 h2 => by
    have ci := S.ch _ (ent_mem hi)
    have cj := S.ch _ (ent_mem hj)
    have h6 := (isC_len ci.1).2
    unfold grC
    refine ofL_ext (n := (ent zs i).length) (ctF_len _ _) ((ctF_len _ _).trans (cj.2.trans ci.2.symm)) (fun t ht => ?_)
    have ht2 : t < (ent zs j).length := by have := ci.2; have := cj.2; omega
    rw [ctF_get _ _ ht, ctF_get _ _ ht2]
    split
    · rename_i hb
      rw [ld_bit (by omega)] at hb
      have a1 := List.all_eq_true.1 hb _ (ent_mem hi)
      have a2 := List.all_eq_true.1 hb _ (ent_mem hj)
      rw [doN_bit ci.1, Bool.and_eq_true, decide_eq_true_eq, decide_eq_true_eq] at a1
      rw [doN_bit cj.1, Bool.and_eq_true, decide_eq_true_eq, decide_eq_true_eq] at a2
      rcases (idB_iff ci.1).1 h1 t ht with x | x
      · exact absurd x a1.2
      · rcases (idB_iff cj.1).1 h2 t ht2 with y | y
        · exact absurd y a2.2
        · rw [x, y]
    · rfl
  by_cases hex : ∃ i, i < zs.length ∧ idB (ent zs i) = true
  · obtain ⟨i0, hi0, h0⟩ := hex
    refine ⟨nuE (grC zs) i0, fun i hi h => ?_⟩
    rw [hg, nuL_of _ hi, (nu_iff (grC zs) i i0).2 (key i i0 hi hi0 h h0)]
  · exact ⟨0, fun i hi h => absurd ⟨i, hi, h⟩ hex⟩
end

/-! Draws for the group congruence and the greatest splitting one. -/
section
open Go.RowKit Go.Maps

theorem drawSgGroupCongruence_any (A : Option Addr) (n c : Nat) (bs : Nat → Nat) (w : World) (h : Src w w.heap.size A n bs) (hnc : n ≤ c) (hn : n ≤ 1048576) :
    Calls Tryz.prog 16 #[.slice A n c] w (DrwL w) := by
  go_enter Tryz.func16, Tryz.ntmps16
  go_wp2_with fail
  refine (l91Some_any A n c bs w h hnc hn).mono ?_
  rintro e w2 ⟨A2, n2, c2, zs, rfl, hr⟩
  go_wp2
  go_ret
  exact ⟨_, _, _, zs, rfl, hr⟩
theorem drawSgSplit_any (A : Option Addr) (n c : Nat) (bs : Nat → Nat) (w : World) (h : Src w w.heap.size A n bs) (hnc : n ≤ c) (hn : n ≤ 1048576) :
    Calls Tryz.prog 28 #[.slice A n c] w (DrwL w) := by
  go_enter Tryz.func28, Tryz.ntmps28
  go_wp2_with fail
  refine (l91Some_any A n c bs w h hnc hn).mono ?_
  rintro e w2 ⟨A2, n2, c2, zs, rfl, hr⟩
  go_wp2
  go_ret
  exact ⟨_, _, _, zs, rfl, hr⟩
end

end Go.Proofs.YtkfiehndlgplgaaGreatDoor
