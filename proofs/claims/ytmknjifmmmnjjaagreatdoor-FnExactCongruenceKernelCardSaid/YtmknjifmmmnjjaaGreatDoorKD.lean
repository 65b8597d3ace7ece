/-
  Kc.
-/
import Derived.Deep.AppendLies
import Derived.Deep.RegionLaw
import Derived.Test.YtmknjifmmmnjjaaGreatDoorME
import Derived.Test.YtmknjifmmmnjjaaGreatDoorND
import Derived.Test.YtmknjifmmmnjjaaGreatDoorKC
namespace Go.Proofs.YtmknjifmmmnjjaaGreatDoor
set_option maxRecDepth 100000
set_option linter.unusedVariables false
set_option linter.unusedSimpArgs false
set_option linter.unusedSectionVars false

/-! spec.l8Table: the places of all products. -/
section
open Go.RowKit

def tabR (zs : List (List Int)) (i : Nat) : List Int := zs.map (fun M => fndI zs (tiL (ent zs i) M))
def tabL (zs : List (List Int)) : List (List Int) := (List.range zs.length).map (tabR zs)
theorem tabR_len (zs : List (List Int)) (i : Nat) : (tabR zs i).length = zs.length := by unfold tabR; simp
theorem tabL_len (zs : List (List Int)) : (tabL zs).length = zs.length := by unfold tabL; simp
theorem tabL_get {zs : List (List Int)} {i : Nat} (hi : i < zs.length) : (tabL zs)[i]? = some (tabR zs i) := by unfold tabL; simp [hi]
theorem tabR_get {zs : List (List Int)} {i k : Nat} (hk : k < zs.length) : (tabR zs i)[k]? = some (fndI zs (tiL (ent zs i) (ent zs k))) := by
  unfold tabR; rw [List.getElem?_map, List.getElem?_eq_getElem hk]; unfold ent; rw [List.getElem?_eq_getElem hk]; rfl
theorem tabL_snoc {zs : List (List Int)} {i : Nat} (hi : i < zs.length) : (tabL zs).take (i + 1) = (tabL zs).take i ++ [tabR zs i] := by
  have h := List.getElem?_eq_some_iff.1 (tabL_get hi)
  rw [List.take_succ_eq_append_getElem h.1, h.2]
theorem tabR_snoc {zs : List (List Int)} {i k : Nat} (hk : k < zs.length) : (tabR zs i).take (k + 1) = (tabR zs i).take k ++ [fndI zs (tiL (ent zs i) (ent zs k))] := by
  have h := List.getElem?_eq_some_iff.1 (tabR_get (i := i) hk)
  rw [List.take_succ_eq_append_getElem h.1, h.2]

/-- a row of ints of the call's own, and what lies as it lay -/
structure RwS (lo : Nat) (wo W : World) (v : Value) (n : Nat) (xs : List Value) : Prop where
  own : W.ownsRow lo 3 1 v n xs
  bel : Below lo wo W
  low : lo ≤ wo.heap.size
section
variable {lo n : Nat} {wo W W' : World} {v : Value} {xs : List Value}
theorem RwS.drewN (h : RwS lo wo W v n xs) (q : Nat) : RwS lo wo (W.drewN q) v n xs := ⟨own_below h.own (below_drewN (Below.refl _ _) q), below_drewN h.bel q, h.low⟩
theorem RwS.drew (h : RwS lo wo W v n xs) : RwS lo wo W.drew v n xs := h.drewN 1
theorem RwS.on (h : RwS lo wo W v n xs) (hb : Below W.heap.size W W') : RwS lo wo W' v n xs := ⟨own_below h.own hb, h.bel.trans (hb.mono (Nat.le_trans h.low h.bel.size)), h.low⟩
theorem RwS.alloc (h : RwS lo wo W v n xs) (o : Obj) : RwS lo wo (W.alloc o) v n xs := h.on ((Below.refl _ _).alloc (Nat.le_refl _) _)
theorem RwS.size (h : RwS lo wo W v n xs) : lo ≤ W.heap.size := Nat.le_trans h.low h.bel.size
theorem RwS.app {v' : Value} {m : Nat} {ys : List Value} (h : RwS lo wo W v n xs) (ho : W'.ownsRow lo 3 1 v' m ys) (hg : W.grownBy W' v.ownBlock) : RwS lo wo W' v' m ys := ⟨ho, h.bel.grown hg h.size (fun k e => (h.own.lt k e).1), h.low⟩
end

set_option maxHeartbeats 2000000 in
theorem l8Table_any (A : Option Addr) (n c : Nat) (zs : List (List Int)) (w : World) (h : RSS w A n zs) (hS : sgS zs = true) :
    Calls Tryz.prog 66 #[.slice A n c] w fun e w' => ∃ T ct, e = .returned (.slice T n ct) ∧ RSS w' T n (tabL zs) ∧ Below w.heap.size w w' := by
  obtain ⟨i0, hi, hz0, hz1, hz2⟩ := info_parts info_int
  obtain ⟨i1, hj, hj0, hj1, hj2⟩ := info_parts info_partsS
  have S := sgS_iff.1 hS
  have HL := Lib.hid h.len
  have HR := Lib.hid h
  have HCH := Lib.hid S.ch
  have hn4 : n ≤ 400 := by have := S.most; have := h.len; omega
  have HLL : Hid (∀ L ∈ zs, L.length ≤ 1048576) := fun L hL => by have := (isC_len (S.ch L hL).1).2; omega
  have hO0 : OSS (w.alloc (.cells #[] 24)) w.heap.size (w.alloc (.cells #[] 24)).heap.size (.slice (some ⟨w.heap.size, 0, none⟩) 0 0) [] := by have := OSS.lit0 w; simpa using this
  have hB0 := (Below.refl _ w).alloc (Nat.le_refl _) (.cells #[] 24)
  clear h hS S
  go_enter Tryz.func66, Tryz.ntmps66
  go_wp2
  go_loopw [3, 4] (fun v s wr => ∃ i : Nat, i ≤ n ∧ s = .int .i64 (i : Int) ∧ OSS wr w.heap.size wr.heap.size v ((tabL zs).take i) ∧ Below w.heap.size w wr) (fun _ s _ => n - (intOf s).toNat)
  case atStart => exact ⟨0, Nat.zero_le _, rfl, hO0, hB0⟩
  case round =>
    clear hO0 hB0
    obtain ⟨i, hin, rfl, hO, hB⟩ := hrel
    by_cases hlt : i < n
    · have hii : (i : Int) < (n : Int) := by omega
      have hil : i < zs.length := by have := HL.out; omega
      have hR0 : Hid (∀ W, Below wr.heap.size wr W → RSS W A n zs) := fun W hW => (HR.out.below hB).below hW
      have HOB : Hid (∀ W, Below wr.heap.size wr W → OSS W w.heap.size wr.heap.size u3 ((tabL zs).take i) ∧ Below w.heap.size w W) := fun W hW => ⟨hO.below hW, hB.trans (hW.mono hB.size)⟩
      have hlo : w.heap.size ≤ wr.heap.size := hB.size
      have HS0 : Hid (RwS wr.heap.size wr (wr.alloc (.cells #[] 3)) (.slice (some ⟨wr.heap.size, 0, none⟩) 0 0) 0 (ivs ((tabR zs i).take 0))) := ⟨own_lit0 _, (Below.refl _ wr).alloc (Nat.le_refl _) _, Nat.le_refl _⟩
      have e1 := HCH.out _ (ent_mem hil)
      clear hO hB
      go_wp2
      generalize hwo : wr.heap.size = lo at *
      generalize wr.alloc (.cells #[] 3) = wa at *
      go_loopw [5, 6] (fun v s wq => ∃ k : Nat, k ≤ n ∧ s = .int .i64 (k : Int) ∧ Hid (RwS lo wr wq v k (ivs ((tabR zs i).take k)))) (fun _ s _ => n - (intOf s).toNat)
      case atStart => exact ⟨0, Nat.zero_le _, rfl, HS0.out⟩
      case round =>
        clear HS0
        obtain ⟨k, hkn, rfl, HN⟩ := hrel
        by_cases hkl : k < n
        · have hkk : (k : Int) < (n : Int) := by omega
          have hkz : k < zs.length := by have := HL.out; omega
          have e2 := HCH.out _ (ent_mem hkz)
          have hR := hR0.out _ HN.out.bel
          obtain ⟨ad, Ai, ci, rfl, _, hci, hri⟩ := hR.at_ hlt
          obtain ⟨ad', Ak, ck, he, _, hck, hrk⟩ := hR.at_ hkl
          obtain rfl := Option.some.inj he
          rw [show zs[i]?.getD [] = ent zs i from rfl, e1.2] at hci hri
          rw [show zs[k]?.getD [] = ent zs k from rfl, e2.2] at hck hrk
          have hP := isP_of e1.1 e2.1 (e1.2.trans e2.2.symm)
          have HST : Hid (∀ z : Int, z = fndI zs (tiL (ent zs i) (ent zs k)) → ivs ((tabR zs i).take k) ++ [.int .i64 z] = ivs ((tabR zs i).take (k + 1))) := fun z hz => by
            subst hz; rw [tabR_snoc hkz]; simp [ivs]
          have HT1 := Lib.hid (fun (W : World) (h1 : RI W Ai (ent zs 0).length (ent zs i)) (h2 : RI W Ak (ent zs 0).length (ent zs k)) => l1Ti_any Ai Ak (ent zs 0).length ci ck (ent zs i) (ent zs k) W h1 h2 hP)
          have HF1 := Lib.hid (fun (W : World) (B : Option Addr) (m d : Nat) (h1 : RSS W (some ad) n zs) (h2 : RI W B m (tiL (ent zs i) (ent zs k))) => l3Find_any (some ad) B n m c d zs (tiL (ent zs i) (ent zs k)) W h1 h2 (by omega) HLL.out)
          have hN1 := HN.out.drew
          have hR1 : RSS wr.drew (some ad) n zs := hR.heap rfl
          have hri1 : RI wr.drew Ai (ent zs 0).length (ent zs i) := hri.heap rfl
          have hrk1 : RI wr.drew Ak (ent zs 0).length (ent zs k) := hrk.heap rfl
          have hx1 : k + 1 ≤ maxLen := by unfold maxLen; omega
          have hx2 : (k + 1) * 8 ≤ 140737488355328 := by omega
          have hcc : (ent zs 0).length = (ent zs 0).length := rfl
          generalize tiL (ent zs i) (ent zs k) = M at *
          obtain ⟨z, hz⟩ : ∃ z, fndI zs M = z := ⟨_, rfl⟩
          rw [hz] at HF1 HST
          clear hcc hz e2 hP he hri hrk hR HN hkz
          go_wp2
          go_region_law (first
            | (go_simp
               go_at_call 99
               refine (HT1.out _ hri1 hrk1).mono ?_
               rintro e w3 ⟨v3, rfl, hown3, hb3⟩
               have hN2 := hN1.on hb3
               have hR2 := hR1.below hb3
               obtain ⟨B3, c3, rfl⟩ := own_slice hown3
               have hr3 := RI.of_own hown3)
            | (go_simp
               go_at_call 65
               refine (HF1.out _ _ _ _ hR2 hr3).mono ?_
               rintro e w4 ⟨rfl, q4, rfl⟩
               have hN3 := (hN2.drewN q4).alloc (.cells #[.int .i64 z] 3))
            | (refine step_append_lies _ (by rfl) _ _ _ (by rfl) lo 3 i0 (.int .i64 0) 1 8 Tryz.underlying24 hi hz0 hz1 hz2 rfl (by decide) _ k _ (by rfl) hN3.own ⟨(w3.drewN q4).heap.size, 0, none⟩ 1 1 [.int .i64 z] (by rfl) rfl (cell_one_new _ _ _) (by simp [Value.oneCell']) (by decide) hx1 hx2 hN3.size ((w3.drewN q4).heap.size + 1) (by simp) ?_
               intro g7 c7 w7 hown7 hgrow7 hat7 hlt7
               have hN4 := hN3.app hown7 hgrow7))
          all_goals
            rw [HST.out z rfl] at hN4
            have HN4 := Lib.hid hN4
            clear hN1 hN2 hN3 hN4 hown7 hgrow7 hat7 hown3 hb3 hr3 hR2 hR1
            go_wp2
            go_roundw
            case rel => exact ⟨k + 1, by omega, by go_num, HN4.out⟩
            case measure => simp [intOf]; omega
        · obtain rfl : k = n := by omega
          have hkk : ¬ (k : Int) < (k : Int) := by omega
          have hE : (tabR zs i).take k = tabR zs i := List.take_of_length_le (by rw [tabR_len]; have := HL.out; omega)
          rw [hE] at HN
          have hown : wr.ownsRow lo 3 1 u5 (tabR zs i).length (ivs (tabR zs i)) := by rw [tabR_len, HL.out]; exact HN.out.own
          obtain ⟨⟨vs, a1, _, a5⟩, hB2⟩ := HOB.out _ HN.out.bel
          have hlw := HN.out.size
          have hou := (OI.of hown).less hlo
          have hap : ∀ (i : Nat) (u' : Value), vs[i]? = some u' → ∀ g : Nat, u'.ownBlock = some g → u5.ownBlock = some g → False := fun j u' hj g e1 e2 => by
            have q1 := (a5.lt hj e1).2.1
            have q2 := (hown.lt g e2).1
            omega
          have a5' := a5.more (Nat.le_refl _) hlw
          have HTS := Lib.hid (tabL_snoc hil)
          have hTl : ((tabL zs).take i).length ≤ 400 := by rw [List.length_take]; omega
          obtain ⟨Av, cv, rfl⟩ := own_slice hown
          clear hE HN hown HOB a5
          generalize (tabL zs).take i = Ts at *
          generalize tabR zs i = L at *
          have p2 : Ts.length + 1 ≤ maxLen := by unfold maxLen; omega
          have p3 : (Ts.length + 1) * 24 ≤ 140737488355328 := by omega
          have p4 : ∀ o : Obj, w.heap.size ≤ (wr.alloc o).heap.size := fun o => by have := hB2.size; simp; omega
          go_wp2_with (at_builtin; refine wpList_append_own _ rfl _ _ 23 rfl w.heap.size 24 i1 (.slice none 0 0) 1 24 Tryz.underlying23 hj hj0 hj1 hj2 rfl (by decide) _ _ _ rfl (a1.alloc _) ⟨wr.heap.size, 0, none⟩ 1 1 [.slice Av L.length cv] rfl rfl (cell_one_new _ _ _) (by simp [Value.oneCell']) p2 p3 (p4 _) ?_; intro v' w1 hown' hgrow _)
          have hin := OSS.app a1 a5' hou hap hown' hgrow
          have hB4 := below_app hB2 a1 (Nat.le_refl _) hgrow
          have HIN := Lib.hid hin
          clear hin hown' hgrow hap hou a1 a5'
          go_roundw
          case rel => exact ⟨i + 1, by omega, by go_num, by rw [HTS.out]; exact HIN.out, hB4⟩
          case measure => simp [intOf]; omega
    · obtain rfl : i = n := by omega
      have hii : ¬ (i : Int) < (i : Int) := by omega
      obtain ⟨T, ct, rfl⟩ := hO.slice
      have hr := (RSS.of_own hO).2
      have hE : (tabL zs).take i = tabL zs := List.take_of_length_le (by rw [tabL_len]; have := HL.out; omega)
      have hEl : ((tabL zs).take i).length = i := by rw [hE, tabL_len]; exact HL.out
      rw [hEl, hE] at hr
      rw [hEl]
      clear hE hEl hO
      go_wp2
      go_ret
      exact ⟨_, ⟨_, rfl⟩, hr, hB⟩
end

end Go.Proofs.YtmknjifmmmnjjaaGreatDoor
