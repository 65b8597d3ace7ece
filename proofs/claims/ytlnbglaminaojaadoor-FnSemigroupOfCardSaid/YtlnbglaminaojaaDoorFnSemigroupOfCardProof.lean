/-
  FnSemigroupOf: for every input the law returns true and leaves its arguments as they were. No condition.
-/
import Derived.Test.YtlnbglaminaojaaDoorRows
import Derived.Test.YtlnbglaminaojaaDoorCards
import Derived.Test.YtlnbglaminaojaaDoorTie
import Derived.Test.YtlnbglaminaojaaDoorMF
import Derived.Test.YtlnbglaminaojaaDoorOT
import Derived.Test.YtlnbglaminaojaaDoorOU
import Derived.Test.YtlnbglaminaojaaDoorOL
import Derived.WalkKit
import Derived.Deep.QuietTactic
import Derived.BigQuiet
import Derived.Outline
import Derived.ProofKit
import Derived.OpenShut
import Derived.ShutString
import Derived.ChangeOld
import Derived.Below
import Derived.ChangeSame
import Derived.ChangeVars
import Derived.JoinedOf
import Derived.RowKit
import Derived.RowKitTokens
import Derived.LaidLaws
import Derived.LaidHandle
import Derived.Stop.Joined
import Derived.SevenTiedAt
namespace Go.Proofs.YtlnbglaminaojaaDoor.fnSemigroupOf
set_option maxRecDepth 100000
open Go.ChangeShapes Go.WideShapes Go.ChangeAt Go.RowKit
open Go.ChangeMaps (open_string shut_string)
set_option linter.unusedVariables false

theorem own : ownKnob Tryd.prog.godebug = none := by kernel_rfl
theorem laidOut : laidOutB Tryd.prog = true := by kernel_rfl

def IsRow (k : IntKind) (w : World) (a : Option Addr) (len cap : Nat) (zs : List Int) : Prop :=
  (a = none ∧ len = 0 ∧ cap = 0 ∧ zs = []) ∨
  ∃ x, a = some x ∧ len ≤ cap ∧ cap ≤ maxLen ∧ zs.length = cap ∧ (∀ i, i < zs.length → w.cell? (x.add i) = some (.int k (zs.getD i 0))) ∧ ∀ n ∈ zs, (Lit.int k n).wf = true

theorem src_of {w : World} {a : Option Addr} {len cap : Nat} {zs : List Int} (h : IsRow .u8 w a len cap zs) : ∃ bs : Nat → Nat, Src w w.heap.size a len bs ∧ len ≤ cap := by
  rcases h with ⟨rfl, rfl, rfl, rfl⟩ | ⟨x, rfl, hlc, _, hz, hc, hw⟩
  · exact ⟨fun _ => 0, ⟨fun _ => (by decide : (0 : Nat) < 256), fun j hj => absurd hj (by omega)⟩, Nat.le_refl _⟩
  · have hr : ∀ j, 0 ≤ zs.getD j 0 ∧ zs.getD j 0 < 256 := fun j => by
      rcases Nat.lt_or_ge j zs.length with h | h
      · have := hw zs[j] (List.getElem_mem h)
        rw [List.getD_eq_getElem?_getD, List.getElem?_eq_getElem h]
        simp [Lit.wf] at this
        have h0 : IntKind.u8.min = 0 := by decide
        have h1 : IntKind.u8.max = 255 := by decide
        rw [h0, h1] at this
        simp
        omega
      · rw [List.getD_eq_getElem?_getD, List.getElem?_eq_none h]; simp
    refine ⟨fun j => (zs.getD j 0).toNat, ⟨fun j => by have := hr j; show (zs.getD j 0).toNat < 256; omega, fun j hj => ⟨x, rfl, ?_, ?_⟩⟩, hlc⟩
    · have := block_lt_of_cell (hc 0 (by omega)); rwa [block_of_add] at this
    · rw [hc j (by omega), Int.toNat_of_nonneg (hr j).1]

set_option maxHeartbeats 4000000 in
theorem walk (a0 : Option Addr) (len0 cap0 : Nat) (z0 : List Int) (w : World) (het : EtAt w) (w0 : IsRow .u8 w a0 len0 cap0 z0) :
    Calls Tryd.prog 4 #[.slice a0 len0 cap0] w fun e w' => e = .returned (.bool true) ∧ Below w.heap.size w w' := by
  have HET := Lib.hid het
  clear het
  obtain ⟨bs, hS, hlc⟩ := src_of w0
  clear w0
  by_cases hbig : 1048576 < len0
  · go_enter Tryd.func4, Tryd.ntmps4
    go_wp2
    go_ret
    exact ⟨rfl, Below.refl _ _⟩
  obtain ⟨i1, hj, hj0, hj1, hj2⟩ := info_parts info_ints
  go_enter Tryd.func4, Tryd.ntmps4
  go_wp2_with fail
  refine (drawSgOf_any _ _ _ _ _ hS hlc (by omega)).mono ?_
  rintro e W1 ⟨v_, zs, rfl, _, oG, hz1, hz3, h7, hbel⟩
  obtain ⟨A, n, c, rfl, hn⟩ := oG.form_
  have H7 : Hid (∀ L ∈ zs, L.length ≤ 1048576) := fun L hL => by have := h7 L hL; omega
  have HLN : Hid (zs.length = n) := hn.symm
  have hn1 : 1 ≤ n := by omega
  have hn3 : n ≤ 3 := by omega
  have hR := rss_oss_ oG
  obtain ⟨OL, OB, hO⟩ := ofs_ex zs
  have HO := Lib.hid hO
  have HOL := Lib.hid (ofs_le hO)
  clear hS h7 hn hO hz1 hz3 oG
  go_wp2_with fail
  refine (implOf_any A n c zs OL OB HO.out _ hR (HET.out.below hbel)).mono ?_
  rintro e W2 ⟨v, rfl, oX, b⟩
  obtain ⟨Ax, nx, cx, rfl, hnx⟩ := oX.form_
  have HNX : Hid (OL.length = nx) := hnx.symm
  have hnx4 : nx ≤ 400 := by have := HOL.out.1; omega
  have hR2 := hR.below b
  replace hbel := hbel.trans (b.mono hbel.size)
  clear b hR hnx
  go_wp2_with fail
  refine (specOf_any A n c zs OL OB HO.out _ hR2 (by omega) H7.out).mono ?_
  rintro e W3 ⟨v, rfl, oW, b⟩
  obtain ⟨Aw, nw, cw, rfl, hnw⟩ := oW.form_
  have hR := hR2.below b
  have hX := rss_oss_ (oX.below b)
  have hW := rss_oss_ oW
  replace hbel := hbel.trans (b.mono hbel.size)
  clear b hR2 hnw oX oW
  go_wp2_with fail
  refine (sameRows_any Ax Aw nx nw cx cw OL OL _ hX hW (by omega) HOL.out.2.2).mono ?_
  rintro e W4 ⟨rfl, b⟩
  rw [show decide (OL = OL) = true from decide_eq_true rfl]
  replace hR := hR.below b
  replace hX := hX.below b
  replace hW := hW.below b
  replace hbel := hbel.trans (b.mono hbel.size)
  clear b
  cases OB
  · go_wp2_with fail
    refine (sameRows_any Ax Aw nx nw cx cw OL OL _ hX hW (by omega) HOL.out.2.2).mono ?_
    rintro e W5 ⟨rfl, b⟩
    rw [show decide (OL = OL) = true from decide_eq_true rfl]
    replace hbel := hbel.trans (b.mono hbel.size)
    go_wp2
    go_ret
    exact ⟨rfl, hbel⟩
  · have HSG := Lib.hid (ofs_sg HO.out)
    have HZ : Hid (∀ L ∈ zs, 0 < L.length) := fun L hL => (isC_len ((sgS_iff.1 HSG.out.1).ch L (HSG.out.2 L hL)).1).1
    have HR4 := Lib.hid hR
    have HX4 := Lib.hid hX
    have HB4 := Lib.hid hbel
    have hn11 : ((n : Int) - 1) = (n : Int) - 1 := rfl
    clear hR hX hW
    go_wp2
    go_loopw [8, 9] (fun v i wr => ∃ (k g cc : Nat) (vs : List Value), k ≤ n ∧ i = .int .i64 ((k : Int) - 1) ∧ v = .slice (some ⟨g, 0, none⟩) (zs.drop k).reverse.length cc ∧ wr.ownsRow W4.heap.size 26 1 v (zs.drop k).reverse.length vs ∧ Qs wr v vs (zs.drop k).reverse ∧ Below W4.heap.size W4 wr) (fun _ i _ => (intOf i + 1).toNat)
    case atStart =>
      refine ⟨n, W4.heap.size, 0, [], Nat.le_refl _, rfl, ?_, ?_, ?_, (Below.refl _ _).alloc (Nat.le_refl _) _⟩
      · rw [List.drop_of_length_le (by rw [HLN.out]; exact Nat.le_refl _)]; rfl
      · rw [List.drop_of_length_le (by rw [HLN.out]; exact Nat.le_refl _)]
        exact World.ownsRow_lit (base := W4.heap.size) (e := 26) (size := 1) W4 #[] 0 (Nat.le_refl _) (by simp [maxLen]) rfl
      · rw [List.drop_of_length_le (by rw [HLN.out]; exact Nat.le_refl _)]
        exact ⟨rfl, fun i L h => by cases h⟩
    case round =>
      clear hbel
      obtain ⟨k, g, cc, vs, hk, rfl, rfl, hown, hQ, hB⟩ := hrel
      by_cases hlt : 0 < k
      · obtain ⟨p, hp⟩ : ∃ p, p + 1 = k := ⟨k - 1, by omega⟩
        have hkp : (k : Int) - 1 = (p : Int) := by omega
        have hpl : p < zs.length := by have := HLN.out; omega
        obtain ⟨L, hL⟩ : ∃ L, zs[p]? = some L := ⟨_, List.getElem?_eq_getElem hpl⟩
        have hLz := HZ.out L (List.mem_of_getElem? hL)
        have HT : Hid ((zs.drop p).reverse = (zs.drop (p + 1)).reverse ++ [L]) := by
          show _ = _
          rw [List.drop_eq_getElem_cons hpl, List.reverse_cons]
          rw [List.getElem?_eq_getElem hpl] at hL
          injection hL with hL; rw [hL]
        obtain ⟨ad, Ai, ci, hA, hab, hc0, hri0⟩ := HR4.out.at_ (k := p) (by omega)
        rw [hL, Option.getD_some] at hc0 hri0
        have hri := hri0.below hB
        have hcc := (hB.cell (p := ad.add p) (by rw [block_of_add]; exact hab)).trans hc0
        obtain ⟨aL, rfl, haL, _⟩ := hri0.2.2 (by omega)
        have hgl := (hown.lt g rfl).1
        rw [← hp] at hown hQ ⊢
        have HLM : Hid (∀ M ∈ (zs.drop (p + 1)).reverse ++ [L], 0 < M.length) := fun M hM => by
          rcases List.mem_append.1 hM with h | h
          · exact HZ.out M (List.mem_of_mem_drop (List.mem_reverse.1 h))
          · rw [List.mem_singleton.1 h]; exact hLz
        have hbl : (zs.drop (p + 1)).reverse.length ≤ 3 := by rw [List.length_reverse, List.length_drop, HLN.out]; omega
        subst hA
        generalize (zs.drop (p + 1)).reverse = Bs at *
        have p1 : Bs.length + 1 ≤ maxLen := by unfold maxLen; omega
        have p2 : (Bs.length + 1) * 24 ≤ 140737488355328 := by omega
        have p3 : W4.heap.size ≤ (wr.alloc (.cells #[.slice (some aL) L.length ci] 26)).heap.size := by have := hB.size; simp; omega
        have hone : ∀ u ∈ [Value.slice (some aL) L.length ci], u.oneCell' = true := fun u hu => by rw [List.mem_singleton.1 hu]; rfl
        have hra := hown.alloc (.cells #[.slice (some aL) L.length ci] 26)
        have hpn : (p : Int) < (n : Int) := by omega
        have hkc : ((p + 1 : Nat) : Int) - 1 = (p : Int) := by omega
        have hp0 : (0 : Int) ≤ (p : Int) := by omega
        clear hL hpl hri0 hc0 hp hlt
        go_wp2_with (at_builtin
                     refine wpList_append_own_at _ rfl _ _ 23 rfl W4.heap.size 26 i1 (.slice none 0 0) 1 24 Tryd.underlying23 hj hj0 hj1 hj2 rfl (by decide) (.slice (some ⟨g, 0, none⟩) Bs.length cc) Bs.length vs rfl hra ⟨wr.heap.size, 0, none⟩ 1 1 [.slice (some aL) L.length ci] rfl rfl (cell_one_new _ _ _) hone p1 p2 p3 ?_
                     intro v' w' hown' hgrow _ hat)
        obtain ⟨gq, cq, hvq, hgq, _⟩ := hown'.form (by omega)
        subst hvq
        have hQ2 := ((hQ.snoc (ci := ci) hri (fun ad e => by injection e with e; subst e; simp only [Value.ownBlock]; intro e'; injection e' with e'; omega)).alloc (.cells #[.slice (some aL) L.length ci] 26)).grown (v' := .slice (some ⟨gq, 0, none⟩) (Bs.length + 1) cq) HLM.out hgrow (hat.imp id (fun e x hx => by rw [e] at hx; injection hx with hx; omega))
        have hB2 := (hB.alloc hB.size (.cells #[.slice (some aL) L.length ci] 26)).grown hgrow p3 (fun x e => by simp only [Value.ownBlock] at e; injection e with e; omega)
        have HLN2 : Hid ((Bs ++ [L]).length = Bs.length + 1) := by show _ = _; simp
        clear hgrow hat
        go_wp2
        go_roundw
        case rel => exact ⟨p, gq, cq, _, by omega, rfl, by rw [HT.out, HLN2.out], by rw [HT.out, HLN2.out]; exact hown', by rw [HT.out]; exact hQ2, hB2⟩
        case measure => simp [intOf]
      · obtain rfl : k = 0 := by omega
        rw [List.drop_zero] at hown hQ ⊢
        have hRb := hQ.rss hown
        have HRL : Hid (zs.reverse.length = n) := by show _ = _; rw [List.length_reverse]; exact HLN.out
        rw [HRL.out] at hRb ⊢
        obtain ⟨PL, PB, hP⟩ := ofs_ex zs.reverse
        obtain ⟨hP1, hP2⟩ := ofs_rev HO.out hP
        have hbel := HB4.out.trans (hB.mono HB4.out.size)
        have hcall := implOf_any (some ⟨g, 0, none⟩) n cc zs.reverse PL PB hP wr hRb (HET.out.below hbel)
        rw [hP1, hP2] at hcall
        have hX := HX4.out.below hB
        have hG := HR4.out.below hB
        clear hP hP1 hP2 hown hQ hRb hlt
        go_wp2_with fail
        refine hcall.mono ?_
        rintro e W6 ⟨v, rfl, oY, b⟩
        obtain ⟨Ay, ny, cy, rfl, hny⟩ := oY.form_
        have HYW := Lib.hid (rss_oss_ oY)
        have HXW := Lib.hid (hX.below b)
        have HGW := Lib.hid (hG.below b)
        have hny4 : ny ≤ 1048576 := by have := HOL.out.1; omega
        replace hbel := hbel.trans (b.mono hbel.size)
        clear b hcall hX hG oY hny hB
        go_wp2
        go_loopw [12] (fun i wq => ∃ k : Nat, k ≤ n ∧ i = .int .i64 (k : Int) ∧ Below W6.heap.size W6 wq ∧ Below w.heap.size w wq) (fun i _ => n - (intOf i).toNat)
        case atStart => exact ⟨0, Nat.zero_le _, rfl, Below.refl _ _, hbel⟩
        case round =>
          clear hbel
          obtain ⟨k, hk, rfl, hB6, hbel⟩ := hrel
          by_cases hlt : k < n
          · have hkl : k < zs.length := by have := HLN.out; omega
            have hmem := HSG.out.2 _ (ent_mem hkl)
            obtain ⟨ad, Ai, ci, hA, _, hck, hrk⟩ := (HGW.out.below hB6).at_ hlt
            rw [show zs[k]?.getD [] = ent zs k from rfl] at hck hrk
            subst hA
            have HME := Lib.hid hmem
            have hLk := H7.out _ (ent_mem hkl)
            clear hkl hmem
            generalize ent zs k = a at *
            have HCK := Lib.hid hck
            have HRK := Lib.hid hrk
            go_wp2
            go_loopw [13, 14] (fun h i wp => ∃ j : Nat, j ≤ nx ∧ i = .int .i64 (j : Int) ∧ h = .bool (anyK OL a j) ∧ Below wr.heap.size wr wp ∧ Below W6.heap.size W6 wp ∧ Below w.heap.size w wp) (fun _ i _ => nx - (intOf i).toNat)
            case atStart => exact ⟨0, Nat.zero_le _, rfl, rfl, Below.refl _ _, hB6, hbel⟩
            case round =>
              clear hB6 hbel
              obtain ⟨j, hjn, rfl, rfl, hBr, hB6, hbel⟩ := hrel
              by_cases hjl : j < nx
              · have hjo : j < OL.length := by have := HNX.out; omega
                have HT := Lib.hid (anyK_succ (a := a) hjo)
                cases haj : anyK OL a j
                · obtain ⟨ad2, Aj, cj, hA2, _, hcj, hrj⟩ := (HXW.out.below hB6).at_ hjl
                  rw [show OL[j]?.getD [] = ent OL j from rfl] at hcj hrj
                  subst hA2
                  have HTF : Hid (anyK OL a (j + 1) = decide (ent OL j = a)) := by show _ = _; rw [HT.out, haj]; rfl
                  have hLj := HOL.out.2.2 _ (ent_mem hjo)
                  have hck := (hBr.cell (p := ad.add k) (World.block_lt_of_cell? _ _ HCK.out)).trans HCK.out
                  have hrk := HRK.out.below hBr
                  clear haj hjo
                  generalize ent OL j = L at *
                  go_wp2_with fail
                  have tok1 : True := trivial
                  have hS := Below.refl wr.heap.size wr
                  go_region_held3 (fun w' => w'.cell? (ad2.add j) = some (.slice Aj L.length cj) ∧ w'.cell? (ad.add k) = some (.slice Ai a.length ci))
                    (first | exact ⟨by assumption, by assumption⟩ | go_keep)
                    (first
                      | (go_at_call 10
                         have _t := tok1
                         with_reducible refine (sameInts_any Aj Ai L.length a.length cj ci L a _ ?_ ?_ hLj).mono ?_
                         · exact hrj.heap rfl
                         · exact hrk.heap rfl
                         rintro e W5 ⟨rfl, b⟩
                         have hcj := cell_keepO b hcj rfl
                         have hck := cell_keepO b hck rfl
                         have hS := bel_keep b hS rfl rfl rfl rfl hS.size
                         clear tok1 _t b))
                  replace hBr := hBr.trans (hS.mono hBr.size)
                  replace hB6 := hB6.trans (hS.mono hB6.size)
                  replace hbel := hbel.trans (hS.mono hbel.size)
                  clear hS hck hrk hcj hrj hLj
                  go_wp2
                  go_roundw
                  case rel => exact ⟨j + 1, by omega, by go_num, by rw [HTF.out], hBr, hB6, hbel⟩
                  case measure => simp [intOf]; omega
                · have HTF : Hid (anyK OL a (j + 1) = true) := by show _ = _; rw [HT.out, haj]; rfl
                  clear haj hjo
                  go_wp2_with fail
                  refine wp_region_held_drew (S := fun _ => True) (by kernel_rfl) ?_ (fun hHeld => ?_)
                  · trivial
                  refine wpAnyH_take (i := 0) (v := .bool true) (by rw [List.getElem?_toArray]; rfl) (by kernel_rfl) (by kernel_rfl) (by kernel_rfl) (by exact fun _ _ _ h => h) (Or.inl ⟨by rfl, fun w hSw => by (try dsimp only at hSw); go_simp⟩) (by assumption) ?_
                  try simp only [Act.put, List.setIfInBounds_toArray, List.set_cons_zero, List.set_cons_succ]
                  refine wpAnyH_take (i := 1) (v := .bool true) (by rw [List.getElem?_toArray]; rfl) (by kernel_rfl) (by kernel_rfl) (by kernel_rfl) (by exact fun _ _ _ h => h) (Or.inl ⟨by rfl, fun w hSw => by (try dsimp only at hSw); go_simp⟩) (by assumption) ?_
                  try simp only [Act.put, List.setIfInBounds_toArray, List.set_cons_zero, List.set_cons_succ]
                  refine wpAnyH_take (i := 2) (v := undef) (by rw [List.getElem?_toArray]; rfl) (by kernel_rfl) (by kernel_rfl) (by kernel_rfl) (by exact fun _ _ _ h => h) (Or.inr ⟨by kernel_rfl, rfl⟩) (by assumption) ?_
                  try simp only [Act.put, List.setIfInBounds_toArray, List.set_cons_zero, List.set_cons_succ]
                  refine wpAnyH_take (i := 3) (v := undef) (by rw [List.getElem?_toArray]; rfl) (by kernel_rfl) (by kernel_rfl) (by kernel_rfl) (by exact fun _ _ _ h => h) (Or.inr ⟨by kernel_rfl, rfl⟩) (by assumption) ?_
                  try simp only [Act.put, List.setIfInBounds_toArray, List.set_cons_zero, List.set_cons_succ]
                  refine wpAnyH_take (i := 4) (v := undef) (by rw [List.getElem?_toArray]; rfl) (by kernel_rfl) (by kernel_rfl) (by kernel_rfl) (by exact fun _ _ _ h => h) (Or.inr ⟨by kernel_rfl, rfl⟩) (by assumption) ?_
                  try simp only [Act.put, List.setIfInBounds_toArray, List.set_cons_zero, List.set_cons_succ]
                  refine wpAnyH_take (i := 5) (v := undef) (by rw [List.getElem?_toArray]; rfl) (by kernel_rfl) (by kernel_rfl) (by kernel_rfl) (by exact fun _ _ _ h => h) (Or.inr ⟨by kernel_rfl, rfl⟩) (by assumption) ?_
                  try simp only [Act.put, List.setIfInBounds_toArray, List.set_cons_zero, List.set_cons_succ]
                  refine wpAnyH_take (i := 6) (v := undef) (by rw [List.getElem?_toArray]; rfl) (by kernel_rfl) (by kernel_rfl) (by kernel_rfl) (by exact fun _ _ _ h => h) (Or.inr ⟨by kernel_rfl, rfl⟩) (by assumption) ?_
                  try simp only [Act.put, List.setIfInBounds_toArray, List.set_cons_zero, List.set_cons_succ]
                  refine wpAnyH_take (i := 7) (v := undef) (by rw [List.getElem?_toArray]; rfl) (by kernel_rfl) (by kernel_rfl) (by kernel_rfl) (by exact fun _ _ _ h => h) (Or.inr ⟨by kernel_rfl, rfl⟩) (by assumption) ?_
                  try simp only [Act.put, List.setIfInBounds_toArray, List.set_cons_zero, List.set_cons_succ]
                  refine wpAnyH_take (i := 8) (v := undef) (by rw [List.getElem?_toArray]; rfl) (by kernel_rfl) (by kernel_rfl) (by kernel_rfl) (by exact fun _ _ _ h => h) (Or.inr ⟨by kernel_rfl, rfl⟩) (by assumption) ?_
                  try simp only [Act.put, List.setIfInBounds_toArray, List.set_cons_zero, List.set_cons_succ]
                  refine wpAnyH_take (i := 9) (v := undef) (by rw [List.getElem?_toArray]; rfl) (by kernel_rfl) (by kernel_rfl) (by kernel_rfl) (by exact fun _ _ _ h => h) (Or.inr ⟨by kernel_rfl, rfl⟩) (by assumption) ?_
                  try simp only [Act.put, List.setIfInBounds_toArray, List.set_cons_zero, List.set_cons_succ]
                  refine wpAnyH_take (i := 10) (v := undef) (by rw [List.getElem?_toArray]; rfl) (by kernel_rfl) (by kernel_rfl) (by kernel_rfl) (by exact fun _ _ _ h => h) (Or.inr ⟨by kernel_rfl, rfl⟩) (by assumption) ?_
                  try simp only [Act.put, List.setIfInBounds_toArray, List.set_cons_zero, List.set_cons_succ]
                  refine wpAnyH_take (i := 11) (v := .bool true) (by rw [List.getElem?_toArray]; rfl) (by kernel_rfl) (by kernel_rfl) (by kernel_rfl) (by exact fun _ _ _ h => h) (Or.inl ⟨by rfl, fun w hSw => by (try dsimp only at hSw); go_simp⟩) (by assumption) ?_
                  try simp only [Act.put, List.setIfInBounds_toArray, List.set_cons_zero, List.set_cons_succ]
                  refine wpAnyH_take (i := 12) (v := .bool true) (by rw [List.getElem?_toArray]; rfl) (by kernel_rfl) (by kernel_rfl) (by kernel_rfl) (by exact fun _ _ _ h => h) (Or.inl ⟨by rfl, fun w hSw => by (try dsimp only at hSw); go_simp⟩) (by assumption) ?_
                  try simp only [Act.put, List.setIfInBounds_toArray, List.set_cons_zero, List.set_cons_succ]
                  refine wpAnyH_done (by kernel_rfl) ?_ _
                  go_wp2
                  go_roundw
                  case rel => exact ⟨j + 1, by omega, by go_num, by rw [HTF.out], ⟨hBr.os, hBr.tape, hBr.output, hBr.size, hBr.block⟩, ⟨hB6.os, hB6.tape, hB6.output, hB6.size, hB6.block⟩, ⟨hbel.os, hbel.tape, hbel.output, hbel.size, hbel.block⟩⟩
                  case measure => simp [intOf]; omega
              · obtain rfl : j = nx := by omega
                rw [anyK_all (by rw [HNX.out]; exact Nat.le_refl _) HME.out]
                go_wp2
                go_roundw
                case rel => exact ⟨k + 1, by omega, by go_num, hB6, hbel⟩
                case measure => simp [intOf]; omega
          · obtain rfl : k = n := by omega
            go_wp2_with fail
            refine (sameRows_any Ay Ax ny nx cy cx OL OL _ (HYW.out.below hB6) (HXW.out.below hB6) hny4 HOL.out.2.2).mono ?_
            rintro e W7 ⟨rfl, b⟩
            rw [show decide (OL = OL) = true from decide_eq_true rfl]
            replace hB6 := hB6.trans (b.mono hB6.size)
            replace hbel := hbel.trans (b.mono hbel.size)
            clear b
            go_wp2_with fail
            refine (implSgIn_any Ax nx cx OL _ (HXW.out.below hB6) (HET.out.below hbel)).mono ?_
            rintro e W8 ⟨rfl, b⟩
            rw [HSG.out.1]
            replace hbel := hbel.trans (b.mono hbel.size)
            go_wp2
            go_ret
            exact ⟨rfl, hbel⟩

/-! ### THE ROW's STEP -/
theorem et : Tryd.prog.globalNamed "errors.errorType" = some 0 := by kernel_rfl
theorem rt : (Tryd.prog.cutTypes.find? (·.1 == "internal/reflectlite.rtype")).map (·.2) = some 114 := by kernel_rfl
theorem oneRow : ((List.range 182).filter fun t => Tryd.prog.rowNamed t [101, 114, 114, 111, 114]) = [54] := by kernel_rfl
theorem tsize : Tryd.prog.types.size = 182 := by kernel_rfl
abbrev laidL {H : Type} : List (String × DataW H) := [("errors.errorType", Rows.laid_errors_errorType)]
/-- what the condition gives a walk: the variable's one cell -/
theorem handle_of_laid {W : World} (h : laidMetH Tryd.prog laidL W) : EtAt W := by
  have h' : laidMet Tryd.prog [] W ∧ handlesMet Tryd.prog laidL W := h
  obtain ⟨name, u, ty, e1, e2, e3, e4, e5⟩ := h'.2 _ (List.mem_singleton.2 rfl)
  have en : name = [101, 114, 114, 111, 114] := (Option.some.inj e1).symm
  subst en
  obtain rfl := Option.some.inj (rt.symm.trans e2)
  have hm : ty ∈ (List.range 182).filter fun t => Tryd.prog.rowNamed t [101, 114, 114, 111, 114] := List.mem_filter.2 ⟨List.mem_range.2 (by rw [← tsize]; exact e3), e4⟩
  rw [oneRow] at hm
  obtain rfl := List.mem_singleton.1 hm
  have hh : typeHandle Tryd.prog 54 = .pointer (some ⟨1, 54, none⟩) := by kernel_rfl
  rw [hh] at e5
  unfold EtAt
  simpa using World.var?_cell et e5 0
/-- a world that meets the condition -/
noncomputable def laidWorld (os : Os) : World :=
  let w0 := World.holding Tryd.prog os ⟨#[], #[], []⟩
  { w0 with heap := w0.heap.modify 0 fun
      | .cells _ t frozen => .cells #[.iface 114 (.agg #[.pointer (some ⟨1, 54, none⟩)])] t frozen
      | o => o }
theorem laidWorld_met (os : Os) (args : Array Value) : laidMetH Tryd.prog laidL ((laidWorld os).forCall (fun _ _ => 0) ⟨#[], args, []⟩).memory :=
  laidMetH_of_parts (laidMet_nil _ _) (by kernel_rfl)

set_option maxRecDepth 100000 in
theorem lifted (os : Os) (started : os.Started) (H : Type) (enc : TypeId × Value → H) :
    ReturnsInHanded {} Tryd.checked os 4 .any (fun w args => (Rows.fnSemigroupOfSpec.pre enc Tryd.prog Tryd.f4 [] false w args ∧ laidMetH Tryd.prog laidL w) ∧ sizedMet enc Tryd.prog Tryd.f4 (OpenSpec.ofChange Rows.fnSemigroupOfSpec) false w args) (Rows.fnSemigroupOfSpec.post enc Tryd.prog Tryd.f4 false true false false) := by
  refine returnsInHanded_of_change_and (C := Tryd.checked) (X := fun w _ => laidMetH Tryd.prog laidL w) (fun _ _ _ hh h => h.of_heap hh) own started (by kernel_rfl) Tryd.func4
    (ChangeSpec.witness_at (enc := enc) (C := Tryd.checked) (os := os) (X := fun w _ => laidMetH Tryd.prog laidL w) false (laidWorld os) #[.slice none 0 0] 8 rfl (by kernel_rfl) (by kernel_rfl) (by kernel_rfl) (by kernel_rfl) (by kernel_rfl) (laidWorld_met os _)) ?_
  intro W base args ds gs before hval0 hW _ _ hL _
  have hval : ∀ (j : Nat) t v, Tryd.f4.params[j]? = some t → args[j]? = some v → Value.okWide Tryd.prog W .any base t v := hval0
  have hW' := hW
  obtain ⟨p, q, hA0, hV, rfl, hfz, hnd⟩ := hW
  have hA : DataW.TrodAll enc Tryd.prog W 0 (fun _ => true) true Tryd.f4.params.toList args.toList ds p := hA0
  rw [Tryd.params4] at hA hval
  obtain ⟨v0, vs0, d0, ds0, p0, q0, hargs, rfl, rfl, h0, r0⟩ := trodAll_cons hA
  obtain ⟨rfl, rfl, rfl⟩ := trodAll_nil r0
  obtain rfl : args = #[v0] := by cases args; simp_all
  obtain ⟨rfl, rfl⟩ := trodVars_none hV
  obtain ⟨a0, len0, cap0, rfl⟩ := okWide_slice Tryd.underlying22 (hval 0 22 v0 rfl rfl)
  have k0 := h0
  have lt0 : ∀ x ∈ p0, x.block < W.heap.size := by obtain ⟨m, hm⟩ := k0; exact DataW.trod_lt m _ _ _ hm
  obtain ⟨z0, w0⟩ : ∃ zs, IsRow .u8 W a0 len0 cap0 zs := by
    obtain ⟨fuel, hf⟩ := h0
    rcases open_ints Tryd.underlying22 Tryd.underlying5 (by kernel_rfl) hf with ⟨hcs, _⟩ | ⟨x, l, c, zs, hcs, _, hl, hm, hz, _, hcell, hwz⟩
    · simp [Value.cells] at hcs
      obtain ⟨rfl, rfl, rfl⟩ := hcs
      exact ⟨[], .inl ⟨rfl, rfl, rfl, rfl⟩⟩
    · simp [Value.cells] at hcs
      obtain ⟨rfl, rfl, rfl⟩ := hcs
      exact ⟨zs, .inr ⟨_, rfl, hl, hm, by simpa using hz, hcell, hwz⟩⟩
  clear hA0 hval0
  refine (walk a0 len0 cap0 z0 W (handle_of_laid hL) w0).mono fun e W' ⟨he, bel⟩ => ?_
  subst he
  exact ⟨_, rfl, _, _, _, [], _, [], hW', trodAll_mk1 (shut_bool Tryd.underlying4 _), (trodAll_cons_mk (Below.trod laidOut (by kernel_rfl) (of_decide_eq_true (by kernel_rfl)) k0 bel lt0) trodAll_mk0), rfl, bel.frame _, fun h => by cases h⟩

theorem over : Rows.fnSemigroupOfRow.holds Tryd.pinned (OpenSpec.ofChange Rows.fnSemigroupOfSpec) :=
  OpenClaim.holds_of_wide 4 Tryd.f4 rfl rfl rfl rfl rfl rfl rfl ⟨rfl, rfl, rfl, rfl, rfl⟩ rfl rfl rfl rfl rfl (by kernel_rfl) Tryd.func4 (by kernel_rfl)
    (of_decide_eq_true (by kernel_rfl)) (by unfold Func.isWrapper; first | (rw [if_pos (by decide +kernel)]; kernel_rfl) | (rw [if_neg (by decide +kernel)]; exact ⟨rfl, rfl⟩))
    (fun os started H enc _ => lifted os started H enc)

theorem proved : Rows.FnSemigroupOfCardSaid :=
  Claim7.holds_tied_plain_at .later [] [.handle] true _ true
    over (fun _ h => by cases h) (by kernel_rfl) (fun _ h => by cases h) fnSemigroupOf_row_tie rfl ⟨rfl, rfl⟩ (by kernel_rfl) rfl
    (fun f fn hf hfn => by
      obtain rfl : f = 4 := Option.some.inj ((show Tryd.prog.funcNamed Rows.fnSemigroupOfRow.func = some 4 by kernel_rfl).symm.trans hf) |>.symm
      obtain rfl : fn = Tryd.f4 := (Option.some.inj (Tryd.func4.symm.trans hfn)).symm
      exact ⟨by kernel_rfl, fun j t ht => by
        rw [Tryd.params4] at ht
        rcases j with _ | j
        · have h0 : t = 22 := by simpa using ht.symm
          subst h0
          exact (show Tryd.prog.wantsStandIn 22 = false by kernel_rfl)
        simp at ht⟩)
    (by kernel_rfl)
#print axioms proved
end Go.Proofs.YtlnbglaminaojaaDoor.fnSemigroupOf
