/-
  DrwG.
-/
import Derived.Test.YtmknjifmmmnjjaaGreatDoorMF
import Derived.Test.YtmknjifmmmnjjaaGreatDoorOR
namespace Go.Proofs.YtmknjifmmmnjjaaGreatDoor
set_option maxRecDepth 100000
set_option linter.unusedVariables false
set_option linter.unusedSimpArgs false
set_option linter.unusedSectionVars false

/-! What the laws of chapter 3 draw: some charts; a semigroup. -/
section
open Go.RowKit

section
variable {W W' : World} {lo hi R : Nat} {v : Value} {vs : List Value} {Ls : List (List Int)}
theorem OV.rd (h : OV W lo v vs Ls) (hg : W.grownBy W' (some R)) (hR : R < lo) : OV W' lo v vs Ls :=
  ⟨own_rd h.row hg hR, (h.inn.same fun _ _ hu g hg' => hg.block g (h.inn.lt hu hg').2.2 (fun e => by have := (h.inn.lt hu hg').1; injection e with e; omega)).more (Nat.le_refl _) hg.size⟩
theorem OSS.rd (h : OSS W lo W.heap.size v Ls) (hg : W.grownBy W' (some R)) (hR : R < lo) : OSS W' lo W'.heap.size v Ls := by
  obtain ⟨vs, h1, _, h3⟩ := h
  exact (OV.rd ⟨h1, h3⟩ hg hR).oss
end
theorem RSS.tail {w : World} {A : Option Addr} {n c : Nat} {Ls : List (List Int)} (h : RSS w A n Ls) (hn : 1 ≤ n) (hc : n ≤ c) : RSS w (if c = 1 then A else A.map (·.add 1)) (n - 1) (Ls.drop 1) := by
  obtain ⟨h1, vs, h2, h3⟩ := h
  have hk := h2.cut (k := 1) (cap := c) hn hc
  simp only [Nat.mul_one] at hk
  refine ⟨by rw [List.length_drop, h1], vs.drop 1, hk, fun i L hL => ?_⟩
  rw [List.getElem?_drop] at hL
  obtain ⟨Ai, ci, hv, hr⟩ := h3 (1 + i) L hL
  exact ⟨Ai, ci, by rw [List.getElem?_drop]; exact hv, hr⟩

def GivP (w : World) (R p : Nat) (e : Ending) (w' : World) : Prop := ∃ (v : Value) (Ls : List (List Int)) (p' : Nat), e = .returned v ∧ v ≠ .slice none 0 0 ∧ OSS w' w.heap.size w'.heap.size v Ls ∧ 1 ≤ Ls.length ∧ Ls.length ≤ 3 ∧ (∀ L ∈ Ls, L.length ≤ 7) ∧ w.grownBy w' (some R) ∧ Rd w' R p' ∧ p' ≤ p + 40
/-- one drawn chart more -/
theorem giv_app {w W W1 W2 : World} {R n : Nat} {v v1 v2 : Value} {vs : List Value} {Ls : List (List Int)} {L : List Int} (hR : R < w.heap.size) (hov : OV W w.heap.size v vs Ls) (hg : w.grownBy W (some R)) (hg1 : W.grownBy W1 (some R)) (h1 : W1.ownsRow W.heap.size 3 1 v1 L.length (ivs L))
    (hown : W2.ownsRow w.heap.size 24 1 v2 (Ls.length + 1) (vs ++ [v1])) (hgr : (W1.alloc (.cells #[v1] 24)).grownBy W2 v.ownBlock) (hRd : Rd W1 R n) :
    OV W2 w.heap.size v2 (vs ++ [v1]) (Ls ++ [L]) ∧ w.grownBy W2 (some R) ∧ Rd W2 R n := by
  have hov1 := hov.rd hg1 hR
  have hf : ∀ g, v.ownBlock = some g → w.heap.size ≤ g := fun g e => (hov.row.lt g e).1
  refine ⟨⟨by rw [List.length_append]; exact hown, ?_⟩, gb_far (gb_alloc (gb_trans hg hg1) _) hgr hf, (hRd.grown (row := none) (World.grownBy_alloc _ _ _) (fun _ e => by cases e)).grown hgr (fun g e => by have := hf g e; omega)⟩
  exact inn_app hov1.row hov1.inn ((OI.of h1).less hg.size) (fresh_apart (w0 := W) hov.inn (Nat.le_refl _) h1) hgr
set_option maxHeartbeats 2000000 in
theorem l91Given_any (R p : Nat) (w : World) (h : Rd w R p) (hp : p ≤ 80000) :
    Calls Tryz.prog 100 #[.pointer (some ⟨R, 0, none⟩)] w (GivP w R p) := by
  obtain ⟨i1, hj, hj0, hj1, hj2⟩ := info_parts info_ints
  have hRl := h.lt
  go_enter Tryz.func100, Tryz.ntmps100
  go_wp2_with fail
  refine (pick_any R p 4 _ h (by omega) (by omega) (by omega)).mono ?_
  rintro e w1 ⟨n0, rfl, hn0, hRd1, hg1⟩
  clear h
  go_wp2_with fail
  have hRda := hRd1.grown (row := none) (World.grownBy_alloc w1 (.cells #[] 24) none) (fun _ e => by cases e)
  refine (pick_any R (p + 1) 2 _ hRda (by omega) (by omega) (by omega)).mono ?_
  rintro e w2 ⟨k0, rfl, hk0, hRd2, hg2⟩
  have hs1 := hg1.size
  have hL0 : (w1.alloc (.cells #[] 24)).ownsRow w1.heap.size 24 1 (.slice (some ⟨w1.heap.size, 0, none⟩) 0 0) 0 [] := World.ownsRow_lit (base := w1.heap.size) (e := 24) (size := 1) w1 #[] 0 (Nat.le_refl _) (by simp [maxLen]) rfl
  have hov0 : OV w2 w.heap.size (.slice (some ⟨w1.heap.size, 0, none⟩) 0 0) [] [] := OV.rd ⟨own_base hL0 hs1, Inn.nil⟩ hg2 hRl
  have hgg := gb_trans (gb_alloc hg1 (.cells #[] 24)) hg2
  clear hRd1 hg1 hRda hg2 hL0
  go_wp2
  go_loopw [4, 6] (fun v i W => ∃ (k p' : Nat) (vs : List Value) (Ls : List (List Int)), k ≤ 1 + k0 ∧ i = .int .i64 (k : Int) ∧ Ls.length = k ∧ v ≠ .slice none 0 0 ∧ OV W w.heap.size v vs Ls ∧ (∀ L ∈ Ls, L.length ≤ 7) ∧ w.grownBy W (some R) ∧ Rd W R p' ∧ p' ≤ p + 2 + 6 * k) (fun _ i _ => 1 + k0 - (intOf i).toNat)
  case atStart => exact ⟨0, p + 1 + 1, [], [], Nat.zero_le _, rfl, rfl, by simp, hov0, (fun L h => by cases h), hgg, hRd2, by omega⟩
  case round =>
    clear hov0 hgg hRd2 hs1
    obtain ⟨k, p', vs, Ls, hk, rfl, hLl, hv, hov, hls, hg, hRd, hp'⟩ := hrel
    have hc := l91Chart_any R p' (1 + n0) wr hRd (by omega) (by omega) (by omega)
    rw [show ((1 + n0 : Nat) : Int) = 1 + (n0 : Int) from by omega] at hc
    by_cases hlt : k < 1 + k0
    · have hd : decide ((k : Int) < 1 + (k0 : Int)) = true := decide_eq_true (by omega)
      go_wp2_with fail
      refine hc.mono ?_
      rintro e W1 ⟨v1, rfl, L, hL7, o1, hg1, hRd1⟩
      have hov1 := (hov.rd hg1 hRl).alloc (.cells #[v1] 24)
      have hr1 := hov1.row
      rw [hLl] at hr1
      have hsz : w.heap.size ≤ (W1.alloc (.cells #[v1] 24)).heap.size := by have := hg.size; have := hg1.size; simp; omega
      have q1 : k + 1 ≤ maxLen := by unfold maxLen; omega
      have q2 : (k + 1) * 24 ≤ 140737488355328 := by omega
      obtain ⟨A1, c1, rfl⟩ := own_slice o1
      have hone : ∀ u ∈ [Value.slice A1 L.length c1], u.oneCell' = true := fun u hu => by rw [List.mem_singleton.1 hu]; rfl
      have HLl := Lib.hid hLl
      clear hc hLl
      go_wp2_with (at_builtin
                   refine wpList_append_own _ rfl _ _ 23 rfl w.heap.size 24 i1 (.slice none 0 0) 1 24 Tryz.underlying23 hj hj0 hj1 hj2 rfl (by decide) _ k vs rfl hr1 ⟨W1.heap.size, 0, none⟩ 1 1 [.slice A1 L.length c1] rfl rfl (cell_one_new _ _ _) hone q1 q2 hsz ?_
                   intro v2 W2 hown2 hgrow2 hnil2)
      obtain ⟨hovF, hgF, hRdF⟩ := giv_app hRl hov hg hg1 o1 (by rw [HLl.out]; exact hown2) hgrow2 hRd1
      have hv2 : v2 ≠ .slice none 0 0 := fun e => by have := (hnil2.1 e).2; omega
      clear hown2 hgrow2 hnil2 hov1 hr1
      go_wp2
      go_roundw
      case rel => exact ⟨k + 1, _, _, _, by omega, by go_num, by rw [List.length_append, HLl.out]; rfl, hv2, hovF, (fun M hM => by
        rcases List.mem_append.1 hM with h | h
        · exact hls M h
        · rw [List.mem_singleton.1 h]; exact hL7), hgF, hRdF, by omega⟩
      case measure => simp [intOf]; omega
    · have hd : decide ((k : Int) < 1 + (k0 : Int)) = false := decide_eq_false (by omega)
      clear hc
      go_wp2_with fail
      refine (pick_any R p' 30 _ hRd (by omega) (by omega) (by omega)).mono ?_
      rintro e W1 ⟨z, rfl, hz, hRd1, hg1⟩
      have hov1 := hov.rd hg1 hRl
      have hgW := gb_trans hg hg1
      have HLl := Lib.hid hLl
      by_cases hz0 : z = 0
      · subst hz0
        have hc := l91Chart_any R (p' + 1) (1 + n0 + 1) W1 hRd1 (by omega) (by omega) (by omega)
        rw [show ((1 + n0 + 1 : Nat) : Int) = 1 + (n0 : Int) + 1 from by omega] at hc
        clear hLl hov hg hRd hg1
        go_wp2_with fail
        refine hc.mono ?_
        rintro e W2 ⟨v1, rfl, L, hL7, o1, hg2, hRd2⟩
        have hov2 := (hov1.rd hg2 hRl).alloc (.cells #[v1] 24)
        have hr1 := hov2.row
        rw [HLl.out] at hr1
        have hsz : w.heap.size ≤ (W2.alloc (.cells #[v1] 24)).heap.size := by have := hgW.size; have := hg2.size; simp; omega
        have q1 : k + 1 ≤ maxLen := by unfold maxLen; omega
        have q2 : (k + 1) * 24 ≤ 140737488355328 := by omega
        obtain ⟨A1, c1, rfl⟩ := own_slice o1
        have hone : ∀ u ∈ [Value.slice A1 L.length c1], u.oneCell' = true := fun u hu => by rw [List.mem_singleton.1 hu]; rfl
        clear hc
        go_wp2_with (at_builtin
                     refine wpList_append_own _ rfl _ _ 23 rfl w.heap.size 24 i1 (.slice none 0 0) 1 24 Tryz.underlying23 hj hj0 hj1 hj2 rfl (by decide) _ k vs rfl hr1 ⟨W2.heap.size, 0, none⟩ 1 1 [.slice A1 L.length c1] rfl rfl (cell_one_new _ _ _) hone q1 q2 hsz ?_
                     intro v2 W3 hown2 hgrow2 hnil2)
        obtain ⟨hovF, hgF, hRdF⟩ := giv_app hRl hov1 hgW hg2 o1 (by rw [HLl.out]; exact hown2) hgrow2 hRd2
        have hv2 : v2 ≠ .slice none 0 0 := fun e => by have := (hnil2.1 e).2; omega
        clear hown2 hgrow2 hnil2 hov2 hr1
        go_wp2
        go_ret
        exact ⟨_, Ls ++ [L], _, rfl, hv2, hovF.oss, by rw [List.length_append, HLl.out]; simp, by rw [List.length_append, HLl.out]; simp; omega, (fun M hM => by
          rcases List.mem_append.1 hM with h | h
          · exact hls M h
          · rw [List.mem_singleton.1 h]; exact hL7), hgF, hRdF, by omega⟩
      · have hd0 : decide ((z : Int) = 0) = false := decide_eq_false (by omega)
        clear hov hg hRd hg1
        go_wp2
        go_ret
        exact ⟨_, Ls, _, rfl, hv, hov1.oss, by rw [HLl.out]; omega, by rw [HLl.out]; omega, hls, hgW, hRd1, by omega⟩
end

end Go.Proofs.YtmknjifmmmnjjaaGreatDoor
