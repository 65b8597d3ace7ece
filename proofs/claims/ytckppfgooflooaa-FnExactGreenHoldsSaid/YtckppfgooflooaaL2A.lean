/-
  spec: a way, all ways.
-/
import Derived.Test.YtckppfgooflooaaWayG
import Derived.Test.YtckppfgooflooaaSSW
import Derived.Test.YtckppfgooflooaaSpecC
import Derived.Deep.QuietTactic
import Derived.BigQuiet
namespace Go.Proofs.Ytckppfgooflooaa
set_option maxRecDepth 100000
open Go.RowKit

/-- the length of a slice value -/
def lenOf : Value → Nat | .slice _ n _ => n | _ => 0

/-- a way under way -/
def WInv (F : Nat → Int) (n s k : Nat) : Prop := k < n ∧ 0 ≤ itF F s k ∧ (∀ i, 1 ≤ i → i ≤ k → itF F s i ≠ (s : Int)) ∧ wEnd F s n 0 = wEnd F s (n - k) k
theorem WInv.zero {F : Nat → Int} {n s : Nat} (hs : s < n) : WInv F n s 0 := ⟨by omega, it0 F s, fun i h1 h2 => by omega, rfl⟩
theorem WInv.step {F : Nat → Int} {n s k : Nat} (hF : CH n F) (hs : s < n) (h : WInv F n s k) (h0 : 0 ≤ itF F s (k + 1)) (hne : itF F s (k + 1) ≠ (s : Int)) : WInv F n s (k + 1) := by
  have hne' : ∀ i, 1 ≤ i → i ≤ k + 1 → itF F s i ≠ (s : Int) := fun i h1 h2 => by
    by_cases e : i = k + 1
    · rw [e]; exact hne
    · exact h.2.2.1 i h1 (by omega)
  have := itF_short hF hs h0 hne'
  exact ⟨by omega, h0, hne', by rw [h.2.2.2, wEnd_go h.1 ⟨h0, hne⟩]⟩
theorem WInv.stop {F : Nat → Int} {n s k : Nat} (h : WInv F n s k) (hs : ¬ (0 ≤ itF F s (k + 1) ∧ itF F s (k + 1) ≠ (s : Int))) : wayL F n s = LT (k + 1) (itF F s) := by
  unfold wayL; rw [h.2.2.2, wEnd_stop hs]

set_option maxHeartbeats 1000000 in
theorem l2Way_any (A : Option Addr) (n c s : Nat) (zs : List Int) (w : World) (h : RI w A n zs) (hF : CH n (ofL zs)) (hs : s < n) :
    Calls Try.prog 82 #[.slice A n c, .int .i64 (s : Int)] w fun e w' => ∃ v, e = .returned v ∧ NewL w (wayL (ofL zs) n s) v w' := by
  obtain ⟨i0, hi, hz0, hz1, hz2⟩ := info_parts info_int
  have hn6 := hF.six
  obtain ⟨ad, rfl, hab, hc⟩ := h.at_ hs
  have HF := Lib.hid hF
  have h1 : zs[s]?.getD 0 = itF (ofL zs) s 1 := by
    rw [itF_succ, if_pos (it0 _ s)]
    show _ = ofL zs ((s : Int)).toNat
    rw [Int.toNat_natCast]; rfl
  rw [h1] at hc
  have hLIT : (w.alloc (.cells #[.int .i64 (s : Int)] 3)).ownsRow w.heap.size 3 1 (.slice (some ⟨w.heap.size, 0, none⟩) 1 1) 1 (ivs (LT 1 (itF (ofL zs) s))) :=
    World.ownsRow_lit (base := w.heap.size) (e := 3) (size := 1) w #[.int .i64 (s : Int)] 1 (Nat.le_refl _) (by simp [maxLen]) rfl
  have HLIT := Lib.hid hLIT
  have HW0 := Lib.hid (WInv.zero (F := ofL zs) hs)
  have hc0 := (World.cell?_alloc_lt w (.cells #[.int .i64 (s : Int)] 3) (ad.add s) (by rw [block_of_add]; exact hab)).trans hc
  clear hF h1 hLIT
  go_enter Try.func82, Try.ntmps82
  go_wp2
  go_loopw [5, 6] (fun v at_ wr => ∃ k : Nat, at_ = .int .i64 (itF (ofL zs) s (k + 1)) ∧ lenOf v = k + 1 ∧ wr.ownsRow w.heap.size 3 1 v (k + 1) (ivs (LT (k + 1) (itF (ofL zs) s))) ∧ Below w.heap.size w wr ∧ Hid (WInv (ofL zs) n s k)) (fun v _ _ => n - lenOf v)
  case atStart => exact ⟨0, rfl, rfl, HLIT.out, (Below.refl _ _).alloc (Nat.le_refl _) _, HW0⟩
  case round =>
    clear HLIT HW0 hc hc0
    obtain ⟨k, rfl, hlv, hown, hB, HW⟩ := hrel
    have hkn := HW.out.1
    have hen := itF_en HF.out.en hs (k + 1)
    have HS := Lib.hid (fun h0 hne => WInv.step HF.out hs HW.out h0 hne)
    have HE := Lib.hid (fun hh => WInv.stop HW.out hh)
    have HN : Hid (∀ u : Nat, itF (ofL zs) s (k + 1) = (u : Int) → zs[u]?.getD 0 = itF (ofL zs) s (k + 2)) := fun u hu => by
      rw [itF_succ (ofL zs) s (k + 1), if_pos (by omega), hu, Int.toNat_natCast]; rfl
    have HA := Lib.hid (show LT (k + 1) (itF (ofL zs) s) ++ [itF (ofL zs) s (k + 1)] = LT (k + 2) (itF (ofL zs) s) from (LT_succ (k + 1) _).symm)
    generalize hz : itF (ofL zs) s (k + 1) = z at hen HS HE HN HA
    clear HW
    by_cases hneg : z < 0
    · have HX := Lib.hid (HE.out (fun hh => by omega))
      clear HE HS HN HA hz
      go_wp2
      go_ret
      exact ⟨_, rfl, by rw [HX.out, LT_length]; exact hown, hB⟩
    · by_cases heq : z = (s : Int)
      · have HX := Lib.hid (HE.out (fun hh => hh.2 heq))
        clear HE HS HN HA hz
        go_wp2
        go_ret
        exact ⟨_, rfl, by rw [HX.out, LT_length]; exact hown, hB⟩
      · have HX := Lib.hid (HS.out (by omega) heq)
        obtain ⟨u, rfl⟩ := Int.eq_ofNat_of_zero_le (show 0 ≤ z by omega)
        have hu : u < n := by omega
        obtain ⟨ad', e1, hab', hc'⟩ := h.at_ hu
        injection e1 with e1
        subst e1
        rw [HN.out u rfl] at hc'
        have hkn1 := HX.out.1
        have h2 : k + 1 + 1 ≤ maxLen := by unfold maxLen; omega
        have h3 : (k + 1 + 1) * 8 ≤ 140737488355328 := by omega
        have h4 : ∀ o : Obj, w.heap.size ≤ (wr.alloc o).heap.size := fun o => by have := hB.size; simp; omega
        have hne : ((u : Int) != (s : Int)) = true := by rw [bne_iff_ne]; exact heq
        clear HE HS HN hz
        go_wp2_with (at_builtin; refine wpList_append_own _ rfl _ _ 27 rfl w.heap.size 3 i0 (.int .i64 0) 1 8 Try.underlying27 hi hz0 hz1 hz2 rfl (by decide) _ _ _ rfl (hown.alloc _) ⟨wr.heap.size, 0, none⟩ 1 1 [.int .i64 (u : Int)] rfl rfl (cell_one_new _ _ _) (by simp [Value.oneCell']) h2 h3 (h4 _) ?_; intro v' w1 hown' hgrow _; have hR := app_step hB hown hown' hgrow HA.out; have g' := (hR.2.cell (p := ad.add u) (by rw [block_of_add]; exact hab')).trans hc'; clear hown' hgrow; obtain ⟨Av, cv, rfl⟩ := own_slice hR.1)
        exact ⟨⟨k + 1, rfl, rfl, hR.1, hR.2, HX⟩, by simp [lenOf] at hlv ⊢; omega⟩
end Go.Proofs.Ytckppfgooflooaa
