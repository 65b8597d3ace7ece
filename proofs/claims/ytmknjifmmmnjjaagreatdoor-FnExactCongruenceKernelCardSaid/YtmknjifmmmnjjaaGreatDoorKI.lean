/-
  Kh.
-/
import Derived.Test.YtmknjifmmmnjjaaGreatDoorKH
namespace Go.Proofs.YtmknjifmmmnjjaaGreatDoor
set_option maxRecDepth 100000
set_option linter.unusedVariables false
set_option linter.unusedSimpArgs false
set_option linter.unusedSectionVars false

/-! (impl.congruence[int]).class, numbers. -/
section
open Go.RowKit Go.Maps

set_option maxHeartbeats 1000000 in
theorem classI_any (b m n c : Nat) (Q : Option Nat) (C : Option Addr) (zs : List (List Int)) (cl L : List Int) (w : World) (hn : zs.length = n) (hz : ∀ L ∈ zs, isC L = true ∧ L.length = m) (hs : Srt zs) (hL : L ∈ zs)
    (hown : w.ownsMap Tryz.prog 61 (plainElem (H := Unit) Tryz.prog 3) b n (mapP klL zs n)) (hC : RI w C n cl) :
    Calls Tryz.prog 85 #[.agg #[.map (some b), .slice C n c, .map Q], .agg #[.int .i64 ((m : Int)), .int .i64 (ofL L 0), .int .i64 (ofL L 1), .int .i64 (ofL L 2), .int .i64 (ofL L 3), .int .i64 (ofL L 4), .int .i64 (ofL L 5)]] w fun e w' => e = .returned (.int .i64 (kC zs cl L)) ∧ Below w.heap.size w w' := by
  obtain ⟨hi, _, _⟩ := ixP_mem hs hL
  rw [hn] at hi
  have hat := mapP_ix (H := Unit) hz hs hn hL (.lit (.int .i64 0))
  obtain ⟨kv, hkv⟩ : ∃ kv, kC zs cl L = kv := ⟨_, rfl⟩
  have HKV := Lib.hid hkv
  obtain ⟨ac, rfl, hab, hc⟩ := hC.at_ hi
  rw [show cl[ixP zs L]?.getD 0 = kC zs cl L from rfl, hkv] at hc
  clear hkv
  have hkey : keyOf Tryz.prog 61 (.agg #[.int .i64 ((m : Int)), .int .i64 (ofL L 0), .int .i64 (ofL L 1), .int .i64 (ofL L 2), .int .i64 (ofL L 3), .int .i64 (ofL L 4), .int .i64 (ofL L 5)]) = some (klL L) := by have := keyOf_L (hz L hL).1; rw [(hz L hL).2] at this; exact this
  have hB : Below w.heap.size w ((w.alloc (.cells #[.map (some b), .slice (some ac) n c, .map Q] 91)).alloc (.cells #[.int .i64 ((m : Int)), .int .i64 (ofL L 0), .int .i64 (ofL L 1), .int .i64 (ofL L 2), .int .i64 (ofL L 3), .int .i64 (ofL L 4), .int .i64 (ofL L 5)] 61)) := ((Below.refl _ w).alloc (Nat.le_refl _) _).alloc (by simp) _
  have hown1 := (hown.alloc (.cells #[.map (some b), .slice (some ac) n c, .map Q] 91)).alloc (.cells #[.int .i64 ((m : Int)), .int .i64 (ofL L 0), .int .i64 (ofL L 1), .int .i64 (ofL L 2), .int .i64 (ofL L 3), .int .i64 (ofL L 4), .int .i64 (ofL L 5)] 61)
  have hb0 := ((Blk.new w 91 #[.map (some b), .slice (some ac) n c, .map Q]).alloc (.cells #[.int .i64 ((m : Int)), .int .i64 (ofL L 0), .int .i64 (ofL L 1), .int .i64 (ofL L 2), .int .i64 (ofL L 3), .int .i64 (ofL L 4), .int .i64 (ofL L 5)] 61))
  have hch := Cb.new (w.alloc (.cells #[.map (some b), .slice (some ac) n c, .map Q] 91)) (m : Int) (ofL L)
  have hcc := (hB.cell (p := ac.add (ixP zs L)) (by rw [block_of_add]; exact hab)).trans hc
  clear hC hc hab hown hz hs hL hn
  go_enter Tryz.func85, Tryz.ntmps85
  go_wp2
  rw [World.size_alloc] at hch
  generalize (w.alloc (.cells #[.map (some b), .slice (some ac) n c, .map Q] 91)).alloc (.cells #[.int .i64 ((m : Int)), .int .i64 (ofL L 0), .int .i64 (ofL L 1), .int .i64 (ofL L 2), .int .i64 (ofL L 3), .int .i64 (ofL L 4), .int .i64 (ofL L 5)] 61) = W0 at *
  have c0 : ∀ j, (W0.drewN j).cell? ⟨w.heap.size, 0, none⟩ = some (.map (some b)) := fun j => hb0.cell 0
  have c1 : ∀ j, (W0.drewN j).cell? ⟨w.heap.size, 1, none⟩ = some (.slice (some ac) n c) := fun j => hb0.cell 1
  have hrun : ∀ j, (Instr.lookup 75 (.map (some b)) (.agg #[.int .i64 ((m : Int)), .int .i64 (ofL L 0), .int .i64 (ofL L 1), .int .i64 (ofL L 2), .int .i64 (ofL L 3), .int .i64 (ofL L 4), .int .i64 (ofL L 5)]) false).run Tryz.prog (W0.drewN j) = .ok (.int .i64 (ixP zs L : Nat)) (W0.drewN j) := fun j => by
    have hz0 : (zeroValue 3).run Tryz.prog (W0.drewN j) = .ok (.int .i64 0) (W0.drewN j) := by kernel_rfl
    obtain ⟨z, hr, ha, _⟩ := World.ownsMap.lookup_int (w := W0.drewN j) hown1 ch_keyed Tryz.underlying75 Tryz.underlying3 hz0 hkey
    rw [hat] at ha
    injection ha with ha
    injection ha with _ ha
    rw [ha]; exact hr
  obtain ⟨a0, a1, a2, a3, a4, a5, a6⟩ := hch.all
  have hii : ((ixP zs L : Nat) : Int) < (n : Int) := by omega
  generalize ixP zs L = p at *
  go_quiet (fail)
  all_goals go_wp2
  go_ret
  exact ⟨by rw [HKV.out]; try rfl, below_drewN hB _⟩
def kfI (x : Int) : Lit := .int .i64 x
theorem kfI_key (x : Int) : WideAt.IsKeyLit (kfI x) := by unfold kfI; trivial
theorem kfI_inj {x y : Int} (h : kfI x = kfI y) : x = y := by unfold kfI at h; injection h
/-- the numbers when k of the classes are marked -/
structure NuS (w wr : World) (b : Option Nat) (q n c k : Nat) (C : Option Addr) (cl : List Int) (v : Value) : Prop where
  row : wr.ownsRow w.heap.size 3 1 v k (ivs (nuL (ofL cl) k))
  mkd : wr.ownsMap Tryz.prog 3 (plainElem (H := Unit) Tryz.prog 3) q k (mrD (ofL cl) kfI (fun i => (frC (ofL cl) i : Int)) k)
  gr : w.grownBy wr (some q)
  bx : Blk wr w.heap.size 91 #[.map b, .slice C n c, .map (some q)]
  ql : q < w.heap.size
section
variable {w wr w' : World} {b : Option Nat} {q n c k : Nat} {C : Option Addr} {cl : List Int} {v : Value}
theorem NuS.ne (h : NuS w wr b q n c k C cl v) : v.ownBlock ≠ some q := fun e => by have := (h.row.lt q e).1; have := h.ql; omega
theorem NuS.nb (h : NuS w wr b q n c k C cl v) : v.ownBlock ≠ some w.heap.size := own_blk_ne h.row h.bx (by decide)
end
set_option maxHeartbeats 2000000 in
theorem numbersI_any (b : Option Nat) (q nn n c : Nat) (C : Option Addr) (cl : List Int) (D : DataW Unit) (w : World) (hn4 : n ≤ 1048576) (hw : ∀ x ∈ cl, wfI x) (hC : RI w C n cl) (hown : w.ownsMap Tryz.prog 3 (plainElem (H := Unit) Tryz.prog 3) q nn D) :
    Calls Tryz.prog 71 #[.agg #[.map b, .slice C n c, .map (some q)]] w fun e w' => ∃ v, e = .returned v ∧ w'.ownsRow w.heap.size 3 1 v n (ivs (nuL (ofL cl) n)) ∧ (∃ nn D, w'.ownsMap Tryz.prog 3 (plainElem (H := Unit) Tryz.prog 3) q nn D) ∧ w.grownBy w' (some q) := by
  obtain ⟨i0, hi, hz0, hz1, hz2⟩ := info_parts info_int
  have hl := hC.len
  have HB0 := Lib.hid (Blk.new w 91 #[.map b, .slice C n c, .map (some q)])
  have hg0 := gb_al0 w (.cells #[.map b, .slice C n c, .map (some q)] 91) (some q)
  have hown1 := hown.alloc (.cells #[.map b, .slice C n c, .map (some q)] 91)
  have hql : q < w.heap.size := hown.lt
  have HRM := Lib.hid (row_map hown)
  have HC := Lib.hid (fun (W : World) (hg : w.grownBy W (some q)) => ri_kept hC hg (row_map hown))
  have HWF := Lib.hid hw
  have HL := Lib.hid hl
  have b1 := HB0.out.cell 1
  have b2 := HB0.out.cell 2
  clear hown hC hw hl
  go_enter Tryz.func71, Tryz.ntmps71
  obtain ⟨w1, hrun, hm1, hg1⟩ := clear_run (t := 89) _ Tryz.underlying89 hown1 0
  have hbx := blk_kept HB0.out hg1 (row_map hown1)
  have HN0 : Hid (NuS w w1 b q n c 0 C cl (.slice none 0 0)) := ⟨World.ownsRow_nil _ _ _ _, hm1, gbTr hg0 hg1, hbx, hql⟩
  have d1 := hbx.cell 1
  clear hown1 hm1 hg1 hg0 HRM hbx
  go_wp2
  go_loopw [3, 11] (fun v s wr => ∃ k : Nat, k ≤ n ∧ s = .int .i64 (k : Int) ∧ Hid (NuS w wr b q n c k C cl v)) (fun _ s _ => n - (intOf s).toNat)
  case atStart => exact ⟨0, Nat.zero_le _, rfl, HN0.out⟩
  case round =>
    clear HN0 d1 b1 b2 hrun
    obtain ⟨k, hkn, rfl, HN⟩ := hrel
    by_cases hlt : k < n
    · have hkk : (k : Int) < (n : Int) := by omega
      obtain ⟨ac, rfl, _, a1⟩ := (HC.out wr HN.out.gr).at_ hlt
      rw [show cl[k]?.getD 0 = ofL cl k from rfl] at a1
      have hwx : wfI (ofL cl k) := by
        unfold ofL; rw [List.getElem?_eq_getElem (by rw [HL.out]; exact hlt)]
        exact HWF.out _ (List.getElem_mem _)
      have hfk := frC_le (ofL cl) k
      have hwv : wfI (frC (ofL cl) k : Int) := WalkArith.wf_i64 (by omega)
      have hmk := HN.out.mkd
      have hlen := hmk.len Tryz.underlying89
      rw [mrD_size (kf := kfI) (n := n) kfI_key (fun i j _ _ h => kfI_inj h) k hkn] at hlen
      have HMK := Lib.hid (markI_any b q k n c (some ac) (ofL cl k) (frC (ofL cl) k : Int) _ wr hmk hwx hwv (by unfold maxLen; omega))
      have HVAL := Lib.hid (fun (z : Int) hz => mrD_val (H := Unit) (c := ofL cl) (kf := kfI) (v := fun i => (frC (ofL cl) i : Int)) (n := n) kfI_key (fun i j _ _ h => kfI_inj h) hlt (z := z) hz)
      have HRM := Lib.hid (row_map hmk)
      have d0 := HN.out.bx.cell 0
      have d1 := HN.out.bx.cell 1
      have d2 := HN.out.bx.cell 2
      have HMS : Hid (mrk (mrD (H := Unit) (ofL cl) kfI (fun i => (frC (ofL cl) i : Int)) k) (.int .i64 (ofL cl k)) (frC (ofL cl) k : Int) = mrD (ofL cl) kfI (fun i => (frC (ofL cl) i : Int)) (k + 1)) := rfl
      have HST : Hid (∀ z : Int, z = (nuE (ofL cl) k : Int) → ivs (nuL (ofL cl) k) ++ [.int .i64 z] = ivs (nuL (ofL cl) (k + 1))) := fun z hz => by
        subst hz; rw [nuL_snoc]; simp [ivs]
      have HVE : Hid (∀ z : Int, z = (frC (ofL cl) (fsE (ofL cl) k) : Int) → z = (nuE (ofL cl) k : Int)) := fun z hz => hz
      clear hmk
      generalize mrD (H := Unit) (ofL cl) kfI (fun i => (frC (ofL cl) i : Int)) k = D0 at *
      generalize hxx : ofL cl k = x at *
      clear hxx
      generalize frC (ofL cl) k = f at *
      go_wp2_with fail
      refine HMK.out.mono ?_
      rintro e w2 ⟨z, rfl, hzv, hm2, hg2⟩
      have HSTZ := Lib.hid (HST.out z (HVE.out z (HVAL.out z hzv)))
      rw [HMS.out] at hm2
      have hrow2 := HN.out.row.kept hg2 (.inr HN.out.ne)
      have hbx2 := blk_kept HN.out.bx hg2 HRM.out
      have hgr2 := gbTr HN.out.gr hg2
      have hne := HN.out.ne
      have hnb := HN.out.nb
      have h1 : k + 1 ≤ maxLen := by unfold maxLen; omega
      have h2 : (k + 1) * 8 ≤ 140737488355328 := by omega
      have h3 : ∀ o : Obj, w.heap.size ≤ (w2.alloc o).heap.size := fun o => by have := hgr2.size; simp; omega
      clear HMK HVAL HVE HMS hzv hg2 hlen d0 d1 d2 a1 HN
      go_wp2_with (at_builtin; refine wpList_append_own _ rfl _ _ 24 rfl w.heap.size 3 i0 (.int .i64 0) 1 8 Tryz.underlying24 hi hz0 hz1 hz2 rfl (by decide) _ _ _ rfl (hrow2.alloc _) ⟨w2.heap.size, 0, none⟩ 1 1 [.int .i64 z] rfl rfl (cell_one_new _ _ _) (by simp [Value.oneCell']) h1 h2 (h3 _) ?_; intro v' w5 hown' hgrow _)
      rw [HSTZ.out] at hown'
      have HN2 : Hid (NuS w w5 b q n c (k + 1) (some ac) cl v') := ⟨hown', (hm2.alloc _).kept hgrow (Ne.symm hne), (gbTr hgr2 (gb_al0 w2 _ _)).andThen hgrow (fun j e => .inl (hrow2.lt j e).1), (hbx2.alloc _).grown hgrow (Ne.symm hnb), hql⟩
      clear hown' hgrow hm2 hrow2 hbx2 hgr2
      go_roundw
      case rel => exact ⟨k + 1, by omega, by go_num, HN2.out⟩
      case measure => simp [intOf]; omega
    · obtain rfl : k = n := by omega
      have hkk : ¬ (k : Int) < (k : Int) := by omega
      go_wp2
      go_ret
      exact ⟨_, rfl, HN.out.row, ⟨_, _, HN.out.mkd⟩, HN.out.gr⟩
end

end Go.Proofs.YtmknjifmmmnjjaaGreatDoor
