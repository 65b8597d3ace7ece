/-
  ClI.
-/
import Derived.Test.YtigapanfihpgaaaGreatDoorNW
import Derived.Test.YtigapanfihpgaaaGreatDoorOC
namespace Go.Proofs.YtigapanfihpgaaaGreatDoor
set_option maxRecDepth 100000
set_option linter.unusedVariables false
set_option linter.unusedSimpArgs false
set_option linter.unusedSectionVars false

/-! impl.classes, (impl.chart).ends, impl.SemigroupClasses. -/
section
open Go.RowKit Go.Maps

theorem domain_c (m : Nat) (L : List Int) (hL : isC L = true) (hm : L.length = m) (w : World) :
    Calls Tryz.prog 69 #[.agg #[.int .i64 ((m : Int)), .int .i64 (ofL L 0), .int .i64 (ofL L 1), .int .i64 (ofL L 2), .int .i64 (ofL L 3), .int .i64 (ofL L 4), .int .i64 (ofL L 5)]] w fun e w' => e = .returned (.int .i64 (dmN L : Nat)) ∧ Below w.heap.size w w' := by
  subst hm
  exact domain_any L.length (isC_len hL).2 (ofL L) (isC_Ok hL) w
set_option maxHeartbeats 400000 in
theorem image_c (m : Nat) (L : List Int) (hL : isC L = true) (hm : L.length = m) (w : World) :
    Calls Tryz.prog 70 #[.agg #[.int .i64 ((m : Int)), .int .i64 (ofL L 0), .int .i64 (ofL L 1), .int .i64 (ofL L 2), .int .i64 (ofL L 3), .int .i64 (ofL L 4), .int .i64 (ofL L 5)]] w fun e w' => e = .returned (.int .i64 (dmN (tuL L) : Nat)) ∧ Below w.heap.size w w' := by
  have HT1 := Lib.hid (tuL_isC hL)
  have HT2 : Hid ((tuL L).length = m) := (tuL_len hL).trans hm
  go_enter Tryz.func70, Tryz.ntmps70
  go_wp2_with fail
  refine (turned_c m L hL hm _).mono ?_
  rintro e w1 ⟨rfl, hb⟩
  go_wp2_with fail
  refine (domain_c m (tuL L) HT1.out HT2.out _).mono ?_
  rintro e w2 ⟨rfl, hb2⟩
  have hB2 : Below w.heap.size w w2 := (((Below.refl _ _).alloc (Nat.le_refl _) _).trans (hb.mono (by simp))).trans (hb2.mono (by have := hb.size; simp at this; omega))
  clear hb hb2
  go_wp2
  go_ret
  exact ⟨rfl, hB2⟩
set_option maxHeartbeats 2000000 in
theorem classesI_any {H : Type} (b m n gf : Nat) (ca cb : Array Value) (mkv : List Int → Value) (kf : List Int → Lit) (zs : List (List Int)) (hn : zs.length = n) (hn6 : n ≤ 1048576) (hz : ∀ L ∈ zs, isC L = true ∧ L.length = m) (hs : Srt zs) (w : World)
    (eg : ∀ args w, (callFunc gf args).run Tryz.prog w = .ok (.enter gf args) w)
    (hp : ∀ L ∈ zs, ∀ W, Calls Tryz.prog gf (ca ++ #[.agg #[.int .i64 ((m : Int)), .int .i64 (ofL L 0), .int .i64 (ofL L 1), .int .i64 (ofL L 2), .int .i64 (ofL L 3), .int .i64 (ofL L 4), .int .i64 (ofL L 5)]] ++ cb) W fun e W' => e = .returned (mkv L) ∧ Below W.heap.size W W')
    (hkf : ∀ L ∈ zs, keyOf Tryz.prog 3 (mkv L) = some (kf L))
    (hown : w.ownsMap Tryz.prog 53 (plainElem (H := H) Tryz.prog 3) b n (mapP klL zs n)) :
    Calls Tryz.prog 68 #[.map (some b), .func (.func gf) ca cb] w fun e w' => ∃ acc : List Lit, e = .returned (.int .i64 ((acc.foldl addKey []).length : Nat)) ∧ (∀ x ∈ acc, ∃ L, L ∈ zs ∧ kf L = x) ∧ (∀ L ∈ zs, kf L ∈ acc) ∧ Below w.heap.size w w' := by
  have HN := Lib.hid hn
  have HZ := Lib.hid hz
  have HP := Lib.hid hp
  have HK := Lib.hid hkf
  have hbl := hown.lt
  have HD : Hid (∀ x, Maps.has (mapP (H := H) klL zs n) x = true ↔ ∃ L, L ∈ zs ∧ klL L = x) := fun x => by subst hn; exact mapP_iff x
  have HSZ : Hid (Maps.size (mapP (H := H) klL zs n) = n) := by subst hn; exact mapP_size hz hs zs.length (Nat.le_refl _)
  clear hz hs hn hp hkf
  have hmm := @ run_makeMap Tryz.prog
  have hm0 := World.ownsMap_made w Tryz.prog 3 (plainElem (H := H) Tryz.prog 4)
  have hB0 : Below w.heap.size w (w.alloc (.map #[] 0)) := (Below.refl _ w).alloc (Nat.le_refl _) _
  have hown0 := hown.alloc (.map #[] 0)
  go_enter Tryz.func68, Tryz.ntmps68
  go_wp2_with (first | (at_range; refine wpList_range_own _ rfl _ 42 rfl 53 3 ch_keyed Tryz.underlying42 _ b n (mapP klL zs n) rfl hown0 ?_; intro w1 hrg0 hg0 hs0) | go_in)
  try go_frame
  have hB1 := hB0.grown hg0 hB0.size (fun k e => by cases e)
  have hm1 := hm0.kept hg0 (by simp)
  rw [HSZ.out] at hrg0
  have HRE : Hid ((w.alloc (.map #[] 0)).heap.size = w.heap.size + 1) := by show _ = _; simp
  clear hg0 hs0 hown hown0 hm0 hB0 hmm
  generalize (w.alloc (.map #[] 0)).heap.size = R at *
  go_loopw [6] (fun _ wr => ∃ left cnt acc, wr.ranges Tryz.prog 53 (plainElem Tryz.prog 3) b R n (mapP klL zs n) left cnt ∧ wr.ownsMap Tryz.prog 3 (plainElem (H := H) Tryz.prog 4) w.heap.size acc.length (setOf (.lit (.bool true)) acc) ∧ acc.length + cnt ≤ n ∧ Hid (∀ x, left x = true → Maps.has (mapP (H := H) klL zs n) x = true) ∧ Hid (∀ x ∈ acc, ∃ L, L ∈ zs ∧ kf L = x) ∧ Hid (∀ L ∈ zs, left (klL L) = false → kf L ∈ acc) ∧ Below w.heap.size w wr) (fun _ wr => wr.rangeLeft b R)
  case atStart => exact ⟨_, _, [], hrg0, hm1, by simp, Lib.hid (fun x h => h), Lib.hid (fun x h => by cases h), Lib.hid (fun L hL h => by rw [(HD.out _).2 ⟨L, hL, rfl⟩] at h; cases h), hB1⟩
  case round =>
    clear hrg0 hm1 hB1
    obtain ⟨left, cnt, acc, hrg, hmp, hcn, P1, Q1, Q2, hB⟩ := hrel
    have hrl := hrg.lt
    have hsB := hB.size
    go_wp2_with (first | (at_next; refine wpList_next_ranges _ rfl _ rfl 53 ch_keyed (plainElem Tryz.prog 3) mkCh (Value.int .i64) mkCh_inv plain_inv b R n _ _ _ rfl hrg ?_ ?_) | go_in)
    · intro hc0 hl0
      have HKL : Hid (∀ x ∈ acc, WideAt.IsKeyLit x) := fun x hx => by
        obtain ⟨L, hL, rfl⟩ := Q1.out x hx
        exact (int_keyed (P := Tryz.prog) Tryz.underlying3).key (HK.out L hL)
      have HS : Hid (Maps.size (setOf (H := H) (.lit (.bool true)) acc) = (acc.foldl addKey []).length) := size_setOf _ _ HKL.out
      have hlen := hmp.len Tryz.underlying98
      rw [HS.out] at hlen
      go_wp2
      go_ret
      exact ⟨acc, rfl, Q1.out, fun L hL => Q2.out L hL (hl0 _), hB⟩
    · intro xn xT cc kl yd yp w2 cnt2 hkey hlk hv hat hrg2 hlt hg2 hs2 hen
      obtain ⟨L, hL, hkl, hx⟩ := ch_of_key HZ.out hkey ((HD.out kl).1 (P1.out kl hlk))
      rw [hx] at hen
      rw [hx]
      have hLz := HZ.out L hL
      have hB2 := hB.grown hg2 hB.size (fun j e => by cases e; have := HRE.out; omega)
      have hm2 := hmp.kept hg2 (by have := HRE.out; simp; omega)
      have hs2' := hB2.size
      have P1' : Hid (∀ x, (left x && !x.sameKey kl) = true → Maps.has (mapP (H := H) klL zs n) x = true) := fun x h => P1.out x (by rw [Bool.and_eq_true] at h; exact h.1)
      have Q1' : Hid (∀ x ∈ acc ++ [kf L], ∃ M, M ∈ zs ∧ kf M = x) := fun x hx => by
        rcases List.mem_append.1 hx with h | h
        · exact Q1.out x h
        · rw [List.mem_singleton.1 h]; exact ⟨L, hL, rfl⟩
      have Q2' : Hid (∀ M ∈ zs, (left (klL M) && !(klL M).sameKey kl) = false → kf M ∈ acc ++ [kf L]) := fun M hM h => by
        cases hl : left (klL M)
        · exact List.mem_append_left _ (Q2.out M hM hl)
        · rw [hl, Bool.true_and] at h
          have : (klL M).sameKey kl = true := by cases hsk : (klL M).sameKey kl <;> simp_all
          have e := (same_key this).trans hkl.symm
          rw [klL_inj M L (HZ.out M hM).1 hLz.1 e]; exact List.mem_append_right _ (List.mem_singleton.2 rfl)
      have hrg3 := hrg2.alloc (.cells #[.int .i64 ((m : Int)), .int .i64 (ofL L 0), .int .i64 (ofL L 1), .int .i64 (ofL L 2), .int .i64 (ofL L 3), .int .i64 (ofL L 4), .int .i64 (ofL L 5)] 53)
      have hm3 := hm2.alloc (.cells #[.int .i64 ((m : Int)), .int .i64 (ofL L 0), .int .i64 (ofL L 1), .int .i64 (ofL L 2), .int .i64 (ofL L 3), .int .i64 (ofL L 4), .int .i64 (ofL L 5)] 53)
      have hB3 := hB2.alloc hs2' (.cells #[.int .i64 ((m : Int)), .int .i64 (ofL L 0), .int .i64 (ofL L 1), .int .i64 (ofL L 2), .int .i64 (ofL L 3), .int .i64 (ofL L 4), .int .i64 (ofL L 5)] 53)
      have hcall := HP.out L hL (w2.alloc (.cells #[.int .i64 ((m : Int)), .int .i64 (ofL L 0), .int .i64 (ofL L 1), .int .i64 (ofL L 2), .int .i64 (ofL L 3), .int .i64 (ofL L 4), .int .i64 (ofL L 5)] 53))
      have hkL := HK.out L hL
      have hal : acc.length < n := by omega
      obtain ⟨a0, a1, a2, a3, a4, a5, a6⟩ := (Cb.new w2 (m : Int) (ofL L)).all
      clear hs2 hkey hx hv hat hlk hkl P1 Q1 Q2 hrg2 hm2 hB2
      go_wp2_with fail
      refine hcall.mono ?_
      rintro e w4 ⟨rfl, hb4⟩
      have hgr4 : (w2.alloc (.cells #[.int .i64 ((m : Int)), .int .i64 (ofL L 0), .int .i64 (ofL L 1), .int .i64 (ofL L 2), .int .i64 (ofL L 3), .int .i64 (ofL L 4), .int .i64 (ofL L 5)] 53)).grownBy w4 none := gb_of hb4 none
      have hrg4 := hrg3.kept hgr4 (by simp) (by simp)
      have hm4 := hm3.kept hgr4 (by simp)
      have hB4 := hB3.trans (hb4.mono hB3.size)
      have hs4 := hB4.size
      clear hcall hb4 hgr4 hrg3 hm3 hB3 a0 a1 a2 a3 a4 a5 a6
      go_wp2_with (at_mapUpdate; refine wpList_mapUpdate_own _ rfl _ _ _ 98 rfl 3 4 (int_keyed Tryz.underlying3) Tryz.underlying98 _ w.heap.size acc.length _ rfl hm4 (by unfold maxLen; omega) _ _ _ rfl rfl hkL _ [] (plainElem_bool Tryz.underlying4 true) ?_; intro w5 hm5 hgr5; go_frame)
      have hrg5 := hrg4.kept hgr5 (by have := HRE.out; simp; omega) (by have := HRE.out; simp; omega)
      have hB5 := hB4.grown hgr5 hs4 (fun j e => by cases e; exact Nat.le_refl _)
      rw [← setOf_snoc] at hm5
      go_roundw
      case rel => exact ⟨_, cnt2, acc ++ [kf L], hrg5, by rw [List.length_append]; exact hm5, by rw [List.length_append]; simp; omega, P1', Q1', Q2', hB5⟩
      case measure => rw [hrg5.left_eq, hrg.left_eq]; exact hlt
theorem p2_row : (68 : TypeId) < Tryz.prog.types.size := of_decide_eq_true (by kernel_rfl)
theorem p2_wide : (match Tryz.prog.underlying 68 with | some (.array _ _) | some (.struct _) => true | _ => false) = true := by rw [Tryz.underlying68]
theorem p2_law : Go.WideMaps.KeyLaw Tryz.prog 68 := deep_law_laid ch_laidOut (m := 3) (by omega) p2_row (by kernel_rfl) p2_wide
theorem p2_keyed : Keyed Tryz.prog 68 := Keyed.of_law p2_law
theorem p2_cells : Tryz.prog.cellsOf 68 = 2 := by kernel_rfl
theorem p2_keyType : Tryz.prog.keyType 68 = true := by kernel_rfl
def kl2 (a b : Int) : Lit := .string (keyBytes [.int .i64 a, .int .i64 b])
theorem kl2_key (a b : Int) : WideAt.IsKeyLit (kl2 a b) := by unfold kl2; trivial
theorem kl2_arr (d : Nat) (c0 c1 : Value) : Tryz.prog.keyLits (d + 1) 68 [c0, c1] = ([[c0], [c1]].mapM (fun c => Tryz.prog.keyLits d 3 c)).map List.flatten := by
  simp [Program.keyLits, Tryz.underlying68, p2_cells, ch_cellsI, List.range, List.range.loop]
theorem p2_formed (c0 c1 : Value) : (Value.agg #[c0, c1]).formed Tryz.prog 68 = true := by simp [Value.formed, Tryz.underlying68, p2_cells]
theorem keyOf_p2 (a b : Int) (ha : In64 a) (hb : In64 b) : keyOf Tryz.prog 68 (.agg #[.int .i64 a, .int .i64 b]) = some (kl2 a b) := by
  have h : Tryz.prog.keyLits (Tryz.prog.types.size + 1) 68 (Value.agg #[.int .i64 a, .int .i64 b]).cells.toList = some [.int .i64 a, .int .i64 b] := by
    rw [ch_size]
    show Tryz.prog.keyLits (201 + 1) 68 [_, _] = _
    rw [kl2_arr]
    simp [List.mapM_cons, kl_int _ ha, kl_int _ hb]
  simp only [keyOf, Tryz.underlying68, p2_keyType, p2_formed, Bool.and_self, if_true, h]
  rfl
theorem kl2_inj {a b c d : Int} (ha : In64 a) (hb : In64 b) (hc : In64 c) (hd : In64 d) (h : kl2 a b = kl2 c d) : a = c ∧ b = d := by
  have h1 := keyOf_p2 a b ha hb
  have h2 := keyOf_p2 c d hc hd
  rw [← h] at h2
  have := p2_keyed.inj h1 h2
  simpa using this
def Db (w : World) (b : Nat) : Prop := w.rowIs b 68 2 (fun _ => .int .i64 0)
theorem Db.all {w : World} {b : Nat} (h : Db w b) : w.cell? ⟨b, 0, none⟩ = some (.int .i64 0) ∧ w.cell? ⟨b, 1, none⟩ = some (.int .i64 0) ∧ w.frozen? ⟨b, 0, none⟩ = false ∧ w.frozen? ⟨b, 1, none⟩ = false :=
  ⟨World.rowIs.cell h (i := 0) (by omega), World.rowIs.cell h (i := 1) (by omega), World.rowIs.frozen h 0, World.rowIs.frozen h 1⟩
theorem Db.lt {w : World} {b : Nat} (h : Db w b) : b < w.heap.size := World.rowIs.lt h
theorem Db.new (w : World) : Db (w.alloc (.cells #[.int .i64 0, .int .i64 0] 68)) w.heap.size :=
  World.rowIs_alloc w _ 68 (fun _ => .int .i64 0) (fun i hi => by
    match i, hi with
    | 0, _ => rfl
    | 1, _ => rfl
    | i + 2, h => exact absurd h (by simp))
theorem db_keep {W W0 W1 : World} {b : Nat} (hb : Below W0.heap.size W0 W1) (h : Db W b) (e : W0.heap = W.heap) : Db W1 b := by
  have h0 : Db W0 b := World.rowIs.of_block h (by rw [e])
  exact World.rowIs.of_block h0 (hb.block b h0.lt)
theorem dmN_lt (L : List Int) (h : isC L = true) : In64 (dmN L : Int) := by
  have := domL_lt (mv (ofL L) L.length)
  unfold dmN
  exact ⟨by omega, by omega⟩

set_option maxHeartbeats 1000000 in
theorem ends_c (m : Nat) (L : List Int) (hL : isC L = true) (hm : L.length = m) (w : World) :
    Calls Tryz.prog 72 #[.agg #[.int .i64 ((m : Int)), .int .i64 (ofL L 0), .int .i64 (ofL L 1), .int .i64 (ofL L 2), .int .i64 (ofL L 3), .int .i64 (ofL L 4), .int .i64 (ofL L 5)]] w fun e w' => e = .returned (.agg #[.int .i64 (dmN L : Nat), .int .i64 (dmN (tuL L) : Nat)]) ∧ Below w.heap.size w w' := by
  have hc := (Cb.new w (m : Int) (ofL L)).alloc (.cells #[.int .i64 0, .int .i64 0] 68)
  have hd := Db.new (w.alloc (.cells #[.int .i64 ((m : Int)), .int .i64 (ofL L 0), .int .i64 (ofL L 1), .int .i64 (ofL L 2), .int .i64 (ofL L 3), .int .i64 (ofL L 4), .int .i64 (ofL L 5)] 53))
  have hB0 : Below w.heap.size w ((w.alloc (.cells #[.int .i64 ((m : Int)), .int .i64 (ofL L 0), .int .i64 (ofL L 1), .int .i64 (ofL L 2), .int .i64 (ofL L 3), .int .i64 (ofL L 4), .int .i64 (ofL L 5)] 53)).alloc (.cells #[.int .i64 0, .int .i64 0] 68)) := ((Below.refl _ w).alloc (Nat.le_refl _) _).alloc (by simp) _
  rw [World.size_alloc] at hd
  go_enter Tryz.func72, Tryz.ntmps72
  go_wp2_with fail
  generalize (w.alloc (.cells #[.int .i64 ((m : Int)), .int .i64 (ofL L 0), .int .i64 (ofL L 1), .int .i64 (ofL L 2), .int .i64 (ofL L 3), .int .i64 (ofL L 4), .int .i64 (ofL L 5)] 53)).alloc (.cells #[.int .i64 0, .int .i64 0] 68) = W0 at hc hd hB0 ⊢
  have hq0 : w.heap.size + 1 < W0.heap.size := hd.lt
  have hB := hB0
  have hS := Below.refl W0.heap.size W0
  have HB0 := Lib.hid hB0
  clear hB0
  obtain ⟨r0, r1, q0, q1⟩ := hd.all
  go_region_held3 (fun w' => w'.cell? ⟨w.heap.size, 0, none⟩ = some (.int .i64 m) ∧ w'.cell? ⟨w.heap.size, 1, none⟩ = some (.int .i64 (ofL L 0)) ∧ w'.cell? ⟨w.heap.size, 2, none⟩ = some (.int .i64 (ofL L 1)) ∧ w'.cell? ⟨w.heap.size, 3, none⟩ = some (.int .i64 (ofL L 2)) ∧ w'.cell? ⟨w.heap.size, 4, none⟩ = some (.int .i64 (ofL L 3)) ∧ w'.cell? ⟨w.heap.size, 5, none⟩ = some (.int .i64 (ofL L 4)) ∧ w'.cell? ⟨w.heap.size, 6, none⟩ = some (.int .i64 (ofL L 5)))
    (first | exact hc.all | go_keep)
    (first
      | (go_at_call 69
         refine (domain_c m L hL hm _).mono ?_
         rintro e w1x ⟨rfl, hbx⟩
         have hc := cb_keep hbx hc rfl
         have hd := db_keep hbx hd rfl
         have hB := bel_keep hbx hB rfl rfl rfl rfl hB.size
         have hlt := hd.lt
         obtain ⟨r0, r1, q0, q1⟩ := hd.all
         clear hbx)
      | (go_at_call 70
         refine (image_c m L hL hm _).mono ?_
         rintro e w1x ⟨rfl, hbx⟩
         have hc := cb_keep hbx hc rfl
         have hd := db_keep hbx hd rfl
         have hB := bel_keep hbx hB rfl rfl rfl rfl hB.size
         have hlt := hd.lt
         obtain ⟨r0, r1, q0, q1⟩ := hd.all
         clear hbx))
  all_goals
    go_wp2
    refine bodyPost_ret (v := .agg #[.int .i64 (dmN L : Nat), .int .i64 (dmN (tuL L) : Nat)]) (by simp [results, Tryz.results72, go_sem, hlt, r0, r1]) rfl ⟨rfl, (hB.setCell (p := ⟨w.heap.size + 1, 0, none⟩) (Nat.le_succ _) _).setCell (p := ⟨w.heap.size + 1, 1, none⟩) (Nat.le_succ _) _⟩
set_option maxHeartbeats 2000000 in
theorem classesP_any {H : Type} (b m n gf : Nat) (ca cb : Array Value) (mkv : List Int → Value) (kf : List Int → Lit) (zs : List (List Int)) (hn : zs.length = n) (hn6 : n ≤ 1048576) (hz : ∀ L ∈ zs, isC L = true ∧ L.length = m) (hs : Srt zs) (w : World)
    (eg : ∀ args w, (callFunc gf args).run Tryz.prog w = .ok (.enter gf args) w)
    (hp : ∀ L ∈ zs, ∀ W, Calls Tryz.prog gf (ca ++ #[.agg #[.int .i64 ((m : Int)), .int .i64 (ofL L 0), .int .i64 (ofL L 1), .int .i64 (ofL L 2), .int .i64 (ofL L 3), .int .i64 (ofL L 4), .int .i64 (ofL L 5)]] ++ cb) W fun e W' => e = .returned (mkv L) ∧ Below W.heap.size W W')
    (hkf : ∀ L ∈ zs, keyOf Tryz.prog 68 (mkv L) = some (kf L))
    (hown : w.ownsMap Tryz.prog 53 (plainElem (H := H) Tryz.prog 3) b n (mapP klL zs n)) :
    Calls Tryz.prog 71 #[.map (some b), .func (.func gf) ca cb] w fun e w' => ∃ acc : List Lit, e = .returned (.int .i64 ((acc.foldl addKey []).length : Nat)) ∧ (∀ x ∈ acc, ∃ L, L ∈ zs ∧ kf L = x) ∧ (∀ L ∈ zs, kf L ∈ acc) ∧ Below w.heap.size w w' := by
  have HN := Lib.hid hn
  have HZ := Lib.hid hz
  have HP := Lib.hid hp
  have HK := Lib.hid hkf
  have hbl := hown.lt
  have HD : Hid (∀ x, Maps.has (mapP (H := H) klL zs n) x = true ↔ ∃ L, L ∈ zs ∧ klL L = x) := fun x => by subst hn; exact mapP_iff x
  have HSZ : Hid (Maps.size (mapP (H := H) klL zs n) = n) := by subst hn; exact mapP_size hz hs zs.length (Nat.le_refl _)
  clear hz hs hn hp hkf
  have hmm := @ run_makeMap Tryz.prog
  have hm0 := World.ownsMap_made w Tryz.prog 68 (plainElem (H := H) Tryz.prog 4)
  have hB0 : Below w.heap.size w (w.alloc (.map #[] 0)) := (Below.refl _ w).alloc (Nat.le_refl _) _
  have hown0 := hown.alloc (.map #[] 0)
  go_enter Tryz.func71, Tryz.ntmps71
  go_wp2_with (first | (at_range; refine wpList_range_own _ rfl _ 42 rfl 53 3 ch_keyed Tryz.underlying42 _ b n (mapP klL zs n) rfl hown0 ?_; intro w1 hrg0 hg0 hs0) | go_in)
  try go_frame
  have hB1 := hB0.grown hg0 hB0.size (fun k e => by cases e)
  have hm1 := hm0.kept hg0 (by simp)
  rw [HSZ.out] at hrg0
  have HRE : Hid ((w.alloc (.map #[] 0)).heap.size = w.heap.size + 1) := by show _ = _; simp
  clear hg0 hs0 hown hown0 hm0 hB0 hmm
  generalize (w.alloc (.map #[] 0)).heap.size = R at *
  go_loopw [6] (fun _ wr => ∃ left cnt acc, wr.ranges Tryz.prog 53 (plainElem Tryz.prog 3) b R n (mapP klL zs n) left cnt ∧ wr.ownsMap Tryz.prog 68 (plainElem (H := H) Tryz.prog 4) w.heap.size acc.length (setOf (.lit (.bool true)) acc) ∧ acc.length + cnt ≤ n ∧ Hid (∀ x, left x = true → Maps.has (mapP (H := H) klL zs n) x = true) ∧ Hid (∀ x ∈ acc, ∃ L, L ∈ zs ∧ kf L = x) ∧ Hid (∀ L ∈ zs, left (klL L) = false → kf L ∈ acc) ∧ Below w.heap.size w wr) (fun _ wr => wr.rangeLeft b R)
  case atStart => exact ⟨_, _, [], hrg0, hm1, by simp, Lib.hid (fun x h => h), Lib.hid (fun x h => by cases h), Lib.hid (fun L hL h => by rw [(HD.out _).2 ⟨L, hL, rfl⟩] at h; cases h), hB1⟩
  case round =>
    clear hrg0 hm1 hB1
    obtain ⟨left, cnt, acc, hrg, hmp, hcn, P1, Q1, Q2, hB⟩ := hrel
    have hrl := hrg.lt
    have hsB := hB.size
    go_wp2_with (first | (at_next; refine wpList_next_ranges _ rfl _ rfl 53 ch_keyed (plainElem Tryz.prog 3) mkCh (Value.int .i64) mkCh_inv plain_inv b R n _ _ _ rfl hrg ?_ ?_) | go_in)
    · intro hc0 hl0
      have HKL : Hid (∀ x ∈ acc, WideAt.IsKeyLit x) := fun x hx => by
        obtain ⟨L, hL, rfl⟩ := Q1.out x hx
        exact p2_keyed.key (HK.out L hL)
      have HS : Hid (Maps.size (setOf (H := H) (.lit (.bool true)) acc) = (acc.foldl addKey []).length) := size_setOf _ _ HKL.out
      have hlen := hmp.len Tryz.underlying100
      rw [HS.out] at hlen
      go_wp2
      go_ret
      exact ⟨acc, rfl, Q1.out, fun L hL => Q2.out L hL (hl0 _), hB⟩
    · intro xn xT cc kl yd yp w2 cnt2 hkey hlk hv hat hrg2 hlt hg2 hs2 hen
      obtain ⟨L, hL, hkl, hx⟩ := ch_of_key HZ.out hkey ((HD.out kl).1 (P1.out kl hlk))
      rw [hx] at hen
      rw [hx]
      have hLz := HZ.out L hL
      have hB2 := hB.grown hg2 hB.size (fun j e => by cases e; have := HRE.out; omega)
      have hm2 := hmp.kept hg2 (by have := HRE.out; simp; omega)
      have hs2' := hB2.size
      have P1' : Hid (∀ x, (left x && !x.sameKey kl) = true → Maps.has (mapP (H := H) klL zs n) x = true) := fun x h => P1.out x (by rw [Bool.and_eq_true] at h; exact h.1)
      have Q1' : Hid (∀ x ∈ acc ++ [kf L], ∃ M, M ∈ zs ∧ kf M = x) := fun x hx => by
        rcases List.mem_append.1 hx with h | h
        · exact Q1.out x h
        · rw [List.mem_singleton.1 h]; exact ⟨L, hL, rfl⟩
      have Q2' : Hid (∀ M ∈ zs, (left (klL M) && !(klL M).sameKey kl) = false → kf M ∈ acc ++ [kf L]) := fun M hM h => by
        cases hl : left (klL M)
        · exact List.mem_append_left _ (Q2.out M hM hl)
        · rw [hl, Bool.true_and] at h
          have : (klL M).sameKey kl = true := by cases hsk : (klL M).sameKey kl <;> simp_all
          have e := (same_key this).trans hkl.symm
          rw [klL_inj M L (HZ.out M hM).1 hLz.1 e]; exact List.mem_append_right _ (List.mem_singleton.2 rfl)
      have hrg3 := hrg2.alloc (.cells #[.int .i64 ((m : Int)), .int .i64 (ofL L 0), .int .i64 (ofL L 1), .int .i64 (ofL L 2), .int .i64 (ofL L 3), .int .i64 (ofL L 4), .int .i64 (ofL L 5)] 53)
      have hm3 := hm2.alloc (.cells #[.int .i64 ((m : Int)), .int .i64 (ofL L 0), .int .i64 (ofL L 1), .int .i64 (ofL L 2), .int .i64 (ofL L 3), .int .i64 (ofL L 4), .int .i64 (ofL L 5)] 53)
      have hB3 := hB2.alloc hs2' (.cells #[.int .i64 ((m : Int)), .int .i64 (ofL L 0), .int .i64 (ofL L 1), .int .i64 (ofL L 2), .int .i64 (ofL L 3), .int .i64 (ofL L 4), .int .i64 (ofL L 5)] 53)
      have hcall := HP.out L hL (w2.alloc (.cells #[.int .i64 ((m : Int)), .int .i64 (ofL L 0), .int .i64 (ofL L 1), .int .i64 (ofL L 2), .int .i64 (ofL L 3), .int .i64 (ofL L 4), .int .i64 (ofL L 5)] 53))
      have hkL := HK.out L hL
      have hal : acc.length < n := by omega
      obtain ⟨a0, a1, a2, a3, a4, a5, a6⟩ := (Cb.new w2 (m : Int) (ofL L)).all
      clear hs2 hkey hx hv hat hlk hkl P1 Q1 Q2 hrg2 hm2 hB2
      go_wp2_with fail
      refine hcall.mono ?_
      rintro e w4 ⟨rfl, hb4⟩
      have hgr4 : (w2.alloc (.cells #[.int .i64 ((m : Int)), .int .i64 (ofL L 0), .int .i64 (ofL L 1), .int .i64 (ofL L 2), .int .i64 (ofL L 3), .int .i64 (ofL L 4), .int .i64 (ofL L 5)] 53)).grownBy w4 none := gb_of hb4 none
      have hrg4 := hrg3.kept hgr4 (by simp) (by simp)
      have hm4 := hm3.kept hgr4 (by simp)
      have hB4 := hB3.trans (hb4.mono hB3.size)
      have hs4 := hB4.size
      clear hcall hb4 hgr4 hrg3 hm3 hB3 a0 a1 a2 a3 a4 a5 a6
      go_wp2_with (at_mapUpdate; refine wpList_mapUpdate_own _ rfl _ _ _ 100 rfl 68 4 p2_keyed Tryz.underlying100 _ w.heap.size acc.length _ rfl hm4 (by unfold maxLen; omega) _ _ _ rfl rfl hkL _ [] (plainElem_bool Tryz.underlying4 true) ?_; intro w5 hm5 hgr5; go_frame)
      have hrg5 := hrg4.kept hgr5 (by have := HRE.out; simp; omega) (by have := HRE.out; simp; omega)
      have hB5 := hB4.grown hgr5 hs4 (fun j e => by cases e; exact Nat.le_refl _)
      rw [← setOf_snoc] at hm5
      go_roundw
      case rel => exact ⟨_, cnt2, acc ++ [kf L], hrg5, by rw [List.length_append]; exact hm5, by rw [List.length_append]; simp; omega, P1', Q1', Q2', hB5⟩
      case measure => rw [hrg5.left_eq, hrg.left_eq]; exact hlt
theorem int_key (x : Nat) (h : x < 64) : keyOf Tryz.prog 3 (.int .i64 (x : Int)) = some (.int .i64 (x : Int)) := keyOf_int_mk Tryz.underlying3 (WalkArith.wf_i64 (n := (x : Int)) (by omega))
theorem dmN_64 (L : List Int) : dmN L < 64 := domL_lt _
set_option maxHeartbeats 2000000 in
theorem implClasses_any (A : Option Addr) (n c : Nat) (zs : List (List Int)) (w : World) (h : RSS w A n zs) (hg : EtAt w) :
    Calls Tryz.prog 22 #[.slice A n c] w fun e w' => ∃ v, e = .returned (.tuple #[v, .bool (sgS zs)]) ∧ w'.ownsRow w.heap.size 3 1 v (clsL zs).length (ivs (clsL zs)) ∧ Below w.heap.size w w' := by
  have hsg := told_any A n c zs w h hg
  clear h hg
  go_enter Tryz.func22, Tryz.ntmps22
  go_wp2_with fail
  refine hsg.mono ?_
  rintro e w1 ⟨v, rfl, hy, hno, hb⟩
  have hs1 := hb.size
  cases hS : sgS zs
  · obtain rfl := hno hS
    have HSX := Lib.hid hS
    have HI : Hid (clsL zs = []) := by show _ = _; unfold clsL; rw [hS]; rfl
    clear hy hno hsg hS
    go_wp2
    go_ret2
    exact ⟨_, by rw [HSX.out]; rfl, by rw [HI.out]; exact World.ownsRow_nil _ _ _ _, hb⟩
  · obtain ⟨b, rfl, hbl, hown⟩ := hy hS
    have HSX := Lib.hid hS
    have S := sgS_iff.1 hS
    have HI : Hid (clsL zs = [(clN smD zs zs.length : Int), (clN smR zs zs.length : Int), (clN smE zs zs.length : Int)]) := by show _ = _; unfold clsL; rw [hS]; rfl
    have HCH := Lib.hid S.ch
    have HSR := Lib.hid S.srt
    have hM : zs.length ≤ 1048576 := by have := S.most; omega
    generalize hm' : (ent zs 0).length = m at *
    have h1 := classesI_any b m zs.length 69 #[] #[] (fun L => .int .i64 (dmN L : Nat)) (fun L => .int .i64 (dmN L : Nat)) zs rfl hM HCH.out HSR.out w1 (enters_of Tryz.func69 (by kernel_rfl) rfl) (fun L hL W => domain_c m L (HCH.out L hL).1 (HCH.out L hL).2 W) (fun L _ => int_key _ (dmN_64 L)) hown
    clear hy hno hsg hS S hm'
    go_wp2_with fail
    refine h1.mono ?_
    rintro e w2 ⟨acc1, rfl, p1, q1, hb2⟩
    have HC1 : Hid ((acc1.foldl addKey []).length = clN smD zs zs.length) := keys_count (kf := fun L => .int .i64 (dmN L : Nat)) (fun L hL M hM => by unfold smD; rw [decide_eq_true_eq]; exact ⟨fun e => (by show Lit.int .i64 ((dmN L : Nat) : Int) = Lit.int .i64 ((dmN M : Nat) : Int); rw [e]), fun e => (by injection e with _ h; omega)⟩) (fun L => trivial) p1 q1
    rw [HC1.out]
    have hB2 := hb.trans (hb2.mono hs1)
    have hown2 := ownsMap_same hown (hb2.block b hown.lt)
    have h2 := classesI_any b m zs.length 70 #[] #[] (fun L => .int .i64 (dmN (tuL L) : Nat)) (fun L => .int .i64 (dmN (tuL L) : Nat)) zs rfl hM HCH.out HSR.out w2 (enters_of Tryz.func70 (by kernel_rfl) rfl) (fun L hL W => image_c m L (HCH.out L hL).1 (HCH.out L hL).2 W) (fun L _ => int_key _ (dmN_64 _)) hown2
    clear h1 p1 q1 hb2 hown
    go_wp2_with fail
    refine h2.mono ?_
    rintro e w3 ⟨acc2, rfl, p2, q2, hb3⟩
    have HC2 : Hid ((acc2.foldl addKey []).length = clN smR zs zs.length) := keys_count (kf := fun L => .int .i64 (dmN (tuL L) : Nat)) (fun L hL M hM => by unfold smR; rw [decide_eq_true_eq]; exact ⟨fun e => (by show Lit.int .i64 ((dmN (tuL L) : Nat) : Int) = Lit.int .i64 ((dmN (tuL M) : Nat) : Int); rw [e]), fun e => (by injection e with _ h; omega)⟩) (fun L => trivial) p2 q2
    rw [HC2.out]
    have hB3 := hB2.trans (hb3.mono hB2.size)
    have hown3 := ownsMap_same hown2 (hb3.block b hown2.lt)
    have h3 := classesP_any b m zs.length 72 #[] #[] (fun L => .agg #[.int .i64 (dmN L : Nat), .int .i64 (dmN (tuL L) : Nat)]) (fun L => kl2 (dmN L : Nat) (dmN (tuL L) : Nat)) zs rfl hM HCH.out HSR.out w3 (enters_of Tryz.func72 (by kernel_rfl) rfl) (fun L hL W => ends_c m L (HCH.out L hL).1 (HCH.out L hL).2 W) (fun L hL => keyOf_p2 _ _ (dmN_lt L (HCH.out L hL).1) (dmN_lt (tuL L) (tuL_isC (HCH.out L hL).1))) hown3
    clear h2 p2 q2 hb3 hown2
    go_wp2_with fail
    refine h3.mono ?_
    rintro e w4 ⟨acc3, rfl, p3, q3, hb4⟩
    have HC3 : Hid ((acc3.foldl addKey []).length = clN smE zs zs.length) := keys_count (kf := fun L => kl2 (dmN L : Nat) (dmN (tuL L) : Nat)) (fun L hL M hM => by
      unfold smE smD smR
      rw [Bool.and_eq_true, decide_eq_true_eq, decide_eq_true_eq]
      constructor
      · rintro ⟨e1, e2⟩; show kl2 _ _ = kl2 _ _; rw [e1, e2]
      · intro e
        have := kl2_inj (dmN_lt L (HCH.out L hL).1) (dmN_lt (tuL L) (tuL_isC (HCH.out L hL).1)) (dmN_lt M (HCH.out M hM).1) (dmN_lt (tuL M) (tuL_isC (HCH.out M hM).1)) e
        exact ⟨by omega, by omega⟩) (fun L => kl2_key _ _) p3 q3
    rw [HC3.out]
    have hB4 := hB3.trans (hb4.mono hB3.size)
    have hs4 := hB4.size
    clear h3 p3 q3 hb4 hown3 HC1 HC2 HC3
    generalize clN smD zs zs.length = x at *
    generalize clN smR zs zs.length = y at *
    generalize clN smE zs zs.length = z at *
    have hr0 : (w4.alloc (.cells #[.int .i64 (x : Int), .int .i64 (y : Int), .int .i64 (z : Int)] 3)).ownsRow w.heap.size 3 1 (.slice (some ⟨w4.heap.size, 0, none⟩) 3 3) 3 (ivs [(x : Int), (y : Int), (z : Int)]) := World.ownsRow_lit (base := w.heap.size) (e := 3) (size := 1) w4 #[.int .i64 (x : Int), .int .i64 (y : Int), .int .i64 (z : Int)] 3 hs4 (by simp [maxLen]) rfl
    have hB5 := hB4.alloc hs4 (.cells #[.int .i64 (x : Int), .int .i64 (y : Int), .int .i64 (z : Int)] 3)
    go_wp2
    go_ret2
    exact ⟨_, by rw [HSX.out]; rfl, by rw [HI.out]; exact hr0, hB5⟩
end

end Go.Proofs.YtigapanfihpgaaaGreatDoor
