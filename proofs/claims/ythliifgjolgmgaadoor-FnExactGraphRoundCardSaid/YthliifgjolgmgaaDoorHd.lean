/-
  impl.graphFrom: a graph that is told, if it is as told.
-/
import Derived.Test.YthliifgjolgmgaaDoorHc
import Derived.Test.YthliifgjolgmgaaDoorLg
import Derived.Test.YthliifgjolgmgaaDoorGx
import Derived.Shelf.Abstract
import Derived.Deep.RegionLaw
namespace Go.Proofs.YthliifgjolgmgaaDoor
set_option maxRecDepth 100000
set_option linter.unusedVariables false
open Go.RowKit Go.Lib

theorem numL_drop (nx : Nat → Nat → Option Nat) (M : List Nat) {q : Nat} (hq : M.length = q) : (numL nx M 4).drop (2 * q) = toN nx M 2 ++ toN nx M 3 := by
  rw [numL_succ, numL_succ, List.append_assoc, List.drop_left' (by rw [numL_len, hq])]
theorem RI.half {w : World} {base H q m : Nat} {A B : List Int} (h : w.ownsRow base 3 1 (.slice (some ⟨H, 0, none⟩) m m) m (ivs (A ++ B))) (hA : A.length = q) (hB : B.length = q) (hm : m = 2 * q) : RI w (some ⟨H, 0, none⟩) q A ∧ RI w (some ⟨H, q, none⟩) q B := by
  have hadd : ∀ o j, (⟨H, o, none⟩ : Addr).add j = ⟨H, o + j, none⟩ := fun o j => by unfold Addr.add; split <;> simp_all
  have hlt := (h.lt H rfl).2
  refine ⟨⟨hA, by rw [ivs_length, hA, Nat.mul_one], fun _ => ⟨_, rfl, hlt, fun j u hu => ?_⟩⟩, hB, by rw [ivs_length, hB, Nat.mul_one], fun _ => ⟨_, rfl, hlt, fun j u hu => ?_⟩⟩
  · have hj := (List.getElem?_eq_some_iff.1 hu).1
    rw [ivs_length, hA] at hj
    rw [hadd, Nat.zero_add, h.cellAt j (by omega), ivs_get, List.getElem?_append_left (by omega), ← ivs_get]; exact hu
  · have hj := (List.getElem?_eq_some_iff.1 hu).1
    rw [ivs_length, hB] at hj
    rw [hadd, h.cellAt (q + j) (by omega), ivs_get, List.getElem?_append_right (by omega), hA, Nat.add_sub_cancel_left, ← ivs_get]; exact hu
/-- where letters lead in a graph as told, letter by letter -/
def tabG (zs ys : List Int) (n : Nat) : List Int := (List.range 4).flatMap (fun c => (List.range n).map (fun v => enc (nxG zs ys n c v)))
theorem numL_tab {zs ys : List Int} {n : Nat} {S : List Sk} (h : ∀ c, c < 4 → toldA S n c = (List.range n).map (fun v => enc (nxG zs ys n c v))) : numL (leD S) (metQ (leD S) n) 4 = tabG zs ys n := by
  have h0 := h 0 (by omega)
  have h1 := h 1 (by omega)
  have h2 := h 2 (by omega)
  have h3 := h 3 (by omega)
  unfold toldA at h0 h1 h2 h3
  show (List.range 4).flatMap _ = (List.range 4).flatMap _
  rw [show List.range 4 = [0, 1, 2, 3] from rfl]
  simp only [List.flatMap_cons, List.flatMap_nil, h0, h1, h2, h3]
theorem gt_iff {n : Nat} {zs ys : List Int} (hn : 1 ≤ n) (hn2 : n ≤ 40) (h : InR zs n) (h' : InR ys n) {S : List Sk} (hf : FoldS (drG zs ys n) S) (hc : NoCl S) :
    ((metQ (leD S) n).length = n ∧ toldA S n 2 = zs ∧ toldA S n 3 = ys) ↔ GT (n : Int) zs ys := by
  rw [told_iff (by omega) h h' hf hc]
  exact ⟨fun ⟨a, b, c⟩ => ⟨n, rfl, hn, hn2, a, b, c⟩, gt_n⟩
theorem gt_okg {k : Int} {zs ys : List Int} (h : GT k zs ys) : OkG k zs ys := by
  obtain ⟨n, e, h1, h2, h3, h4, _⟩ := h
  exact ⟨n, e, h1, h2, h3.inR, h4.inR⟩
structure GfS (w wr : World) (lo : Nat) (ga : Array Value) (P : Nat) (pa : Array Value) (v : Value) (T : List Int) : Prop where
  g0 : Blk wr lo 26 ga
  rb : Blk wr (lo + 1) 52 #[.int .i64 0, .slice none 0 0]
  pb : Blk wr P 52 pa
  own : wr.ownsRow lo 3 1 v T.length (ivs T)
  bel : Below lo w wr
  low : lo ≤ w.heap.size
theorem GfS.on {w wr w' : World} {lo P : Nat} {ga pa : Array Value} {v : Value} {T : List Int} (h : GfS w wr lo ga P pa v T) (hb : Below wr.heap.size wr w') : GfS w w' lo ga P pa v T :=
  ⟨h.g0.below hb h.g0.lt, h.rb.below hb h.rb.lt, h.pb.below hb h.pb.lt, gt_below h.own hb, h.bel.trans (hb.mono (Nat.le_trans h.low h.bel.size)), h.low⟩
set_option maxHeartbeats 4000000 in
theorem graphFrom_any (k : Int) (a b : Option Addr) (p m c d : Nat) (zs ys : List Int) (w : World) (h : RI w a p zs) (h' : RI w b m ys) (hp : p ≤ 1048576) (hm : m ≤ 1048576) :
    Calls Tryd.prog 40 #[.agg #[.int .i64 k, .slice a p c, .slice b m d]] w fun e w' => Below w.heap.size w w' ∧ ((e = .returned (.tuple #[.agg #[.int .i64 0, .slice none 0 0], .bool false]) ∧ ¬ GT k zs ys) ∨
      ∃ (n : Nat) (v : Value), k = (n : Int) ∧ e = .returned (.tuple #[.agg #[.int .i64 (n : Int), v], .bool true]) ∧ GT k zs ys ∧ w'.ownsRow w.heap.size 3 1 v (tabG zs ys n).length (ivs (tabG zs ys n))) := by
  have hB0 := ((Below.refl w.heap.size w).alloc (Nat.le_refl _) (.cells #[.int .i64 k, .slice a p c, .slice b m d] 26)).alloc (by simp) (.cells #[.int .i64 0, .slice none 0 0] 52)
  have hA0 := (Blk.new w 26 #[.int .i64 k, .slice a p c, .slice b m d]).alloc (.cells #[.int .i64 0, .slice none 0 0] 52)
  have hR0 := Blk.new (w.alloc (.cells #[.int .i64 k, .slice a p c, .slice b m d] 26)) 52 #[.int .i64 0, .slice none 0 0]
  have hz : ((w.alloc (.cells #[.int .i64 k, .slice a p c, .slice b m d] 26)).alloc (.cells #[.int .i64 0, .slice none 0 0] 52)).heap.size = w.heap.size + 1 + 1 := by simp
  simp only [World.size_alloc] at hR0
  have HDR := Lib.hid (drawn_any k a b p m c d zs ys _ (h.below hB0) (h'.below hB0) hp hm)
  have HRI : Hid (∀ W : World, Below w.heap.size w W → RI W a p zs ∧ RI W b m ys) := fun W hW => ⟨h.below hW, h'.below hW⟩
  have HB0 := Lib.hid hB0
  have HA0 := Lib.hid hA0
  have HR0 := Lib.hid hR0
  have HZ := Lib.hid hz
  clear h h' hB0 hA0 hR0 hz
  go_enter Tryd.func40, Tryd.ntmps40
  go_wp2_with fail
  refine HDR.out.mono ?_
  rintro e w1 ⟨hb, hcase⟩
  have HA1 := Lib.hid (HA0.out.below hb HA0.out.lt)
  have HR1 := Lib.hid (HR0.out.below hb HR0.out.lt)
  have HB1 := Lib.hid (HB0.out.trans (hb.mono (by rw [HZ.out]; omega)))
  have HZ1 : Hid (w.heap.size + 1 + 1 ≤ w1.heap.size) := by show _ ≤ _; rw [← HZ.out]; exact hb.size
  have HCS := Lib.hid hcase
  clear hb hcase HDR HA0 HR0 HB0
  rcases HCS.out with ⟨rfl, hno⟩ | ⟨v, rfl, hok, ho⟩
  · have HNO : Hid (¬ GT k zs ys) := fun hg => hno (gt_okg hg)
    have r0 : w1.cell? ⟨w.heap.size + 1, 0, none⟩ = some (.int .i64 0) := HR1.out.cell 0
    have r1 : w1.cell? ⟨w.heap.size + 1, 1, none⟩ = some (.slice none 0 0) := HR1.out.cell 1
    have f0 := HR1.out.frozen 0
    have f1 := HR1.out.frozen 1
    have hlt := HR1.out.lt
    have HBF := Lib.hid ((HB1.out.setCell (p := ⟨w.heap.size + 1, 0, none⟩) (by simp) (.int .i64 0)).setCell (p := ⟨w.heap.size + 1, 1, none⟩) (by simp) (.slice none 0 0))
    clear hno HCS
    go_wp2
    (try simp only [Exit.inBlock, Exit.then])
    exact bodyPost_ret (v := .tuple #[.agg #[.int .i64 0, .slice none 0 0], .bool false]) (by simp [results, Tryd.results40, go_sem, r0, r1]) rfl ⟨HBF.out, .inl ⟨rfl, HNO.out⟩⟩
  · obtain ⟨n, rfl, hn1, hn2, hi1, hi2⟩ := hok
    have e0 : (n : Int).toNat = n := by omega
    rw [e0] at ho
    have ho1 := gt_down (base' := w.heap.size) ho (by rw [HZ.out]; omega)
    have HDW : Hid (Drw (drG zs ys n) n) := drG_drw hi1 hi2
    have hdl : (drG zs ys n).length ≤ 1000 := by
      unfold drG
      rw [List.length_append]
      have h1 := drL_len 2 zs n
      have h2 := drL_len 3 ys n
      omega
    have HGI : Hid (∀ S, FoldS (drG zs ys n) S → NoCl S → (((metQ (leD S) n).length = n ∧ toldA S n 2 = zs ∧ toldA S n 3 = ys) ↔ GT (n : Int) zs ys)) := fun S hf hc => gt_iff hn1 hn2 hi1 hi2 hf hc
    have HTB : Hid (∀ S, FoldS (drG zs ys n) S → GT (n : Int) zs ys → numL (leD S) (metQ (leD S) n) 4 = tabG zs ys n) := fun S hf hg => by
      obtain ⟨l1, l2, l3⟩ := gt_n hg
      obtain ⟨_, _, h3⟩ := told_back (by omega) l1 l2 (uncast_range _ _ l3) hf
      exact numL_tab h3
    have HFO := Lib.hid (foldv_any w.heap.size v n (drG zs ys n) w1 hdl (by omega) HDW.out.nd ho1)
    have HO1 := Lib.hid ho1
    clear ho ho1 hi1 hi2 e0 HCS
    go_wp2_with fail
    refine HFO.out.mono ?_
    rintro e w2 ⟨rfl, S, hf, hnc, ho2, hg⟩
    have HF := Lib.hid hf
    have HNC := Lib.hid hnc
    have HA2 := Lib.hid (HA1.out.grown hg (own_blk_ne HO1.out HA1.out (by decide)).symm)
    have HR2 := Lib.hid (HR1.out.grown hg (own_blk_ne HO1.out HR1.out (by decide)).symm)
    have HB2 := Lib.hid (HB1.out.grown hg HB1.out.size (fun k e => (HO1.out.lt k e).1))
    have HZ2 : Hid (w.heap.size + 1 + 1 ≤ w2.heap.size) := by show _ ≤ _; have := HZ1.out; have := hg.size; omega
    have hsl : S.length ≤ 1000 := by rw [hf.len]; exact hdl
    have hdw2 := hf.drw HDW.out
    have HNB := Lib.hid (numb_any 30 #[v] #[] n (leD S) w2 (by omega) (leD_lt hdw2) (enters_of Tryd.func30 (by kernel_rfl) rfl) (fun W x c hW hx hc => by
      have := leads_any w.heap.size v S x c W hsl (gt_below ho2 hW)
      simpa using this))
    have HML : Hid ((metQ (leD S) n).length ≤ n) := metQ_len (by omega) (leD_lt hdw2)
    have HM1 : Hid (1 ≤ (metQ (leD S) n).length) := (List.getElem?_eq_some_iff.1 (metQ_first (nx := leD S) (n := n))).1
    clear hf hnc ho2 hg HFO HA1 HR1 HB1 HZ1 hdw2
    go_wp2_with fail
    refine HNB.out.mono ?_
    rintro e w3 ⟨hb3, hcase⟩
    rcases hcase with ⟨_, hbad⟩ | ⟨u, rfl, hq40, ho3⟩
    · exact absurd hbad (by have := HML.out; omega)
    · obtain ⟨q, HQ⟩ : ∃ q, Hid ((metQ (leD S) n).length = q) := ⟨_, rfl⟩
      have hq1 : 1 ≤ q := by rw [← HQ.out]; exact HM1.out
      have hq2 : q ≤ 40 := by rw [← HQ.out]; exact hq40
      have hTL : (numL (leD S) (metQ (leD S) n) 4).length = 2 * q + 2 * q := by rw [numL_len, HQ.out]; omega
      have hTD := numL_drop (leD S) (metQ (leD S) n) HQ.out
      have HA4 : Hid ((toN (leD S) (metQ (leD S) n) 2).length = q ∧ (toN (leD S) (metQ (leD S) n) 3).length = q) := ⟨by rw [toN_len, HQ.out], by rw [toN_len, HQ.out]⟩
      have HGI2 : Hid ((q = n ∧ toN (leD S) (metQ (leD S) n) 2 = zs ∧ toN (leD S) (metQ (leD S) n) 3 = ys) ↔ GT (n : Int) zs ys) := by
        have := HGI.out S HF.out HNC.out
        rw [HQ.out] at this
        exact this
      have HTB2 := Lib.hid (HTB.out S HF.out)
      rw [HQ.out]
      generalize numL (leD S) (metQ (leD S) n) 4 = T at *
      generalize toN (leD S) (metQ (leD S) n) 2 = TA at *
      generalize toN (leD S) (metQ (leD S) n) 3 = TB at *
      have hpos : 0 < T.length := by rw [hTL]; omega
      obtain ⟨g4, c4, hu, _, _⟩ := ho3.form hpos
      subst hu
      rw [hTL] at ho3 ⊢
      have HS0 : Hid (GfS w (w3.alloc (.cells #[.int .i64 (q : Int), .slice (some ⟨g4, 0, none⟩) (2 * q + 2 * q) c4] 52)) w.heap.size #[.int .i64 (n : Int), .slice a p c, .slice b m d] w3.heap.size #[.int .i64 (q : Int), .slice (some ⟨g4, 0, none⟩) (2 * q + 2 * q) c4] (.slice (some ⟨g4, 0, none⟩) (2 * q + 2 * q) c4) T) := by
        have h1 := gt_down (base' := w.heap.size) ho3 (by have := HZ2.out; omega)
        refine ⟨(HA2.out.below hb3 HA2.out.lt).alloc _, (HR2.out.below hb3 HR2.out.lt).alloc _, Blk.new _ _ _, by rw [hTL]; exact h1.alloc _, (HB2.out.trans (hb3.mono HB2.out.size)).alloc (Nat.le_trans HB2.out.size hb3.size) _, Nat.le_refl _⟩
      have HPL : Hid (w.heap.size + 1 + 1 ≤ w3.heap.size) := by show _ ≤ _; have := HZ2.out; have := hb3.size; omega
      have HTO : Hid (∀ W : World, W.ownsRow w.heap.size 3 1 (.slice (some ⟨g4, 0, none⟩) (2 * q + 2 * q) c4) T.length (ivs T) → Calls Tryd.prog 31 #[.agg #[.int .i64 (q : Int), .slice (some ⟨g4, 0, none⟩) (2 * q + 2 * q) c4]] W fun e w' => ∃ H, e = .returned (.agg #[.int .i64 (q : Int), .slice (some ⟨H, 0, none⟩) q q, .slice (some ⟨H, q, none⟩) q q]) ∧ RI w' (some ⟨H, 0, none⟩) q TA ∧ RI w' (some ⟨H, q, none⟩) q TB ∧ Below W.heap.size W w') := fun W hW => by
        rw [hTL] at hW
        refine (told_any w.heap.size q (2 * q) g4 c4 T W rfl hq1 hq2 hTL hW).mono ?_
        rintro e w' ⟨H, h1, h2, h3, h4⟩
        rw [hTD] at h3
        obtain ⟨h5, h6⟩ := RI.half h3 HA4.out.1 HA4.out.2 rfl
        exact ⟨H, h1, h5, h6, h4⟩
      have HSG : Hid (∀ (W : World) (H : Nat), RI W (some ⟨H, 0, none⟩) q TA → RI W (some ⟨H, q, none⟩) q TB → Below w.heap.size w W → Calls Tryd.prog 64 #[.agg #[.int .i64 (q : Int), .slice (some ⟨H, 0, none⟩) q q, .slice (some ⟨H, q, none⟩) q q], .agg #[.int .i64 (n : Int), .slice a p c, .slice b m d]] W fun e w' => ∃ r : Bool, e = .returned (.bool r) ∧ (r = true ↔ GT (n : Int) zs ys) ∧ Below W.heap.size W w') := fun W H h1 h2 hW => by
        refine (sameG_any (q : Int) (n : Int) _ _ _ _ q q p m q q c d TA TB zs ys W h1 h2 (HRI.out W hW).1 (HRI.out W hW).2 (by omega) (by omega)).mono ?_
        rintro e w' ⟨rfl, hb⟩
        refine ⟨_, rfl, ?_, hb⟩
        rw [← HGI2.out, Bool.and_eq_true, Bool.and_eq_true, decide_eq_true_eq, decide_eq_true_eq, decide_eq_true_eq]
        constructor
        · rintro ⟨⟨h1, h2⟩, h3⟩; exact ⟨by omega, h2, h3⟩
        · rintro ⟨h1, h2, h3⟩; exact ⟨⟨by omega, h2⟩, h3⟩
      have HQN : Hid (GT (n : Int) zs ys → q = n) := fun hg => (HGI2.out.2 hg).1
      clear hTL hTD hpos ho3 hb3 hq40 HGI HTB HGI2 HA4 HNB HA2 HR2 HB2 HZ2 HML HM1 HO1 HF HNC HDW
      go_wp2
      generalize w3.heap.size = P at *
      generalize w3.alloc (.cells #[.int .i64 (q : Int), .slice (some ⟨g4, 0, none⟩) (2 * q + 2 * q) c4] 52) = w4 at *
      have p0 : w4.cell? ⟨P, 0, none⟩ = some (.int .i64 (q : Int)) := HS0.out.pb.cell 0
      have p1 : w4.cell? ⟨P, 1, none⟩ = some (.slice (some ⟨g4, 0, none⟩) (2 * q + 2 * q) c4) := HS0.out.pb.cell 1
      have g0 : w4.cell? ⟨w.heap.size, 0, none⟩ = some (.int .i64 (n : Int)) := HS0.out.g0.cell 0
      have g1 : w4.cell? ⟨w.heap.size, 1, none⟩ = some (.slice a p c) := HS0.out.g0.cell 1
      have g2 : w4.cell? ⟨w.heap.size, 2, none⟩ = some (.slice b m d) := HS0.out.g0.cell 2
      have HSD : Hid (GfS w w4.drew w.heap.size #[.int .i64 (n : Int), .slice a p c, .slice b m d] P #[.int .i64 (q : Int), .slice (some ⟨g4, 0, none⟩) (2 * q + 2 * q) c4] (.slice (some ⟨g4, 0, none⟩) (2 * q + 2 * q) c4) T) := HS0.out.on (Below.refl _ _).drew
      clear HS0
      go_region_law (first
        | (go_simp
           go_at_call 31
           refine (HTO.out _ HSD.out.own).mono ?_
           rintro e w5 ⟨H5, rfl, hr5, hr6, hb5⟩
           have HS5 := Lib.hid (HSD.out.on hb5)
           have g0 : w5.cell? ⟨w.heap.size, 0, none⟩ = some (.int .i64 (n : Int)) := HS5.out.g0.cell 0
           have g1 : w5.cell? ⟨w.heap.size, 1, none⟩ = some (.slice a p c) := HS5.out.g0.cell 1
           have g2 : w5.cell? ⟨w.heap.size, 2, none⟩ = some (.slice b m d) := HS5.out.g0.cell 2)
        | (go_simp
           go_at_call 64
           refine (HSG.out _ H5 hr5 hr6 HS5.out.bel).mono ?_
           rintro e w6 ⟨r, rfl, hr, hb6⟩
           have HR6 := Lib.hid hr
           have HS6 := Lib.hid (HS5.out.on hb6)))
      all_goals
        have p0 : w6.cell? ⟨P, 0, none⟩ = some (.int .i64 (q : Int)) := HS6.out.pb.cell 0
        have p1 : w6.cell? ⟨P, 1, none⟩ = some (.slice (some ⟨g4, 0, none⟩) (2 * q + 2 * q) c4) := HS6.out.pb.cell 1
        have r0 : w6.cell? ⟨w.heap.size + 1, 0, none⟩ = some (.int .i64 0) := HS6.out.rb.cell 0
        have r1 : w6.cell? ⟨w.heap.size + 1, 1, none⟩ = some (.slice none 0 0) := HS6.out.rb.cell 1
        have f0 := HS6.out.rb.frozen 0
        have f1 := HS6.out.rb.frozen 1
        have hlt := HS6.out.rb.lt
        clear hr hr5 hr6 hb5 hb6 HTO HSG HSD HRI g0 g1 g2
        cases r with
        | false =>
          have HNO : Hid (¬ GT (n : Int) zs ys) := fun hg => Bool.noConfusion (HR6.out.2 hg)
          have HBF := Lib.hid ((HS6.out.bel.setCell (p := ⟨w.heap.size + 1, 0, none⟩) (by simp) (.int .i64 0)).setCell (p := ⟨w.heap.size + 1, 1, none⟩) (by simp) (.slice none 0 0))
          go_wp2
          (try simp only [Exit.inBlock, Exit.then])
          exact bodyPost_ret (v := .tuple #[.agg #[.int .i64 0, .slice none 0 0], .bool false]) (by simp [results, Tryd.results40, go_sem, r0, r1]) rfl ⟨HBF.out, .inl ⟨rfl, HNO.out⟩⟩
        | true =>
          have HYES : Hid (GT (n : Int) zs ys) := HR6.out.1 rfl
          have hqn : q = n := HQN.out HYES.out
          have hTE : T = tabG zs ys n := HTB2.out HYES.out
          have hno := own_blk_ne HS6.out.own HS6.out.rb (by decide)
          have HOF := Lib.hid (ownsRow_setCell_other (ownsRow_setCell_other HS6.out.own (a := ⟨w.heap.size + 1, 0, none⟩) hno (.int .i64 (q : Int))) (a := ⟨w.heap.size + 1, 1, none⟩) hno (.slice (some ⟨g4, 0, none⟩) (2 * q + 2 * q) c4))
          have HBF := Lib.hid ((HS6.out.bel.setCell (p := ⟨w.heap.size + 1, 0, none⟩) (by simp) (.int .i64 (q : Int))).setCell (p := ⟨w.heap.size + 1, 1, none⟩) (by simp) (.slice (some ⟨g4, 0, none⟩) (2 * q + 2 * q) c4))
          rw [hTE] at HOF
          have HQE := Lib.hid hqn
          clear hno hqn hTE HR6 HTB2
          go_wp2
          (try simp only [Exit.inBlock, Exit.then])
          exact bodyPost_ret (v := .tuple #[.agg #[.int .i64 (q : Int), .slice (some ⟨g4, 0, none⟩) (2 * q + 2 * q) c4], .bool true]) (by simp [results, Tryd.results40, go_sem, r0, r1]) rfl ⟨HBF.out, .inr ⟨n, _, rfl, by rw [HQE.out], HYES.out, HOF.out⟩⟩
end Go.Proofs.YthliifgjolgmgaaDoor
