/-
  (impl.chart).compatible.
-/
import Derived.Test.YtdmobfjcbjengaaComp
import Derived.Test.YtdmobfjcbjengaaJoin
import Derived.Deep.RegionHeld3
import Derived.Deep.RegionWith
namespace Go.Proofs.Ytdmobfjcbjengaa
open Go.RowKit

theorem s14 {W : World} {b b' : Nat} {n m : Int} {T G : Nat → Int} (h : Cb W b n T) (h' : Cb W b' m G) :
    W.cell? ⟨b, 0, none⟩ = some (.int .i64 n) ∧ W.cell? ⟨b, 1, none⟩ = some (.int .i64 (T 0)) ∧ W.cell? ⟨b, 2, none⟩ = some (.int .i64 (T 1)) ∧ W.cell? ⟨b, 3, none⟩ = some (.int .i64 (T 2)) ∧ W.cell? ⟨b, 4, none⟩ = some (.int .i64 (T 3)) ∧ W.cell? ⟨b, 5, none⟩ = some (.int .i64 (T 4)) ∧ W.cell? ⟨b, 6, none⟩ = some (.int .i64 (T 5)) ∧
    W.cell? ⟨b', 0, none⟩ = some (.int .i64 m) ∧ W.cell? ⟨b', 1, none⟩ = some (.int .i64 (G 0)) ∧ W.cell? ⟨b', 2, none⟩ = some (.int .i64 (G 1)) ∧ W.cell? ⟨b', 3, none⟩ = some (.int .i64 (G 2)) ∧ W.cell? ⟨b', 4, none⟩ = some (.int .i64 (G 3)) ∧ W.cell? ⟨b', 5, none⟩ = some (.int .i64 (G 4)) ∧ W.cell? ⟨b', 6, none⟩ = some (.int .i64 (G 5)) := by
  obtain ⟨a0, a1, a2, a3, a4, a5, a6⟩ := h.all
  obtain ⟨c0, c1, c2, c3, c4, c5, c6⟩ := h'.all
  exact ⟨a0, a1, a2, a3, a4, a5, a6, c0, c1, c2, c3, c4, c5, c6⟩

theorem cb_keep {W W0 W1 : World} {b : Nat} {n : Int} {T : Nat → Int} (hb : Below W0.heap.size W0 W1) (h : Cb W b n T) (e : W0.heap = W.heap) : Cb W1 b n T := by
  have h0 : Cb W0 b n T := World.rowIs.of_block h (by rw [e])
  exact h0.below hb h0.lt
theorem bel_keep {B : Nat} {a W W0 W1 : World} (hb : Below W0.heap.size W0 W1) (h : Below B a W) (eh : W0.heap = W.heap) (eo : W0.os = W.os) (et : W0.tape = W.tape) (eu : W0.output = W.output) (hs : B ≤ W.heap.size) : Below B a W1 := by
  have h0 : Below B a W0 := ⟨eo.trans h.os, et.trans h.tape, eu.trans h.output, by rw [eh]; exact h.size, fun k hk => by rw [eh]; exact h.block k hk⟩
  exact h0.trans (hb.mono (by rw [eh]; exact hs))

set_option maxHeartbeats 600000 in
theorem compat_yes (n : Nat) (hn : n ≤ 6) (T G : Nat → Int) (hT : En n T) (hG : En n G) (hI : idemL (mv (timesL n G (mv (turnL n (mv T n)) n)) n) = true) (w : World) :
    Calls Try.prog 77 #[.agg #[.int .i64 ((n : Int)), .int .i64 (T 0), .int .i64 (T 1), .int .i64 (T 2), .int .i64 (T 3), .int .i64 (T 4), .int .i64 (T 5)], .agg #[.int .i64 ((n : Int)), .int .i64 (G 0), .int .i64 (G 1), .int .i64 (G 2), .int .i64 (G 3), .int .i64 (G 4), .int .i64 (G 5)]] w fun e w' => e = .returned (.bool (idemL (mv (timesL n (turnL n (mv G n)) (mv T n)) n))) ∧ Below w.heap.size w w' := by
  have HI := Lib.hid hI
  clear hI
  have hc := (Cb.new w n T).alloc (.cells #[.int .i64 ((n : Int)), .int .i64 (G 0), .int .i64 (G 1), .int .i64 (G 2), .int .i64 (G 3), .int .i64 (G 4), .int .i64 (G 5)] 42)
  have hd := Cb.new (w.alloc (.cells #[.int .i64 ((n : Int)), .int .i64 (T 0), .int .i64 (T 1), .int .i64 (T 2), .int .i64 (T 3), .int .i64 (T 4), .int .i64 (T 5)] 42)) n G
  rw [World.size_alloc] at hd
  have hB : Below w.heap.size w ((w.alloc (.cells #[.int .i64 ((n : Int)), .int .i64 (T 0), .int .i64 (T 1), .int .i64 (T 2), .int .i64 (T 3), .int .i64 (T 4), .int .i64 (T 5)] 42)).alloc (.cells #[.int .i64 ((n : Int)), .int .i64 (G 0), .int .i64 (G 1), .int .i64 (G 2), .int .i64 (G 3), .int .i64 (G 4), .int .i64 (G 5)] 42)) := ((Below.refl _ w).alloc (Nat.le_refl _) _).alloc (by simp) _
  have hz : w.heap.size + 2 ≤ ((w.alloc (.cells #[.int .i64 ((n : Int)), .int .i64 (T 0), .int .i64 (T 1), .int .i64 (T 2), .int .i64 (T 3), .int .i64 (T 4), .int .i64 (T 5)] 42)).alloc (.cells #[.int .i64 ((n : Int)), .int .i64 (G 0), .int .i64 (G 1), .int .i64 (G 2), .int .i64 (G 3), .int .i64 (G 4), .int .i64 (G 5)] 42)).heap.size := by simp
  go_enter Try.func77, Try.ntmps77
  go_wp2_with fail
  generalize (w.alloc (.cells #[.int .i64 ((n : Int)), .int .i64 (T 0), .int .i64 (T 1), .int .i64 (T 2), .int .i64 (T 3), .int .i64 (T 4), .int .i64 (T 5)] 42)).alloc (.cells #[.int .i64 ((n : Int)), .int .i64 (G 0), .int .i64 (G 1), .int .i64 (G 2), .int .i64 (G 3), .int .i64 (G 4), .int .i64 (G 5)] 42) = W0 at hc hd hB hz ⊢
  have tok1 : True := trivial
  have tok2 : True := trivial
  have tok3 : True := trivial
  have tok4 : True := trivial
  have tok5 : True := trivial
  have tok6 : True := trivial
  go_region_held3 (fun w' => w'.cell? ⟨w.heap.size, 0, none⟩ = some (.int .i64 n) ∧ w'.cell? ⟨w.heap.size, 1, none⟩ = some (.int .i64 (T 0)) ∧ w'.cell? ⟨w.heap.size, 2, none⟩ = some (.int .i64 (T 1)) ∧ w'.cell? ⟨w.heap.size, 3, none⟩ = some (.int .i64 (T 2)) ∧ w'.cell? ⟨w.heap.size, 4, none⟩ = some (.int .i64 (T 3)) ∧ w'.cell? ⟨w.heap.size, 5, none⟩ = some (.int .i64 (T 4)) ∧ w'.cell? ⟨w.heap.size, 6, none⟩ = some (.int .i64 (T 5)) ∧
      w'.cell? ⟨w.heap.size + 1, 0, none⟩ = some (.int .i64 n) ∧ w'.cell? ⟨w.heap.size + 1, 1, none⟩ = some (.int .i64 (G 0)) ∧ w'.cell? ⟨w.heap.size + 1, 2, none⟩ = some (.int .i64 (G 1)) ∧ w'.cell? ⟨w.heap.size + 1, 3, none⟩ = some (.int .i64 (G 2)) ∧ w'.cell? ⟨w.heap.size + 1, 4, none⟩ = some (.int .i64 (G 3)) ∧ w'.cell? ⟨w.heap.size + 1, 5, none⟩ = some (.int .i64 (G 4)) ∧ w'.cell? ⟨w.heap.size + 1, 6, none⟩ = some (.int .i64 (G 5)))
    (first | exact s14 (by assumption) (by assumption) | go_keep)
    (first
      | (go_at_call 58
         have _t := tok1
         refine (turned_any n hn T (en_ok hn hT) _).mono ?_
         rintro e w1 ⟨T1, rfl, HT1, hb1⟩
         have hc := cb_keep hb1 hc rfl
         have hd := cb_keep hb1 hd rfl
         have hB := bel_keep hb1 hB rfl rfl rfl rfl hB.size
         clear tok1 _t hb1)
      | (go_at_call 51
         have _t := tok2
         refine (times_any n hn T1 (en_ok hn (en_congr (en_turn T n (Nat.le_refl _)) (fun j hj => HT1.out j (by omega)))) n G _).mono ?_
         rintro e w2 ⟨T2, rfl, HT2, hb2⟩
         have hc := cb_keep hb2 hc rfl
         have hd := cb_keep hb2 hd rfl
         have hB := bel_keep hb2 hB rfl rfl rfl rfl hB.size
         clear tok2 _t hb2)
      | (go_at_call 59
         have _t := tok3
         have q2 : ∀ j, j < n → T2 j = timesL n G (mv (turnL n (mv T n)) n) j := fun j hj => (HT2.out j (by omega)).trans (times_congr' hn (en_congr (en_turn T n (Nat.le_refl _)) (fun j hj => HT1.out j (by omega))) (fun j hj => HT1.out j (by omega)) (fun j hj => rfl) j hj)
         refine (idem_any n hn T2 (en_ok hn (en_congr (en_times hn (en_turn T n (Nat.le_refl _)) hG) q2)) _).mono ?_
         rintro e w3 ⟨rfl, hb3⟩
         rw [mv_congr q2, HI.out]
         have hc := cb_keep hb3 hc rfl
         have hd := cb_keep hb3 hd rfl
         have hB := bel_keep hb3 hB rfl rfl rfl rfl hB.size
         clear tok3 _t hb3 q2 HT1 HT2)
      | (go_at_call 58
         have _t := tok4
         refine (turned_any n hn G (en_ok hn hG) _).mono ?_
         rintro e w4 ⟨T4, rfl, HT4, hb4⟩
         have hc := cb_keep hb4 hc rfl
         have hd := cb_keep hb4 hd rfl
         have hB := bel_keep hb4 hB rfl rfl rfl rfl hB.size
         clear tok4 _t hb4)
      | (go_at_call 51
         have _t := tok5
         refine (times_any n hn T (en_ok hn hT) n T4 _).mono ?_
         rintro e w5 ⟨T5, rfl, HT5, hb5⟩
         have hc := cb_keep hb5 hc rfl
         have hd := cb_keep hb5 hd rfl
         have hB := bel_keep hb5 hB rfl rfl rfl rfl hB.size
         clear tok5 _t hb5)
      | (go_at_call 59
         have _t := tok6
         have q5 : ∀ j, j < n → T5 j = timesL n (turnL n (mv G n)) (mv T n) j := fun j hj => (HT5.out j (by omega)).trans (times_congr' hn hT (fun j hj => rfl) (fun j hj => HT4.out j (by omega)) j hj)
         refine (idem_any n hn T5 (en_ok hn (en_congr (en_times hn hT (en_turn G n (Nat.le_refl _))) q5)) _).mono ?_
         rintro e w6 ⟨rfl, hb6⟩
         have HR := Lib.hid (mv_congr q5)
         have hc := cb_keep hb6 hc rfl
         have hd := cb_keep hb6 hd rfl
         have hB := bel_keep hb6 hB rfl rfl rfl rfl hB.size
         clear tok6 _t hb6 q5 HT4 HT5))
  go_wp2
  go_ret
  exact ⟨by rw [← HR.out]; rfl, hB⟩

set_option maxHeartbeats 600000 in
theorem compat_no (n : Nat) (hn : n ≤ 6) (T G : Nat → Int) (hT : En n T) (hG : En n G) (hI : idemL (mv (timesL n G (mv (turnL n (mv T n)) n)) n) = false) (w : World) :
    Calls Try.prog 77 #[.agg #[.int .i64 ((n : Int)), .int .i64 (T 0), .int .i64 (T 1), .int .i64 (T 2), .int .i64 (T 3), .int .i64 (T 4), .int .i64 (T 5)], .agg #[.int .i64 ((n : Int)), .int .i64 (G 0), .int .i64 (G 1), .int .i64 (G 2), .int .i64 (G 3), .int .i64 (G 4), .int .i64 (G 5)]] w fun e w' => e = .returned (.bool false) ∧ Below w.heap.size w w' := by
  have HI := Lib.hid hI
  clear hI
  have hc := (Cb.new w n T).alloc (.cells #[.int .i64 ((n : Int)), .int .i64 (G 0), .int .i64 (G 1), .int .i64 (G 2), .int .i64 (G 3), .int .i64 (G 4), .int .i64 (G 5)] 42)
  have hd := Cb.new (w.alloc (.cells #[.int .i64 ((n : Int)), .int .i64 (T 0), .int .i64 (T 1), .int .i64 (T 2), .int .i64 (T 3), .int .i64 (T 4), .int .i64 (T 5)] 42)) n G
  rw [World.size_alloc] at hd
  have hB : Below w.heap.size w ((w.alloc (.cells #[.int .i64 ((n : Int)), .int .i64 (T 0), .int .i64 (T 1), .int .i64 (T 2), .int .i64 (T 3), .int .i64 (T 4), .int .i64 (T 5)] 42)).alloc (.cells #[.int .i64 ((n : Int)), .int .i64 (G 0), .int .i64 (G 1), .int .i64 (G 2), .int .i64 (G 3), .int .i64 (G 4), .int .i64 (G 5)] 42)) := ((Below.refl _ w).alloc (Nat.le_refl _) _).alloc (by simp) _
  have hz : w.heap.size + 2 ≤ ((w.alloc (.cells #[.int .i64 ((n : Int)), .int .i64 (T 0), .int .i64 (T 1), .int .i64 (T 2), .int .i64 (T 3), .int .i64 (T 4), .int .i64 (T 5)] 42)).alloc (.cells #[.int .i64 ((n : Int)), .int .i64 (G 0), .int .i64 (G 1), .int .i64 (G 2), .int .i64 (G 3), .int .i64 (G 4), .int .i64 (G 5)] 42)).heap.size := by simp
  go_enter Try.func77, Try.ntmps77
  go_wp2_with fail
  generalize (w.alloc (.cells #[.int .i64 ((n : Int)), .int .i64 (T 0), .int .i64 (T 1), .int .i64 (T 2), .int .i64 (T 3), .int .i64 (T 4), .int .i64 (T 5)] 42)).alloc (.cells #[.int .i64 ((n : Int)), .int .i64 (G 0), .int .i64 (G 1), .int .i64 (G 2), .int .i64 (G 3), .int .i64 (G 4), .int .i64 (G 5)] 42) = W0 at hc hd hB hz ⊢
  have tok1 : True := trivial
  have tok2 : True := trivial
  have tok3 : True := trivial
  obtain ⟨a0, a1, a2, a3, a4, a5, a6, c0, c1, c2, c3, c4, c5, c6⟩ := s14 hc hd
  go_region_with
    (first
      | (go_at_call 58
         have _t := tok1
         refine (turned_any n hn T (en_ok hn hT) _).mono ?_
         rintro e w1 ⟨T1, rfl, HT1, hb1⟩
         have hc := cb_keep hb1 hc rfl
         have hd := cb_keep hb1 hd rfl
         have hB := bel_keep hb1 hB rfl rfl rfl rfl hB.size
         obtain ⟨a0, a1, a2, a3, a4, a5, a6, c0, c1, c2, c3, c4, c5, c6⟩ := s14 hc hd
         clear tok1 _t hb1)
      | (go_at_call 51
         have _t := tok2
         refine (times_any n hn T1 (en_ok hn (en_congr (en_turn T n (Nat.le_refl _)) (fun j hj => HT1.out j (by omega)))) n G _).mono ?_
         rintro e w2 ⟨T2, rfl, HT2, hb2⟩
         have hc := cb_keep hb2 hc rfl
         have hd := cb_keep hb2 hd rfl
         have hB := bel_keep hb2 hB rfl rfl rfl rfl hB.size
         obtain ⟨a0, a1, a2, a3, a4, a5, a6, c0, c1, c2, c3, c4, c5, c6⟩ := s14 hc hd
         clear tok2 _t hb2)
      | (go_at_call 59
         have _t := tok3
         have q2 : ∀ j, j < n → T2 j = timesL n G (mv (turnL n (mv T n)) n) j := fun j hj => (HT2.out j (by omega)).trans (times_congr' hn (en_congr (en_turn T n (Nat.le_refl _)) (fun j hj => HT1.out j (by omega))) (fun j hj => HT1.out j (by omega)) (fun j hj => rfl) j hj)
         refine (idem_any n hn T2 (en_ok hn (en_congr (en_times hn (en_turn T n (Nat.le_refl _)) hG) q2)) _).mono ?_
         rintro e w3 ⟨rfl, hb3⟩
         rw [mv_congr q2, HI.out]
         have hc := cb_keep hb3 hc rfl
         have hd := cb_keep hb3 hd rfl
         have hB := bel_keep hb3 hB rfl rfl rfl rfl hB.size
         clear tok3 _t hb3 q2 HT1 HT2))
  all_goals go_wp2
  all_goals go_ret
  all_goals exact ⟨rfl, hB⟩


theorem compat_any (n : Nat) (hn : n ≤ 6) (T G : Nat → Int) (hT : En n T) (hG : En n G) (w : World) :
    Calls Try.prog 77 #[.agg #[.int .i64 ((n : Int)), .int .i64 (T 0), .int .i64 (T 1), .int .i64 (T 2), .int .i64 (T 3), .int .i64 (T 4), .int .i64 (T 5)], .agg #[.int .i64 ((n : Int)), .int .i64 (G 0), .int .i64 (G 1), .int .i64 (G 2), .int .i64 (G 3), .int .i64 (G 4), .int .i64 (G 5)]] w fun e w' => e = .returned (.bool (coF n T G)) ∧ Below w.heap.size w w' := by
  cases hI : idemL (mv (timesL n G (mv (turnL n (mv T n)) n)) n)
  · have e : coF n T G = false := by simp [coF, hI]
    rw [e]; exact compat_no n hn T G hT hG hI w
  · have e : coF n T G = idemL (mv (timesL n (turnL n (mv G n)) (mv T n)) n) := by simp [coF, hI]
    rw [e]; exact compat_yes n hn T G hT hG hI w
end Go.Proofs.Ytdmobfjcbjengaa
