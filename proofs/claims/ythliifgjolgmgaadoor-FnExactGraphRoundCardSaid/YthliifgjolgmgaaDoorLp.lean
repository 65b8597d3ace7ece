/-
  spec.l5Steps: where the four letters lead.
-/
import Derived.Test.YthliifgjolgmgaaDoorLb
import Derived.Deep.RegionHeld3
namespace Go.Proofs.YthliifgjolgmgaaDoor
set_option maxRecDepth 100000
open Go.RowKit Go.Lib

theorem bel5 {v W q : World} {B : Nat} (h : Below B v W) (hb : Below W.heap.size W q) (hB : B ≤ v.heap.size) : Below B v q := h.trans (hb.mono (Nat.le_trans hB h.size))
set_option maxHeartbeats 2000000 in
theorem l5Steps_any (k : Int) (a b : Option Addr) (n c d : Nat) (zs ys : List Int) (w : World) (h : RI w a n zs) (h' : RI w b n ys) (hl : Leads zs n) (hl' : Leads ys n) (hn : n ≤ 1600) :
    Calls Tryd.prog 62 #[.agg #[.int .i64 k, .slice a n c, .slice b n d]] w fun e w' => ∃ (g : Nat) (B1 B2 : Addr), e = .returned (.slice (some ⟨g, 0, none⟩) 4 4) ∧ w.heap.size ≤ g ∧ Blk w' g 24 #[.slice (some B1) n n, .slice (some B2) n n, .slice a n c, .slice b n d] ∧
      w'.ownsRow w.heap.size 3 1 (.slice (some B1) n n) n (ivs (bkL zs n n)) ∧ w'.ownsRow w.heap.size 3 1 (.slice (some B2) n n) n (ivs (bkL ys n n)) ∧ Below w.heap.size w w' := by
  have hB0 : Below w.heap.size w (w.alloc (.cells #[.int .i64 k, .slice a n c, .slice b n d] 26)) := (Below.refl _ w).alloc (Nat.le_refl _) _
  have hz : (w.alloc (.cells #[.int .i64 k, .slice a n c, .slice b n d] 26)).heap.size = w.heap.size + 1 := by simp
  have hA0 : Blk (w.alloc (.cells #[.int .i64 k, .slice a n c, .slice b n d] 26)) w.heap.size 26 #[.int .i64 k, .slice a n c, .slice b n d] := Blk.new w _ _
  have HCK : Hid (∀ w' : World, Below (w.heap.size + 1) (w.alloc (.cells #[.int .i64 k, .slice a n c, .slice b n d] 26)) w' → w'.cell? ⟨w.heap.size, 1, none⟩ = some (.slice a n c) ∧ w'.cell? ⟨w.heap.size, 2, none⟩ = some (.slice b n d)) := fun w' hW => ⟨(hA0.below hW (by omega)).cell 1, (hA0.below hW (by omega)).cell 2⟩
  have HT0 : Hid (∀ W : World, Below w.heap.size w W → Calls Tryd.prog 76 #[.slice a n c] W fun e w' => ∃ B : Addr, e = .returned (.slice (some B) n n) ∧ w'.ownsRow W.heap.size 3 1 (.slice (some B) n n) n (ivs (bkL zs n n)) ∧ Below W.heap.size W w') := fun W hW => l5Back_any a n c zs W (h.below hW) hl hn
  have HT1 : Hid (∀ W : World, Below w.heap.size w W → Calls Tryd.prog 76 #[.slice b n d] W fun e w' => ∃ B : Addr, e = .returned (.slice (some B) n n) ∧ w'.ownsRow W.heap.size 3 1 (.slice (some B) n n) n (ivs (bkL ys n n)) ∧ Below W.heap.size W w') := fun W hW => l5Back_any b n d ys W (h'.below hW) hl' hn
  have HB0 := Lib.hid hB0
  have HBc : Below (w.heap.size + 1) (w.alloc (.cells #[.int .i64 k, .slice a n c, .slice b n d] 26)) (w.alloc (.cells #[.int .i64 k, .slice a n c, .slice b n d] 26)).drew := (Below.refl _ _).drew
  have hle : w.heap.size + 1 ≤ (w.alloc (.cells #[.int .i64 k, .slice a n c, .slice b n d] 26)).heap.size := by omega
  clear h h' hl hl' hA0 hB0 hz
  go_enter Tryd.func62, Tryd.ntmps62
  go_wp2_with fail
  go_region_held3 (fun w' => w'.cell? ⟨w.heap.size, 1, none⟩ = some (.slice a n c) ∧ w'.cell? ⟨w.heap.size, 2, none⟩ = some (.slice b n d)) (exact HCK.out _ (by first | exact HBc | exact HBc.alloc (by have := HBc.size; omega) _))
    (first
      | (go_at_call 76
         fail_if_success (have hh := ho1)
         refine (HT0.out _ (HB0.out.trans (HBc.mono (by omega)))).mono ?_
         rintro e q1 ⟨B1, rfl, ho1, hb1⟩
         have hq0 := HBc.size
         have HBc := bel5 HBc hb1 hle)
      | (go_at_call 76
         refine (HT1.out _ (HB0.out.trans (HBc.mono (by omega)))).mono ?_
         rintro e q2 ⟨B2, rfl, ho2, hb2⟩
         have hq1 := HBc.size
         have ho1 := gt_below ho1 hb2
         have HBc := bel5 HBc hb2 hle))
  have hs : w.heap.size ≤ q2.heap.size := by have := HBc.size; omega
  have h1 := gt_down (base' := w.heap.size) ho1 (Nat.le_trans (Nat.le_of_lt (Nat.lt_of_succ_le hle)) hq0)
  have h2 := gt_down (base' := w.heap.size) ho2 (by omega)
  have HE1 := Lib.hid (h1.alloc (.cells #[.slice (some B1) n n, .slice (some B2) n n, .slice a n c, .slice b n d] 24))
  have HE2 := Lib.hid (h2.alloc (.cells #[.slice (some B1) n n, .slice (some B2) n n, .slice a n c, .slice b n d] 24))
  have HE3 := Lib.hid ((HB0.out.trans (HBc.mono (by omega))).alloc hs (.cells #[.slice (some B1) n n, .slice (some B2) n n, .slice a n c, .slice b n d] 24))
  have HE4 := Lib.hid (Blk.new q2 24 #[.slice (some B1) n n, .slice (some B2) n n, .slice a n c, .slice b n d])
  clear h1 h2 HBc ho1 ho2 hb1 hb2 HT0 HT1 HCK HB0
  go_wp2
  go_ret
  exact ⟨q2.heap.size, B1, B2, rfl, hs, HE4.out, HE1.out, HE2.out, HE3.out⟩
end Go.Proofs.YthliifgjolgmgaaDoor
