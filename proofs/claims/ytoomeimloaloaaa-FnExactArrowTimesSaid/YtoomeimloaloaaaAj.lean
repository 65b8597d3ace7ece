/-
  impl.arrowPair; ArrowJoins and ArrowTimes on both sides.
-/
import Derived.Test.YtoomeimloaloaaaAa
namespace Go.Proofs.Ytoomeimloaloaaa
set_option maxRecDepth 100000
open Go.RowKit

theorem kcutP {α : Type} {Q : Prop} (P : α → Prop) {F : α} (h1 : P F → Q) (h2 : P F) : Q := h1 h2
theorem cb_far9 {W : World} {b g : Nat} {n : Int} {T : Nat → Int} (h : Cb W b n T) (hp : b ≠ g) (v0 v1 v2 v3 v4 v5 v6 v7 v8 : Value) : Cb (((((((((W.setCell ⟨g, 0, none⟩ v0).setCell ⟨g, 1, none⟩ v1).setCell ⟨g, 2, none⟩ v2).setCell ⟨g, 3, none⟩ v3).setCell ⟨g, 4, none⟩ v4).setCell ⟨g, 5, none⟩ v5).setCell ⟨g, 6, none⟩ v6).setCell ⟨g, 7, none⟩ v7).setCell ⟨g, 8, none⟩ v8) b n T := ((((((((h.far hp _).far hp _).far hp _).far hp _).far hp _).far hp _).far hp _).far hp _).far hp _
theorem blk_far9 {W : World} {b g : Nat} {t : TypeId} {cs : Array Value} (h : Blk W b t cs) (hp : b ≠ g) (v0 v1 v2 v3 v4 v5 v6 v7 v8 : Value) : Blk (((((((((W.setCell ⟨g, 0, none⟩ v0).setCell ⟨g, 1, none⟩ v1).setCell ⟨g, 2, none⟩ v2).setCell ⟨g, 3, none⟩ v3).setCell ⟨g, 4, none⟩ v4).setCell ⟨g, 5, none⟩ v5).setCell ⟨g, 6, none⟩ v6).setCell ⟨g, 7, none⟩ v7).setCell ⟨g, 8, none⟩ v8) b t cs := ((((((((h.far hp _).far hp _).far hp _).far hp _).far hp _).far hp _).far hp _).far hp _).far hp _
theorem blk_put9 {W : World} {g : Nat} {t : TypeId} {x0 x1 x2 x3 x4 x5 x6 x7 x8 : Value} (h : Blk W g t #[x0, x1, x2, x3, x4, x5, x6, x7, x8]) (v0 v1 v2 v3 v4 v5 v6 v7 v8 : Value) : Blk (((((((((W.setCell ⟨g, 0, none⟩ v0).setCell ⟨g, 1, none⟩ v1).setCell ⟨g, 2, none⟩ v2).setCell ⟨g, 3, none⟩ v3).setCell ⟨g, 4, none⟩ v4).setCell ⟨g, 5, none⟩ v5).setCell ⟨g, 6, none⟩ v6).setCell ⟨g, 7, none⟩ v7).setCell ⟨g, 8, none⟩ v8) g t #[v0, v1, v2, v3, v4, v5, v6, v7, v8] := by
  have h2 := ((((((((h.set_ 0 v0).set_ 1 v1).set_ 2 v2).set_ 3 v3).set_ 4 v4).set_ 5 v5).set_ 6 v6).set_ 7 v7).set_ 8 v8
  simp only [List.setIfInBounds_toArray, List.set_cons_zero, List.set_cons_succ] at h2
  exact h2
theorem bel_put9 {B : Nat} {a W : World} {g : Nat} (h : Below B a W) (hg : B ≤ g) (v0 v1 v2 v3 v4 v5 v6 v7 v8 : Value) : Below B a (((((((((W.setCell ⟨g, 0, none⟩ v0).setCell ⟨g, 1, none⟩ v1).setCell ⟨g, 2, none⟩ v2).setCell ⟨g, 3, none⟩ v3).setCell ⟨g, 4, none⟩ v4).setCell ⟨g, 5, none⟩ v5).setCell ⟨g, 6, none⟩ v6).setCell ⟨g, 7, none⟩ v7).setCell ⟨g, 8, none⟩ v8) := ((((((((h.setCell (p := ⟨g, 0, none⟩) hg v0).setCell (p := ⟨g, 1, none⟩) hg v1).setCell (p := ⟨g, 2, none⟩) hg v2).setCell (p := ⟨g, 3, none⟩) hg v3).setCell (p := ⟨g, 4, none⟩) hg v4).setCell (p := ⟨g, 5, none⟩) hg v5).setCell (p := ⟨g, 6, none⟩) hg v6).setCell (p := ⟨g, 7, none⟩) hg v7).setCell (p := ⟨g, 8, none⟩) hg v8

theorem s18 {W : World} {x y k : Nat} {T G : Nat → Int} (hx : Blk W x 40 #[(.int .i64 (k : Int)), (.int .i64 (T 0)), (.int .i64 (T 1)), (.int .i64 (T 2)), (.int .i64 (T 3)), (.int .i64 (T 4)), (.int .i64 (T 5)), (.int .i64 (domL (mv T k) : Nat)), (.int .i64 (imN k T : Nat))]) (hy : Blk W y 40 #[(.int .i64 (k : Int)), (.int .i64 (G 0)), (.int .i64 (G 1)), (.int .i64 (G 2)), (.int .i64 (G 3)), (.int .i64 (G 4)), (.int .i64 (G 5)), (.int .i64 (domL (mv G k) : Nat)), (.int .i64 (imN k G : Nat))]) :
    W.cell? ⟨x, 0, none⟩ = some (.int .i64 (k : Int)) ∧ W.cell? ⟨x, 1, none⟩ = some (.int .i64 (T 0)) ∧ W.cell? ⟨x, 2, none⟩ = some (.int .i64 (T 1)) ∧ W.cell? ⟨x, 3, none⟩ = some (.int .i64 (T 2)) ∧ W.cell? ⟨x, 4, none⟩ = some (.int .i64 (T 3)) ∧ W.cell? ⟨x, 5, none⟩ = some (.int .i64 (T 4)) ∧ W.cell? ⟨x, 6, none⟩ = some (.int .i64 (T 5)) ∧ W.cell? ⟨x, 7, none⟩ = some (.int .i64 (domL (mv T k) : Nat)) ∧ W.cell? ⟨x, 8, none⟩ = some (.int .i64 (imN k T : Nat)) ∧ W.cell? ⟨y, 0, none⟩ = some (.int .i64 (k : Int)) ∧ W.cell? ⟨y, 1, none⟩ = some (.int .i64 (G 0)) ∧ W.cell? ⟨y, 2, none⟩ = some (.int .i64 (G 1)) ∧ W.cell? ⟨y, 3, none⟩ = some (.int .i64 (G 2)) ∧ W.cell? ⟨y, 4, none⟩ = some (.int .i64 (G 3)) ∧ W.cell? ⟨y, 5, none⟩ = some (.int .i64 (G 4)) ∧ W.cell? ⟨y, 6, none⟩ = some (.int .i64 (G 5)) ∧ W.cell? ⟨y, 7, none⟩ = some (.int .i64 (domL (mv G k) : Nat)) ∧ W.cell? ⟨y, 8, none⟩ = some (.int .i64 (imN k G : Nat)) := ⟨hx.cell 0, hx.cell 1, hx.cell 2, hx.cell 3, hx.cell 4, hx.cell 5, hx.cell 6, hx.cell 7, hx.cell 8, hy.cell 0, hy.cell 1, hy.cell 2, hy.cell 3, hy.cell 4, hy.cell 5, hy.cell 6, hy.cell 7, hy.cell 8⟩
def ArPairPost (f g : List Int) (w : World) (e : Ending) (w' : World) : Prop :=
  ∃ (k : Nat) (T G : Nat → Int), e = .returned (.tuple #[.agg #[.int .i64 ((k : Int)), .int .i64 (T 0), .int .i64 (T 1), .int .i64 (T 2), .int .i64 (T 3), .int .i64 (T 4), .int .i64 (T 5), .int .i64 ((domL (mv T k) : Nat)), .int .i64 ((imN k T : Nat))], .agg #[.int .i64 ((k : Int)), .int .i64 (G 0), .int .i64 (G 1), .int .i64 (G 2), .int .i64 (G 3), .int .i64 (G 4), .int .i64 (G 5), .int .i64 ((domL (mv G k) : Nat)), .int .i64 ((imN k G : Nat))], .bool (joB f g)]) ∧ k = pk f g ∧ (∀ j, j < 6 → T j = pF f g j) ∧ (∀ j, j < 6 → G j = pG f g j) ∧ Below w.heap.size w w'
set_option maxHeartbeats 4000000 in
theorem arrowPair_any (A B : Option Addr) (n m c d : Nat) (zs ys : List Int) (w : World) (h : RI w A n zs) (h' : RI w B m ys) :
    Calls Try.prog 26 #[.slice A n c, .slice B m d] w (ArPairPost zs ys w) := by
  have hB0 : Below w.heap.size w ((w.alloc (.cells #[.int .i64 0, .int .i64 0, .int .i64 0, .int .i64 0, .int .i64 0, .int .i64 0, .int .i64 0, .int .i64 0, .int .i64 0] 40)).alloc (.cells #[.int .i64 0, .int .i64 0, .int .i64 0, .int .i64 0, .int .i64 0, .int .i64 0, .int .i64 0, .int .i64 0, .int .i64 0] 40)) := ((Below.refl _ w).alloc (Nat.le_refl _) _).alloc (by simp) _
  have hr4 : Blk ((w.alloc (.cells #[.int .i64 0, .int .i64 0, .int .i64 0, .int .i64 0, .int .i64 0, .int .i64 0, .int .i64 0, .int .i64 0, .int .i64 0] 40)).alloc (.cells #[.int .i64 0, .int .i64 0, .int .i64 0, .int .i64 0, .int .i64 0, .int .i64 0, .int .i64 0, .int .i64 0, .int .i64 0] 40)) w.heap.size 40 #[.int .i64 0, .int .i64 0, .int .i64 0, .int .i64 0, .int .i64 0, .int .i64 0, .int .i64 0, .int .i64 0, .int .i64 0] := (Blk.new w _ _).alloc _
  have hr5 : Blk ((w.alloc (.cells #[.int .i64 0, .int .i64 0, .int .i64 0, .int .i64 0, .int .i64 0, .int .i64 0, .int .i64 0, .int .i64 0, .int .i64 0] 40)).alloc (.cells #[.int .i64 0, .int .i64 0, .int .i64 0, .int .i64 0, .int .i64 0, .int .i64 0, .int .i64 0, .int .i64 0, .int .i64 0] 40)) (w.heap.size + 1) 40 #[.int .i64 0, .int .i64 0, .int .i64 0, .int .i64 0, .int .i64 0, .int .i64 0, .int .i64 0, .int .i64 0, .int .i64 0] := by have := Blk.new (w.alloc (.cells #[.int .i64 0, .int .i64 0, .int .i64 0, .int .i64 0, .int .i64 0, .int .i64 0, .int .i64 0, .int .i64 0, .int .i64 0] 40)) 40 #[.int .i64 0, .int .i64 0, .int .i64 0, .int .i64 0, .int .i64 0, .int .i64 0, .int .i64 0, .int .i64 0, .int .i64 0]; rwa [World.size_alloc] at this
  have hsz0 : ((w.alloc (.cells #[.int .i64 0, .int .i64 0, .int .i64 0, .int .i64 0, .int .i64 0, .int .i64 0, .int .i64 0, .int .i64 0, .int .i64 0] 40)).alloc (.cells #[.int .i64 0, .int .i64 0, .int .i64 0, .int .i64 0, .int .i64 0, .int .i64 0, .int .i64 0, .int .i64 0, .int .i64 0] 40)).heap.size = w.heap.size + 2 := by simp
  have hCP := chartPair_any A B n m c d zs ys _ (h.below hB0) (h'.below hB0)
  clear h h'
  go_enter Try.func26, Try.ntmps26
  go_wp2_with fail
  generalize (w.alloc (.cells #[.int .i64 0, .int .i64 0, .int .i64 0, .int .i64 0, .int .i64 0, .int .i64 0, .int .i64 0, .int .i64 0, .int .i64 0] 40)).alloc (.cells #[.int .i64 0, .int .i64 0, .int .i64 0, .int .i64 0, .int .i64 0, .int .i64 0, .int .i64 0, .int .i64 0, .int .i64 0] 40) = w0 at *
  refine hCP.mono ?_
  rintro e w1 ⟨k, T, G, rfl, hkk, hT', hG', hb⟩
  have hk : k ≤ 6 := by rw [hkk]; exact pk_le zs ys
  have hT : Ok k T := by have := (pF_ok zs ys).congr hT' (pk_le zs ys); rwa [← hkk] at this
  have hG : Ok k G := by have := (pG_ok zs ys).congr hG' (pk_le zs ys); rwa [← hkk] at this
  have HKK := Lib.hid hkk
  have HTT : Hid (∀ j, j < 6 → T j = pF zs ys j) := hT'
  have HGG : Hid (∀ j, j < 6 → G j = pG zs ys j) := hG'
  have HJ : Hid (isP zs ys = true → ((((imN k T : Nat) : Int) == ((domL (mv G k) : Nat) : Int)) = joB zs ys)) := fun hp => by
    rw [eq_nat, joB_eq hp, imN_congr hk HTT.out, doN_congr hk HGG.out, hkk, raN_im hp, doN_pG hp]
  replace hr4 := hr4.below hb (by omega)
  replace hr5 := hr5.below hb (by omega)
  have hB1 := hB0.trans (hb.mono hB0.size)
  have hs1 := hb.size
  clear hkk hT' hG' hCP hb hB0
  go_wp2_with fail
  have hc := (Cb.new w1 k T).alloc (.cells #[.int .i64 ((k : Int)), .int .i64 (G 0), .int .i64 (G 1), .int .i64 (G 2), .int .i64 (G 3), .int .i64 (G 4), .int .i64 (G 5)] 38)
  have hd := Cb.new (w1.alloc (.cells #[.int .i64 ((k : Int)), .int .i64 (T 0), .int .i64 (T 1), .int .i64 (T 2), .int .i64 (T 3), .int .i64 (T 4), .int .i64 (T 5)] 38)) k G
  rw [World.size_alloc] at hd
  replace hr4 := (hr4.alloc (.cells #[.int .i64 ((k : Int)), .int .i64 (T 0), .int .i64 (T 1), .int .i64 (T 2), .int .i64 (T 3), .int .i64 (T 4), .int .i64 (T 5)] 38)).alloc (.cells #[.int .i64 ((k : Int)), .int .i64 (G 0), .int .i64 (G 1), .int .i64 (G 2), .int .i64 (G 3), .int .i64 (G 4), .int .i64 (G 5)] 38)
  replace hr5 := (hr5.alloc (.cells #[.int .i64 ((k : Int)), .int .i64 (T 0), .int .i64 (T 1), .int .i64 (T 2), .int .i64 (T 3), .int .i64 (T 4), .int .i64 (T 5)] 38)).alloc (.cells #[.int .i64 ((k : Int)), .int .i64 (G 0), .int .i64 (G 1), .int .i64 (G 2), .int .i64 (G 3), .int .i64 (G 4), .int .i64 (G 5)] 38)
  have hB := (hB1.alloc hB1.size (.cells #[.int .i64 ((k : Int)), .int .i64 (T 0), .int .i64 (T 1), .int .i64 (T 2), .int .i64 (T 3), .int .i64 (T 4), .int .i64 (T 5)] 38)).alloc (by have := hB1.size; simp; omega) (.cells #[.int .i64 ((k : Int)), .int .i64 (G 0), .int .i64 (G 1), .int .i64 (G 2), .int .i64 (G 3), .int .i64 (G 4), .int .i64 (G 5)] 38)
  clear hB1
  generalize (w1.alloc (.cells #[.int .i64 ((k : Int)), .int .i64 (T 0), .int .i64 (T 1), .int .i64 (T 2), .int .i64 (T 3), .int .i64 (T 4), .int .i64 (T 5)] 38)).alloc (.cells #[.int .i64 ((k : Int)), .int .i64 (G 0), .int .i64 (G 1), .int .i64 (G 2), .int .i64 (G 3), .int .i64 (G 4), .int .i64 (G 5)] 38) = V0 at *
  generalize w1.heap.size = b7 at *
  rename_i K1 aK1
  apply kcutP (fun F : Nat → Nat → Act => Hid (∀ (W : World) (x y : Nat), Blk W x 40 #[(.int .i64 (k : Int)), (.int .i64 (T 0)), (.int .i64 (T 1)), (.int .i64 (T 2)), (.int .i64 (T 3)), (.int .i64 (T 4)), (.int .i64 (T 5)), (.int .i64 (domL (mv T k) : Nat)), (.int .i64 (imN k T : Nat))] → Blk W y 40 #[(.int .i64 (k : Int)), (.int .i64 (G 0)), (.int .i64 (G 1)), (.int .i64 (G 2)), (.int .i64 (G 3)), (.int .i64 (G 4)), (.int .i64 (G 5)), (.int .i64 (domL (mv G k) : Nat)), (.int .i64 (imN k G : Nat))] → Blk W w.heap.size 40 #[.int .i64 0, .int .i64 0, .int .i64 0, .int .i64 0, .int .i64 0, .int .i64 0, .int .i64 0, .int .i64 0, .int .i64 0] → Blk W (w.heap.size + 1) 40 #[.int .i64 0, .int .i64 0, .int .i64 0, .int .i64 0, .int .i64 0, .int .i64 0, .int .i64 0, .int .i64 0, .int .i64 0] → w.heap.size + 2 ≤ x → w.heap.size + 2 ≤ y → x ≠ y → Below w.heap.size w W → K1 (F x y) W))
  case h1 =>
    intro HK
    refine wp_region_held_drew (S := (fun w' => w'.cell? ⟨b7, 0, none⟩ = some (.int .i64 (k : Int)) ∧ w'.cell? ⟨b7, 1, none⟩ = some (.int .i64 (T 0)) ∧ w'.cell? ⟨b7, 2, none⟩ = some (.int .i64 (T 1)) ∧ w'.cell? ⟨b7, 3, none⟩ = some (.int .i64 (T 2)) ∧ w'.cell? ⟨b7, 4, none⟩ = some (.int .i64 (T 3)) ∧ w'.cell? ⟨b7, 5, none⟩ = some (.int .i64 (T 4)) ∧ w'.cell? ⟨b7, 6, none⟩ = some (.int .i64 (T 5)) ∧ w'.cell? ⟨b7 + 1, 0, none⟩ = some (.int .i64 (k : Int)) ∧ w'.cell? ⟨b7 + 1, 1, none⟩ = some (.int .i64 (G 0)) ∧ w'.cell? ⟨b7 + 1, 2, none⟩ = some (.int .i64 (G 1)) ∧ w'.cell? ⟨b7 + 1, 3, none⟩ = some (.int .i64 (G 2)) ∧ w'.cell? ⟨b7 + 1, 4, none⟩ = some (.int .i64 (G 3)) ∧ w'.cell? ⟨b7 + 1, 5, none⟩ = some (.int .i64 (G 4)) ∧ w'.cell? ⟨b7 + 1, 6, none⟩ = some (.int .i64 (G 5)))) (by kernel_rfl) ?_ (fun hHeld => ?_)
    · exact s14 hc hd
    replace hc : Cb V0.drew b7 (k : Int) T := hc
    replace hd : Cb V0.drew (b7 + 1) (k : Int) G := hd
    replace hr4 := hr4.drew
    replace hr5 := hr5.drew
    replace hB := hB.drew
    clear hHeld
    generalize V0.drew = V0 at *
    refine wpAnyH_take (i := 0) (v := .agg #[.int .i64 ((k : Int)), .int .i64 (T 0), .int .i64 (T 1), .int .i64 (T 2), .int .i64 (T 3), .int .i64 (T 4), .int .i64 (T 5)]) (by rw [List.getElem?_toArray]; rfl) (by kernel_rfl) (by kernel_rfl) (by kernel_rfl) (by exact fun _ _ _ h => h) (Or.inl ⟨by rfl, fun w hSw => by (try dsimp only at hSw); go_simp⟩) (s14 hc hd) ?_
    try simp only [Act.put, List.setIfInBounds_toArray, List.set_cons_zero, List.set_cons_succ]
    refine wpAnyH_take (i := 2) (v := .agg #[.int .i64 ((k : Int)), .int .i64 (G 0), .int .i64 (G 1), .int .i64 (G 2), .int .i64 (G 3), .int .i64 (G 4), .int .i64 (G 5)]) (by rw [List.getElem?_toArray]; rfl) (by kernel_rfl) (by kernel_rfl) (by kernel_rfl) (by exact fun _ _ _ h => h) (Or.inl ⟨by rfl, fun w hSw => by (try dsimp only at hSw); go_simp⟩) (s14 hc hd) ?_
    try simp only [Act.put, List.setIfInBounds_toArray, List.set_cons_zero, List.set_cons_succ]
    refine wpAnyH_ready (rs := [1, 4, 5]) (by kernel_rfl) (by simp) ?_
    refine AllReadyH.cons (o := _) (by rw [List.getElem?_toArray]; rfl) (fun K hK => ?_) ?_
    · go_simp
      refine (arrowOf_any k hk T hT _).mono ?_
      rintro e V1 ⟨rfl, hb1⟩
      replace hc := cb_keep hb1 hc rfl
      replace hd := cb_keep hb1 hd rfl
      replace hr4 := blk_keep hb1 hr4 rfl
      replace hr5 := blk_keep hb1 hr5 rfl
      replace hB := bel_keep hb1 hB rfl rfl rfl rfl hB.size
      clear hb1
      refine hK.out _ _ ?_ (fun hHeld1 => ?_)
      · exact s14 hc hd
      clear hK K hHeld1
      try simp only [Act.put, List.setIfInBounds_toArray, List.set_cons_zero, List.set_cons_succ]
      refine wpAnyH_ready (rs := [3, 4, 5]) (by kernel_rfl) (by simp) ?_
      refine AllReadyH.cons (o := _) (by rw [List.getElem?_toArray]; rfl) (fun K hK => ?_) ?_
      · go_simp
        refine (arrowOf_any k hk G hG _).mono ?_
        rintro e V2 ⟨rfl, hb1⟩
        replace hc := cb_keep hb1 hc rfl
        replace hd := cb_keep hb1 hd rfl
        replace hr4 := blk_keep hb1 hr4 rfl
        replace hr5 := blk_keep hb1 hr5 rfl
        replace hB := bel_keep hb1 hB rfl rfl rfl rfl hB.size
        clear hb1
        refine hK.out _ _ ?_ (fun hHeld2 => ?_)
        · exact s14 hc hd
        clear hK K hHeld2
        try simp only [Act.put, List.setIfInBounds_toArray, List.set_cons_zero, List.set_cons_succ]
        refine wpAnyH_ready (rs := [4, 5]) (by kernel_rfl) (by simp) ?_
        refine AllReadyH.cons (o := _) (by rw [List.getElem?_toArray]; rfl) (fun K hK => ?_) ?_
        · go_simp
          have hsz : b7 + 2 ≤ V2.heap.size := by have := hd.lt; omega
          replace hc := hc.alloc (.cells #[.int .i64 0, .int .i64 0, .int .i64 0, .int .i64 0, .int .i64 0, .int .i64 0, .int .i64 0, .int .i64 0, .int .i64 0] 40)
          replace hd := hd.alloc (.cells #[.int .i64 0, .int .i64 0, .int .i64 0, .int .i64 0, .int .i64 0, .int .i64 0, .int .i64 0, .int .i64 0, .int .i64 0] 40)
          replace hr4 := hr4.alloc (.cells #[.int .i64 0, .int .i64 0, .int .i64 0, .int .i64 0, .int .i64 0, .int .i64 0, .int .i64 0, .int .i64 0, .int .i64 0] 40)
          replace hr5 := hr5.alloc (.cells #[.int .i64 0, .int .i64 0, .int .i64 0, .int .i64 0, .int .i64 0, .int .i64 0, .int .i64 0, .int .i64 0, .int .i64 0] 40)
          replace hB := hB.alloc hB.size (.cells #[.int .i64 0, .int .i64 0, .int .i64 0, .int .i64 0, .int .i64 0, .int .i64 0, .int .i64 0, .int .i64 0, .int .i64 0] 40)
          have hA10 := Blk.new V2 40 #[.int .i64 0, .int .i64 0, .int .i64 0, .int .i64 0, .int .i64 0, .int .i64 0, .int .i64 0, .int .i64 0, .int .i64 0]
          refine hK.out _ _ ?_ (fun hHeld3 => ?_)
          · exact s14 hc hd
          clear hK K hHeld3
          generalize V2.alloc (.cells #[.int .i64 0, .int .i64 0, .int .i64 0, .int .i64 0, .int .i64 0, .int .i64 0, .int .i64 0, .int .i64 0, .int .i64 0] 40) = U10V2 at *
          generalize V2.heap.size = a10 at *
          try simp only [Act.put, List.setIfInBounds_toArray, List.set_cons_zero, List.set_cons_succ]
          refine wpAnyH_ready (rs := [5]) (by kernel_rfl) (by simp) ?_
          refine AllReadyH.cons (o := _) (by rw [List.getElem?_toArray]; rfl) (fun K hK => ?_) AllReadyH.nil
          go_simp
          have hsz : b7 + 2 ≤ U10V2.heap.size := by have := hd.lt; omega
          have hne := hA10.lt
          replace hA10 := hA10.alloc (.cells #[.int .i64 0, .int .i64 0, .int .i64 0, .int .i64 0, .int .i64 0, .int .i64 0, .int .i64 0, .int .i64 0, .int .i64 0] 40)
          replace hc := hc.alloc (.cells #[.int .i64 0, .int .i64 0, .int .i64 0, .int .i64 0, .int .i64 0, .int .i64 0, .int .i64 0, .int .i64 0, .int .i64 0] 40)
          replace hd := hd.alloc (.cells #[.int .i64 0, .int .i64 0, .int .i64 0, .int .i64 0, .int .i64 0, .int .i64 0, .int .i64 0, .int .i64 0, .int .i64 0] 40)
          replace hr4 := hr4.alloc (.cells #[.int .i64 0, .int .i64 0, .int .i64 0, .int .i64 0, .int .i64 0, .int .i64 0, .int .i64 0, .int .i64 0, .int .i64 0] 40)
          replace hr5 := hr5.alloc (.cells #[.int .i64 0, .int .i64 0, .int .i64 0, .int .i64 0, .int .i64 0, .int .i64 0, .int .i64 0, .int .i64 0, .int .i64 0] 40)
          replace hB := hB.alloc hB.size (.cells #[.int .i64 0, .int .i64 0, .int .i64 0, .int .i64 0, .int .i64 0, .int .i64 0, .int .i64 0, .int .i64 0, .int .i64 0] 40)
          have hA11 := Blk.new U10V2 40 #[.int .i64 0, .int .i64 0, .int .i64 0, .int .i64 0, .int .i64 0, .int .i64 0, .int .i64 0, .int .i64 0, .int .i64 0]
          refine hK.out _ _ ?_ (fun hHeld4 => ?_)
          · exact s14 hc hd
          clear hK K hHeld4
          generalize U10V2.alloc (.cells #[.int .i64 0, .int .i64 0, .int .i64 0, .int .i64 0, .int .i64 0, .int .i64 0, .int .i64 0, .int .i64 0, .int .i64 0] 40) = U11U10V2 at *
          generalize U10V2.heap.size = a11 at *
          try simp only [Act.put, List.setIfInBounds_toArray, List.set_cons_zero, List.set_cons_succ]
          refine wpAnyH_ready (rs := [6]) (by kernel_rfl) (by simp) ?_
          refine AllReadyH.cons (o := _) (by rw [List.getElem?_toArray]; rfl) (fun K hK => ?_) AllReadyH.nil
          have hq := b9 hA10
          have q0 := hq.1
          have q1 := hq.2.1
          have q2 := hq.2.2.1
          have q3 := hq.2.2.2.1
          have q4 := hq.2.2.2.2.1
          have q5 := hq.2.2.2.2.2.1
          have q6 := hq.2.2.2.2.2.2.1
          have q7 := hq.2.2.2.2.2.2.2.1
          have q8 := hq.2.2.2.2.2.2.2.2.1
          have f0 := hq.2.2.2.2.2.2.2.2.2.1
          have f1 := hq.2.2.2.2.2.2.2.2.2.2.1
          have f2 := hq.2.2.2.2.2.2.2.2.2.2.2.1
          have f3 := hq.2.2.2.2.2.2.2.2.2.2.2.2.1
          have f4 := hq.2.2.2.2.2.2.2.2.2.2.2.2.2.1
          have f5 := hq.2.2.2.2.2.2.2.2.2.2.2.2.2.2.1
          have f6 := hq.2.2.2.2.2.2.2.2.2.2.2.2.2.2.2.1
          have f7 := hq.2.2.2.2.2.2.2.2.2.2.2.2.2.2.2.2.1
          have f8 := hq.2.2.2.2.2.2.2.2.2.2.2.2.2.2.2.2.2.1
          have hlt := hq.2.2.2.2.2.2.2.2.2.2.2.2.2.2.2.2.2.2
          clear hq
          go_simp
          replace hc := cb_far9 hc (show b7 ≠ a10 by omega) (.int .i64 (k : Int)) (.int .i64 (T 0)) (.int .i64 (T 1)) (.int .i64 (T 2)) (.int .i64 (T 3)) (.int .i64 (T 4)) (.int .i64 (T 5)) (.int .i64 (domL (mv T k) : Nat)) (.int .i64 (imN k T : Nat))
          replace hd := cb_far9 hd (show b7 + 1 ≠ a10 by omega) (.int .i64 (k : Int)) (.int .i64 (T 0)) (.int .i64 (T 1)) (.int .i64 (T 2)) (.int .i64 (T 3)) (.int .i64 (T 4)) (.int .i64 (T 5)) (.int .i64 (domL (mv T k) : Nat)) (.int .i64 (imN k T : Nat))
          replace hr4 := blk_far9 hr4 (show w.heap.size ≠ a10 by omega) (.int .i64 (k : Int)) (.int .i64 (T 0)) (.int .i64 (T 1)) (.int .i64 (T 2)) (.int .i64 (T 3)) (.int .i64 (T 4)) (.int .i64 (T 5)) (.int .i64 (domL (mv T k) : Nat)) (.int .i64 (imN k T : Nat))
          replace hr5 := blk_far9 hr5 (show w.heap.size + 1 ≠ a10 by omega) (.int .i64 (k : Int)) (.int .i64 (T 0)) (.int .i64 (T 1)) (.int .i64 (T 2)) (.int .i64 (T 3)) (.int .i64 (T 4)) (.int .i64 (T 5)) (.int .i64 (domL (mv T k) : Nat)) (.int .i64 (imN k T : Nat))
          replace hA11 := blk_far9 hA11 (show a11 ≠ a10 by omega) (.int .i64 (k : Int)) (.int .i64 (T 0)) (.int .i64 (T 1)) (.int .i64 (T 2)) (.int .i64 (T 3)) (.int .i64 (T 4)) (.int .i64 (T 5)) (.int .i64 (domL (mv T k) : Nat)) (.int .i64 (imN k T : Nat))
          replace hA10 := blk_put9 hA10 (.int .i64 (k : Int)) (.int .i64 (T 0)) (.int .i64 (T 1)) (.int .i64 (T 2)) (.int .i64 (T 3)) (.int .i64 (T 4)) (.int .i64 (T 5)) (.int .i64 (domL (mv T k) : Nat)) (.int .i64 (imN k T : Nat))
          replace hB := bel_put9 hB (show w.heap.size ≤ a10 by omega) (.int .i64 (k : Int)) (.int .i64 (T 0)) (.int .i64 (T 1)) (.int .i64 (T 2)) (.int .i64 (T 3)) (.int .i64 (T 4)) (.int .i64 (T 5)) (.int .i64 (domL (mv T k) : Nat)) (.int .i64 (imN k T : Nat))
          clear q0 q1 q2 q3 q4 q5 q6 q7 q8 f0 f1 f2 f3 f4 f5 f6 f7 f8 hlt
          refine hK.out _ _ ?_ (fun hHeld5 => ?_)
          · exact s14 hc hd
          clear hK K hHeld5
          generalize (((((((((U11U10V2.setCell ⟨a10, 0, none⟩ (.int .i64 (k : Int))).setCell ⟨a10, 1, none⟩ (.int .i64 (T 0))).setCell ⟨a10, 2, none⟩ (.int .i64 (T 1))).setCell ⟨a10, 3, none⟩ (.int .i64 (T 2))).setCell ⟨a10, 4, none⟩ (.int .i64 (T 3))).setCell ⟨a10, 5, none⟩ (.int .i64 (T 4))).setCell ⟨a10, 6, none⟩ (.int .i64 (T 5))).setCell ⟨a10, 7, none⟩ (.int .i64 (domL (mv T k) : Nat))).setCell ⟨a10, 8, none⟩ (.int .i64 (imN k T : Nat))) = X6 at *
          try simp only [Act.put, List.setIfInBounds_toArray, List.set_cons_zero, List.set_cons_succ]
          refine wpAnyH_ready (rs := [7]) (by kernel_rfl) (by simp) ?_
          refine AllReadyH.cons (o := _) (by rw [List.getElem?_toArray]; rfl) (fun K hK => ?_) AllReadyH.nil
          have hq := b9 hA11
          have q0 := hq.1
          have q1 := hq.2.1
          have q2 := hq.2.2.1
          have q3 := hq.2.2.2.1
          have q4 := hq.2.2.2.2.1
          have q5 := hq.2.2.2.2.2.1
          have q6 := hq.2.2.2.2.2.2.1
          have q7 := hq.2.2.2.2.2.2.2.1
          have q8 := hq.2.2.2.2.2.2.2.2.1
          have f0 := hq.2.2.2.2.2.2.2.2.2.1
          have f1 := hq.2.2.2.2.2.2.2.2.2.2.1
          have f2 := hq.2.2.2.2.2.2.2.2.2.2.2.1
          have f3 := hq.2.2.2.2.2.2.2.2.2.2.2.2.1
          have f4 := hq.2.2.2.2.2.2.2.2.2.2.2.2.2.1
          have f5 := hq.2.2.2.2.2.2.2.2.2.2.2.2.2.2.1
          have f6 := hq.2.2.2.2.2.2.2.2.2.2.2.2.2.2.2.1
          have f7 := hq.2.2.2.2.2.2.2.2.2.2.2.2.2.2.2.2.1
          have f8 := hq.2.2.2.2.2.2.2.2.2.2.2.2.2.2.2.2.2.1
          have hlt := hq.2.2.2.2.2.2.2.2.2.2.2.2.2.2.2.2.2.2
          clear hq
          go_simp
          replace hc := cb_far9 hc (show b7 ≠ a11 by omega) (.int .i64 (k : Int)) (.int .i64 (G 0)) (.int .i64 (G 1)) (.int .i64 (G 2)) (.int .i64 (G 3)) (.int .i64 (G 4)) (.int .i64 (G 5)) (.int .i64 (domL (mv G k) : Nat)) (.int .i64 (imN k G : Nat))
          replace hd := cb_far9 hd (show b7 + 1 ≠ a11 by omega) (.int .i64 (k : Int)) (.int .i64 (G 0)) (.int .i64 (G 1)) (.int .i64 (G 2)) (.int .i64 (G 3)) (.int .i64 (G 4)) (.int .i64 (G 5)) (.int .i64 (domL (mv G k) : Nat)) (.int .i64 (imN k G : Nat))
          replace hr4 := blk_far9 hr4 (show w.heap.size ≠ a11 by omega) (.int .i64 (k : Int)) (.int .i64 (G 0)) (.int .i64 (G 1)) (.int .i64 (G 2)) (.int .i64 (G 3)) (.int .i64 (G 4)) (.int .i64 (G 5)) (.int .i64 (domL (mv G k) : Nat)) (.int .i64 (imN k G : Nat))
          replace hr5 := blk_far9 hr5 (show w.heap.size + 1 ≠ a11 by omega) (.int .i64 (k : Int)) (.int .i64 (G 0)) (.int .i64 (G 1)) (.int .i64 (G 2)) (.int .i64 (G 3)) (.int .i64 (G 4)) (.int .i64 (G 5)) (.int .i64 (domL (mv G k) : Nat)) (.int .i64 (imN k G : Nat))
          replace hA10 := blk_far9 hA10 (show a10 ≠ a11 by omega) (.int .i64 (k : Int)) (.int .i64 (G 0)) (.int .i64 (G 1)) (.int .i64 (G 2)) (.int .i64 (G 3)) (.int .i64 (G 4)) (.int .i64 (G 5)) (.int .i64 (domL (mv G k) : Nat)) (.int .i64 (imN k G : Nat))
          replace hA11 := blk_put9 hA11 (.int .i64 (k : Int)) (.int .i64 (G 0)) (.int .i64 (G 1)) (.int .i64 (G 2)) (.int .i64 (G 3)) (.int .i64 (G 4)) (.int .i64 (G 5)) (.int .i64 (domL (mv G k) : Nat)) (.int .i64 (imN k G : Nat))
          replace hB := bel_put9 hB (show w.heap.size ≤ a11 by omega) (.int .i64 (k : Int)) (.int .i64 (G 0)) (.int .i64 (G 1)) (.int .i64 (G 2)) (.int .i64 (G 3)) (.int .i64 (G 4)) (.int .i64 (G 5)) (.int .i64 (domL (mv G k) : Nat)) (.int .i64 (imN k G : Nat))
          clear q0 q1 q2 q3 q4 q5 q6 q7 q8 f0 f1 f2 f3 f4 f5 f6 f7 f8 hlt
          refine hK.out _ _ ?_ (fun hHeld6 => ?_)
          · exact s14 hc hd
          clear hK K hHeld6
          generalize (((((((((X6.setCell ⟨a11, 0, none⟩ (.int .i64 (k : Int))).setCell ⟨a11, 1, none⟩ (.int .i64 (G 0))).setCell ⟨a11, 2, none⟩ (.int .i64 (G 1))).setCell ⟨a11, 3, none⟩ (.int .i64 (G 2))).setCell ⟨a11, 4, none⟩ (.int .i64 (G 3))).setCell ⟨a11, 5, none⟩ (.int .i64 (G 4))).setCell ⟨a11, 6, none⟩ (.int .i64 (G 5))).setCell ⟨a11, 7, none⟩ (.int .i64 (domL (mv G k) : Nat))).setCell ⟨a11, 8, none⟩ (.int .i64 (imN k G : Nat))) = X7 at *
          try simp only [Act.put, List.setIfInBounds_toArray, List.set_cons_zero, List.set_cons_succ]
          refine wpAnyH_done (by kernel_rfl) ?_ _
          exact HK.out _ a10 a11 hA10 hA11 hr4 hr5 (by omega) (by omega) (by omega) hB
        refine AllReadyH.cons (o := _) (by rw [List.getElem?_toArray]; rfl) (fun K hK => ?_) AllReadyH.nil
        go_simp
        have hsz : b7 + 2 ≤ V2.heap.size := by have := hd.lt; omega
        replace hc := hc.alloc (.cells #[.int .i64 0, .int .i64 0, .int .i64 0, .int .i64 0, .int .i64 0, .int .i64 0, .int .i64 0, .int .i64 0, .int .i64 0] 40)
        replace hd := hd.alloc (.cells #[.int .i64 0, .int .i64 0, .int .i64 0, .int .i64 0, .int .i64 0, .int .i64 0, .int .i64 0, .int .i64 0, .int .i64 0] 40)
        replace hr4 := hr4.alloc (.cells #[.int .i64 0, .int .i64 0, .int .i64 0, .int .i64 0, .int .i64 0, .int .i64 0, .int .i64 0, .int .i64 0, .int .i64 0] 40)
        replace hr5 := hr5.alloc (.cells #[.int .i64 0, .int .i64 0, .int .i64 0, .int .i64 0, .int .i64 0, .int .i64 0, .int .i64 0, .int .i64 0, .int .i64 0] 40)
        replace hB := hB.alloc hB.size (.cells #[.int .i64 0, .int .i64 0, .int .i64 0, .int .i64 0, .int .i64 0, .int .i64 0, .int .i64 0, .int .i64 0, .int .i64 0] 40)
        have hA11 := Blk.new V2 40 #[.int .i64 0, .int .i64 0, .int .i64 0, .int .i64 0, .int .i64 0, .int .i64 0, .int .i64 0, .int .i64 0, .int .i64 0]
        refine hK.out _ _ ?_ (fun hHeld7 => ?_)
        · exact s14 hc hd
        clear hK K hHeld7
        generalize V2.alloc (.cells #[.int .i64 0, .int .i64 0, .int .i64 0, .int .i64 0, .int .i64 0, .int .i64 0, .int .i64 0, .int .i64 0, .int .i64 0] 40) = U11V2 at *
        generalize V2.heap.size = a11 at *
        try simp only [Act.put, List.setIfInBounds_toArray, List.set_cons_zero, List.set_cons_succ]
        refine wpAnyH_ready (rs := [4]) (by kernel_rfl) (by simp) ?_
        refine AllReadyH.cons (o := _) (by rw [List.getElem?_toArray]; rfl) (fun K hK => ?_) AllReadyH.nil
        go_simp
        have hsz : b7 + 2 ≤ U11V2.heap.size := by have := hd.lt; omega
        have hne := hA11.lt
        replace hA11 := hA11.alloc (.cells #[.int .i64 0, .int .i64 0, .int .i64 0, .int .i64 0, .int .i64 0, .int .i64 0, .int .i64 0, .int .i64 0, .int .i64 0] 40)
        replace hc := hc.alloc (.cells #[.int .i64 0, .int .i64 0, .int .i64 0, .int .i64 0, .int .i64 0, .int .i64 0, .int .i64 0, .int .i64 0, .int .i64 0] 40)
        replace hd := hd.alloc (.cells #[.int .i64 0, .int .i64 0, .int .i64 0, .int .i64 0, .int .i64 0, .int .i64 0, .int .i64 0, .int .i64 0, .int .i64 0] 40)
        replace hr4 := hr4.alloc (.cells #[.int .i64 0, .int .i64 0, .int .i64 0, .int .i64 0, .int .i64 0, .int .i64 0, .int .i64 0, .int .i64 0, .int .i64 0] 40)
        replace hr5 := hr5.alloc (.cells #[.int .i64 0, .int .i64 0, .int .i64 0, .int .i64 0, .int .i64 0, .int .i64 0, .int .i64 0, .int .i64 0, .int .i64 0] 40)
        replace hB := hB.alloc hB.size (.cells #[.int .i64 0, .int .i64 0, .int .i64 0, .int .i64 0, .int .i64 0, .int .i64 0, .int .i64 0, .int .i64 0, .int .i64 0] 40)
        have hA10 := Blk.new U11V2 40 #[.int .i64 0, .int .i64 0, .int .i64 0, .int .i64 0, .int .i64 0, .int .i64 0, .int .i64 0, .int .i64 0, .int .i64 0]
        refine hK.out _ _ ?_ (fun hHeld8 => ?_)
        · exact s14 hc hd
        clear hK K hHeld8
        generalize U11V2.alloc (.cells #[.int .i64 0, .int .i64 0, .int .i64 0, .int .i64 0, .int .i64 0, .int .i64 0, .int .i64 0, .int .i64 0, .int .i64 0] 40) = U10U11V2 at *
        generalize U11V2.heap.size = a10 at *
        try simp only [Act.put, List.setIfInBounds_toArray, List.set_cons_zero, List.set_cons_succ]
        refine wpAnyH_ready (rs := [6]) (by kernel_rfl) (by simp) ?_
        refine AllReadyH.cons (o := _) (by rw [List.getElem?_toArray]; rfl) (fun K hK => ?_) AllReadyH.nil
        have hq := b9 hA10
        have q0 := hq.1
        have q1 := hq.2.1
        have q2 := hq.2.2.1
        have q3 := hq.2.2.2.1
        have q4 := hq.2.2.2.2.1
        have q5 := hq.2.2.2.2.2.1
        have q6 := hq.2.2.2.2.2.2.1
        have q7 := hq.2.2.2.2.2.2.2.1
        have q8 := hq.2.2.2.2.2.2.2.2.1
        have f0 := hq.2.2.2.2.2.2.2.2.2.1
        have f1 := hq.2.2.2.2.2.2.2.2.2.2.1
        have f2 := hq.2.2.2.2.2.2.2.2.2.2.2.1
        have f3 := hq.2.2.2.2.2.2.2.2.2.2.2.2.1
        have f4 := hq.2.2.2.2.2.2.2.2.2.2.2.2.2.1
        have f5 := hq.2.2.2.2.2.2.2.2.2.2.2.2.2.2.1
        have f6 := hq.2.2.2.2.2.2.2.2.2.2.2.2.2.2.2.1
        have f7 := hq.2.2.2.2.2.2.2.2.2.2.2.2.2.2.2.2.1
        have f8 := hq.2.2.2.2.2.2.2.2.2.2.2.2.2.2.2.2.2.1
        have hlt := hq.2.2.2.2.2.2.2.2.2.2.2.2.2.2.2.2.2.2
        clear hq
        go_simp
        replace hc := cb_far9 hc (show b7 ≠ a10 by omega) (.int .i64 (k : Int)) (.int .i64 (T 0)) (.int .i64 (T 1)) (.int .i64 (T 2)) (.int .i64 (T 3)) (.int .i64 (T 4)) (.int .i64 (T 5)) (.int .i64 (domL (mv T k) : Nat)) (.int .i64 (imN k T : Nat))
        replace hd := cb_far9 hd (show b7 + 1 ≠ a10 by omega) (.int .i64 (k : Int)) (.int .i64 (T 0)) (.int .i64 (T 1)) (.int .i64 (T 2)) (.int .i64 (T 3)) (.int .i64 (T 4)) (.int .i64 (T 5)) (.int .i64 (domL (mv T k) : Nat)) (.int .i64 (imN k T : Nat))
        replace hr4 := blk_far9 hr4 (show w.heap.size ≠ a10 by omega) (.int .i64 (k : Int)) (.int .i64 (T 0)) (.int .i64 (T 1)) (.int .i64 (T 2)) (.int .i64 (T 3)) (.int .i64 (T 4)) (.int .i64 (T 5)) (.int .i64 (domL (mv T k) : Nat)) (.int .i64 (imN k T : Nat))
        replace hr5 := blk_far9 hr5 (show w.heap.size + 1 ≠ a10 by omega) (.int .i64 (k : Int)) (.int .i64 (T 0)) (.int .i64 (T 1)) (.int .i64 (T 2)) (.int .i64 (T 3)) (.int .i64 (T 4)) (.int .i64 (T 5)) (.int .i64 (domL (mv T k) : Nat)) (.int .i64 (imN k T : Nat))
        replace hA11 := blk_far9 hA11 (show a11 ≠ a10 by omega) (.int .i64 (k : Int)) (.int .i64 (T 0)) (.int .i64 (T 1)) (.int .i64 (T 2)) (.int .i64 (T 3)) (.int .i64 (T 4)) (.int .i64 (T 5)) (.int .i64 (domL (mv T k) : Nat)) (.int .i64 (imN k T : Nat))
        replace hA10 := blk_put9 hA10 (.int .i64 (k : Int)) (.int .i64 (T 0)) (.int .i64 (T 1)) (.int .i64 (T 2)) (.int .i64 (T 3)) (.int .i64 (T 4)) (.int .i64 (T 5)) (.int .i64 (domL (mv T k) : Nat)) (.int .i64 (imN k T : Nat))
        replace hB := bel_put9 hB (show w.heap.size ≤ a10 by omega) (.int .i64 (k : Int)) (.int .i64 (T 0)) (.int .i64 (T 1)) (.int .i64 (T 2)) (.int .i64 (T 3)) (.int .i64 (T 4)) (.int .i64 (T 5)) (.int .i64 (domL (mv T k) : Nat)) (.int .i64 (imN k T : Nat))
        clear q0 q1 q2 q3 q4 q5 q6 q7 q8 f0 f1 f2 f3 f4 f5 f6 f7 f8 hlt
        refine hK.out _ _ ?_ (fun hHeld9 => ?_)
        · exact s14 hc hd
        clear hK K hHeld9
        generalize (((((((((U10U11V2.setCell ⟨a10, 0, none⟩ (.int .i64 (k : Int))).setCell ⟨a10, 1, none⟩ (.int .i64 (T 0))).setCell ⟨a10, 2, none⟩ (.int .i64 (T 1))).setCell ⟨a10, 3, none⟩ (.int .i64 (T 2))).setCell ⟨a10, 4, none⟩ (.int .i64 (T 3))).setCell ⟨a10, 5, none⟩ (.int .i64 (T 4))).setCell ⟨a10, 6, none⟩ (.int .i64 (T 5))).setCell ⟨a10, 7, none⟩ (.int .i64 (domL (mv T k) : Nat))).setCell ⟨a10, 8, none⟩ (.int .i64 (imN k T : Nat))) = X6 at *
        try simp only [Act.put, List.setIfInBounds_toArray, List.set_cons_zero, List.set_cons_succ]
        refine wpAnyH_ready (rs := [7]) (by kernel_rfl) (by simp) ?_
        refine AllReadyH.cons (o := _) (by rw [List.getElem?_toArray]; rfl) (fun K hK => ?_) AllReadyH.nil
        have hq := b9 hA11
        have q0 := hq.1
        have q1 := hq.2.1
        have q2 := hq.2.2.1
        have q3 := hq.2.2.2.1
        have q4 := hq.2.2.2.2.1
        have q5 := hq.2.2.2.2.2.1
        have q6 := hq.2.2.2.2.2.2.1
        have q7 := hq.2.2.2.2.2.2.2.1
        have q8 := hq.2.2.2.2.2.2.2.2.1
        have f0 := hq.2.2.2.2.2.2.2.2.2.1
        have f1 := hq.2.2.2.2.2.2.2.2.2.2.1
        have f2 := hq.2.2.2.2.2.2.2.2.2.2.2.1
        have f3 := hq.2.2.2.2.2.2.2.2.2.2.2.2.1
        have f4 := hq.2.2.2.2.2.2.2.2.2.2.2.2.2.1
        have f5 := hq.2.2.2.2.2.2.2.2.2.2.2.2.2.2.1
        have f6 := hq.2.2.2.2.2.2.2.2.2.2.2.2.2.2.2.1
        have f7 := hq.2.2.2.2.2.2.2.2.2.2.2.2.2.2.2.2.1
        have f8 := hq.2.2.2.2.2.2.2.2.2.2.2.2.2.2.2.2.2.1
        have hlt := hq.2.2.2.2.2.2.2.2.2.2.2.2.2.2.2.2.2.2
        clear hq
        go_simp
        replace hc := cb_far9 hc (show b7 ≠ a11 by omega) (.int .i64 (k : Int)) (.int .i64 (G 0)) (.int .i64 (G 1)) (.int .i64 (G 2)) (.int .i64 (G 3)) (.int .i64 (G 4)) (.int .i64 (G 5)) (.int .i64 (domL (mv G k) : Nat)) (.int .i64 (imN k G : Nat))
        replace hd := cb_far9 hd (show b7 + 1 ≠ a11 by omega) (.int .i64 (k : Int)) (.int .i64 (G 0)) (.int .i64 (G 1)) (.int .i64 (G 2)) (.int .i64 (G 3)) (.int .i64 (G 4)) (.int .i64 (G 5)) (.int .i64 (domL (mv G k) : Nat)) (.int .i64 (imN k G : Nat))
        replace hr4 := blk_far9 hr4 (show w.heap.size ≠ a11 by omega) (.int .i64 (k : Int)) (.int .i64 (G 0)) (.int .i64 (G 1)) (.int .i64 (G 2)) (.int .i64 (G 3)) (.int .i64 (G 4)) (.int .i64 (G 5)) (.int .i64 (domL (mv G k) : Nat)) (.int .i64 (imN k G : Nat))
        replace hr5 := blk_far9 hr5 (show w.heap.size + 1 ≠ a11 by omega) (.int .i64 (k : Int)) (.int .i64 (G 0)) (.int .i64 (G 1)) (.int .i64 (G 2)) (.int .i64 (G 3)) (.int .i64 (G 4)) (.int .i64 (G 5)) (.int .i64 (domL (mv G k) : Nat)) (.int .i64 (imN k G : Nat))
        replace hA10 := blk_far9 hA10 (show a10 ≠ a11 by omega) (.int .i64 (k : Int)) (.int .i64 (G 0)) (.int .i64 (G 1)) (.int .i64 (G 2)) (.int .i64 (G 3)) (.int .i64 (G 4)) (.int .i64 (G 5)) (.int .i64 (domL (mv G k) : Nat)) (.int .i64 (imN k G : Nat))
        replace hA11 := blk_put9 hA11 (.int .i64 (k : Int)) (.int .i64 (G 0)) (.int .i64 (G 1)) (.int .i64 (G 2)) (.int .i64 (G 3)) (.int .i64 (G 4)) (.int .i64 (G 5)) (.int .i64 (domL (mv G k) : Nat)) (.int .i64 (imN k G : Nat))
        replace hB := bel_put9 hB (show w.heap.size ≤ a11 by omega) (.int .i64 (k : Int)) (.int .i64 (G 0)) (.int .i64 (G 1)) (.int .i64 (G 2)) (.int .i64 (G 3)) (.int .i64 (G 4)) (.int .i64 (G 5)) (.int .i64 (domL (mv G k) : Nat)) (.int .i64 (imN k G : Nat))
        clear q0 q1 q2 q3 q4 q5 q6 q7 q8 f0 f1 f2 f3 f4 f5 f6 f7 f8 hlt
        refine hK.out _ _ ?_ (fun hHeld10 => ?_)
        · exact s14 hc hd
        clear hK K hHeld10
        generalize (((((((((X6.setCell ⟨a11, 0, none⟩ (.int .i64 (k : Int))).setCell ⟨a11, 1, none⟩ (.int .i64 (G 0))).setCell ⟨a11, 2, none⟩ (.int .i64 (G 1))).setCell ⟨a11, 3, none⟩ (.int .i64 (G 2))).setCell ⟨a11, 4, none⟩ (.int .i64 (G 3))).setCell ⟨a11, 5, none⟩ (.int .i64 (G 4))).setCell ⟨a11, 6, none⟩ (.int .i64 (G 5))).setCell ⟨a11, 7, none⟩ (.int .i64 (domL (mv G k) : Nat))).setCell ⟨a11, 8, none⟩ (.int .i64 (imN k G : Nat))) = X7 at *
        try simp only [Act.put, List.setIfInBounds_toArray, List.set_cons_zero, List.set_cons_succ]
        refine wpAnyH_done (by kernel_rfl) ?_ _
        exact HK.out _ a10 a11 hA10 hA11 hr4 hr5 (by omega) (by omega) (by omega) hB
      refine AllReadyH.cons (o := _) (by rw [List.getElem?_toArray]; rfl) (fun K hK => ?_) ?_
      · go_simp
        have hsz : b7 + 2 ≤ V1.heap.size := by have := hd.lt; omega
        replace hc := hc.alloc (.cells #[.int .i64 0, .int .i64 0, .int .i64 0, .int .i64 0, .int .i64 0, .int .i64 0, .int .i64 0, .int .i64 0, .int .i64 0] 40)
        replace hd := hd.alloc (.cells #[.int .i64 0, .int .i64 0, .int .i64 0, .int .i64 0, .int .i64 0, .int .i64 0, .int .i64 0, .int .i64 0, .int .i64 0] 40)
        replace hr4 := hr4.alloc (.cells #[.int .i64 0, .int .i64 0, .int .i64 0, .int .i64 0, .int .i64 0, .int .i64 0, .int .i64 0, .int .i64 0, .int .i64 0] 40)
        replace hr5 := hr5.alloc (.cells #[.int .i64 0, .int .i64 0, .int .i64 0, .int .i64 0, .int .i64 0, .int .i64 0, .int .i64 0, .int .i64 0, .int .i64 0] 40)
        replace hB := hB.alloc hB.size (.cells #[.int .i64 0, .int .i64 0, .int .i64 0, .int .i64 0, .int .i64 0, .int .i64 0, .int .i64 0, .int .i64 0, .int .i64 0] 40)
        have hA10 := Blk.new V1 40 #[.int .i64 0, .int .i64 0, .int .i64 0, .int .i64 0, .int .i64 0, .int .i64 0, .int .i64 0, .int .i64 0, .int .i64 0]
        refine hK.out _ _ ?_ (fun hHeld11 => ?_)
        · exact s14 hc hd
        clear hK K hHeld11
        generalize V1.alloc (.cells #[.int .i64 0, .int .i64 0, .int .i64 0, .int .i64 0, .int .i64 0, .int .i64 0, .int .i64 0, .int .i64 0, .int .i64 0] 40) = U10V1 at *
        generalize V1.heap.size = a10 at *
        try simp only [Act.put, List.setIfInBounds_toArray, List.set_cons_zero, List.set_cons_succ]
        refine wpAnyH_ready (rs := [3, 5]) (by kernel_rfl) (by simp) ?_
        refine AllReadyH.cons (o := _) (by rw [List.getElem?_toArray]; rfl) (fun K hK => ?_) ?_
        · go_simp
          refine (arrowOf_any k hk G hG _).mono ?_
          rintro e V2 ⟨rfl, hb1⟩
          replace hc := cb_keep hb1 hc rfl
          replace hd := cb_keep hb1 hd rfl
          replace hr4 := blk_keep hb1 hr4 rfl
          replace hr5 := blk_keep hb1 hr5 rfl
          replace hA10 := blk_keep hb1 hA10 rfl
          replace hB := bel_keep hb1 hB rfl rfl rfl rfl hB.size
          clear hb1
          refine hK.out _ _ ?_ (fun hHeld12 => ?_)
          · exact s14 hc hd
          clear hK K hHeld12
          try simp only [Act.put, List.setIfInBounds_toArray, List.set_cons_zero, List.set_cons_succ]
          refine wpAnyH_ready (rs := [5]) (by kernel_rfl) (by simp) ?_
          refine AllReadyH.cons (o := _) (by rw [List.getElem?_toArray]; rfl) (fun K hK => ?_) AllReadyH.nil
          go_simp
          have hsz : b7 + 2 ≤ V2.heap.size := by have := hd.lt; omega
          have hne := hA10.lt
          replace hA10 := hA10.alloc (.cells #[.int .i64 0, .int .i64 0, .int .i64 0, .int .i64 0, .int .i64 0, .int .i64 0, .int .i64 0, .int .i64 0, .int .i64 0] 40)
          replace hc := hc.alloc (.cells #[.int .i64 0, .int .i64 0, .int .i64 0, .int .i64 0, .int .i64 0, .int .i64 0, .int .i64 0, .int .i64 0, .int .i64 0] 40)
          replace hd := hd.alloc (.cells #[.int .i64 0, .int .i64 0, .int .i64 0, .int .i64 0, .int .i64 0, .int .i64 0, .int .i64 0, .int .i64 0, .int .i64 0] 40)
          replace hr4 := hr4.alloc (.cells #[.int .i64 0, .int .i64 0, .int .i64 0, .int .i64 0, .int .i64 0, .int .i64 0, .int .i64 0, .int .i64 0, .int .i64 0] 40)
          replace hr5 := hr5.alloc (.cells #[.int .i64 0, .int .i64 0, .int .i64 0, .int .i64 0, .int .i64 0, .int .i64 0, .int .i64 0, .int .i64 0, .int .i64 0] 40)
          replace hB := hB.alloc hB.size (.cells #[.int .i64 0, .int .i64 0, .int .i64 0, .int .i64 0, .int .i64 0, .int .i64 0, .int .i64 0, .int .i64 0, .int .i64 0] 40)
          have hA11 := Blk.new V2 40 #[.int .i64 0, .int .i64 0, .int .i64 0, .int .i64 0, .int .i64 0, .int .i64 0, .int .i64 0, .int .i64 0, .int .i64 0]
          refine hK.out _ _ ?_ (fun hHeld13 => ?_)
          · exact s14 hc hd
          clear hK K hHeld13
          generalize V2.alloc (.cells #[.int .i64 0, .int .i64 0, .int .i64 0, .int .i64 0, .int .i64 0, .int .i64 0, .int .i64 0, .int .i64 0, .int .i64 0] 40) = U11V2 at *
          generalize V2.heap.size = a11 at *
          try simp only [Act.put, List.setIfInBounds_toArray, List.set_cons_zero, List.set_cons_succ]
          refine wpAnyH_ready (rs := [6]) (by kernel_rfl) (by simp) ?_
          refine AllReadyH.cons (o := _) (by rw [List.getElem?_toArray]; rfl) (fun K hK => ?_) AllReadyH.nil
          have hq := b9 hA10
          have q0 := hq.1
          have q1 := hq.2.1
          have q2 := hq.2.2.1
          have q3 := hq.2.2.2.1
          have q4 := hq.2.2.2.2.1
          have q5 := hq.2.2.2.2.2.1
          have q6 := hq.2.2.2.2.2.2.1
          have q7 := hq.2.2.2.2.2.2.2.1
          have q8 := hq.2.2.2.2.2.2.2.2.1
          have f0 := hq.2.2.2.2.2.2.2.2.2.1
          have f1 := hq.2.2.2.2.2.2.2.2.2.2.1
          have f2 := hq.2.2.2.2.2.2.2.2.2.2.2.1
          have f3 := hq.2.2.2.2.2.2.2.2.2.2.2.2.1
          have f4 := hq.2.2.2.2.2.2.2.2.2.2.2.2.2.1
          have f5 := hq.2.2.2.2.2.2.2.2.2.2.2.2.2.2.1
          have f6 := hq.2.2.2.2.2.2.2.2.2.2.2.2.2.2.2.1
          have f7 := hq.2.2.2.2.2.2.2.2.2.2.2.2.2.2.2.2.1
          have f8 := hq.2.2.2.2.2.2.2.2.2.2.2.2.2.2.2.2.2.1
          have hlt := hq.2.2.2.2.2.2.2.2.2.2.2.2.2.2.2.2.2.2
          clear hq
          go_simp
          replace hc := cb_far9 hc (show b7 ≠ a10 by omega) (.int .i64 (k : Int)) (.int .i64 (T 0)) (.int .i64 (T 1)) (.int .i64 (T 2)) (.int .i64 (T 3)) (.int .i64 (T 4)) (.int .i64 (T 5)) (.int .i64 (domL (mv T k) : Nat)) (.int .i64 (imN k T : Nat))
          replace hd := cb_far9 hd (show b7 + 1 ≠ a10 by omega) (.int .i64 (k : Int)) (.int .i64 (T 0)) (.int .i64 (T 1)) (.int .i64 (T 2)) (.int .i64 (T 3)) (.int .i64 (T 4)) (.int .i64 (T 5)) (.int .i64 (domL (mv T k) : Nat)) (.int .i64 (imN k T : Nat))
          replace hr4 := blk_far9 hr4 (show w.heap.size ≠ a10 by omega) (.int .i64 (k : Int)) (.int .i64 (T 0)) (.int .i64 (T 1)) (.int .i64 (T 2)) (.int .i64 (T 3)) (.int .i64 (T 4)) (.int .i64 (T 5)) (.int .i64 (domL (mv T k) : Nat)) (.int .i64 (imN k T : Nat))
          replace hr5 := blk_far9 hr5 (show w.heap.size + 1 ≠ a10 by omega) (.int .i64 (k : Int)) (.int .i64 (T 0)) (.int .i64 (T 1)) (.int .i64 (T 2)) (.int .i64 (T 3)) (.int .i64 (T 4)) (.int .i64 (T 5)) (.int .i64 (domL (mv T k) : Nat)) (.int .i64 (imN k T : Nat))
          replace hA11 := blk_far9 hA11 (show a11 ≠ a10 by omega) (.int .i64 (k : Int)) (.int .i64 (T 0)) (.int .i64 (T 1)) (.int .i64 (T 2)) (.int .i64 (T 3)) (.int .i64 (T 4)) (.int .i64 (T 5)) (.int .i64 (domL (mv T k) : Nat)) (.int .i64 (imN k T : Nat))
          replace hA10 := blk_put9 hA10 (.int .i64 (k : Int)) (.int .i64 (T 0)) (.int .i64 (T 1)) (.int .i64 (T 2)) (.int .i64 (T 3)) (.int .i64 (T 4)) (.int .i64 (T 5)) (.int .i64 (domL (mv T k) : Nat)) (.int .i64 (imN k T : Nat))
          replace hB := bel_put9 hB (show w.heap.size ≤ a10 by omega) (.int .i64 (k : Int)) (.int .i64 (T 0)) (.int .i64 (T 1)) (.int .i64 (T 2)) (.int .i64 (T 3)) (.int .i64 (T 4)) (.int .i64 (T 5)) (.int .i64 (domL (mv T k) : Nat)) (.int .i64 (imN k T : Nat))
          clear q0 q1 q2 q3 q4 q5 q6 q7 q8 f0 f1 f2 f3 f4 f5 f6 f7 f8 hlt
          refine hK.out _ _ ?_ (fun hHeld14 => ?_)
          · exact s14 hc hd
          clear hK K hHeld14
          generalize (((((((((U11V2.setCell ⟨a10, 0, none⟩ (.int .i64 (k : Int))).setCell ⟨a10, 1, none⟩ (.int .i64 (T 0))).setCell ⟨a10, 2, none⟩ (.int .i64 (T 1))).setCell ⟨a10, 3, none⟩ (.int .i64 (T 2))).setCell ⟨a10, 4, none⟩ (.int .i64 (T 3))).setCell ⟨a10, 5, none⟩ (.int .i64 (T 4))).setCell ⟨a10, 6, none⟩ (.int .i64 (T 5))).setCell ⟨a10, 7, none⟩ (.int .i64 (domL (mv T k) : Nat))).setCell ⟨a10, 8, none⟩ (.int .i64 (imN k T : Nat))) = X6 at *
          try simp only [Act.put, List.setIfInBounds_toArray, List.set_cons_zero, List.set_cons_succ]
          refine wpAnyH_ready (rs := [7]) (by kernel_rfl) (by simp) ?_
          refine AllReadyH.cons (o := _) (by rw [List.getElem?_toArray]; rfl) (fun K hK => ?_) AllReadyH.nil
          have hq := b9 hA11
          have q0 := hq.1
          have q1 := hq.2.1
          have q2 := hq.2.2.1
          have q3 := hq.2.2.2.1
          have q4 := hq.2.2.2.2.1
          have q5 := hq.2.2.2.2.2.1
          have q6 := hq.2.2.2.2.2.2.1
          have q7 := hq.2.2.2.2.2.2.2.1
          have q8 := hq.2.2.2.2.2.2.2.2.1
          have f0 := hq.2.2.2.2.2.2.2.2.2.1
          have f1 := hq.2.2.2.2.2.2.2.2.2.2.1
          have f2 := hq.2.2.2.2.2.2.2.2.2.2.2.1
          have f3 := hq.2.2.2.2.2.2.2.2.2.2.2.2.1
          have f4 := hq.2.2.2.2.2.2.2.2.2.2.2.2.2.1
          have f5 := hq.2.2.2.2.2.2.2.2.2.2.2.2.2.2.1
          have f6 := hq.2.2.2.2.2.2.2.2.2.2.2.2.2.2.2.1
          have f7 := hq.2.2.2.2.2.2.2.2.2.2.2.2.2.2.2.2.1
          have f8 := hq.2.2.2.2.2.2.2.2.2.2.2.2.2.2.2.2.2.1
          have hlt := hq.2.2.2.2.2.2.2.2.2.2.2.2.2.2.2.2.2.2
          clear hq
          go_simp
          replace hc := cb_far9 hc (show b7 ≠ a11 by omega) (.int .i64 (k : Int)) (.int .i64 (G 0)) (.int .i64 (G 1)) (.int .i64 (G 2)) (.int .i64 (G 3)) (.int .i64 (G 4)) (.int .i64 (G 5)) (.int .i64 (domL (mv G k) : Nat)) (.int .i64 (imN k G : Nat))
          replace hd := cb_far9 hd (show b7 + 1 ≠ a11 by omega) (.int .i64 (k : Int)) (.int .i64 (G 0)) (.int .i64 (G 1)) (.int .i64 (G 2)) (.int .i64 (G 3)) (.int .i64 (G 4)) (.int .i64 (G 5)) (.int .i64 (domL (mv G k) : Nat)) (.int .i64 (imN k G : Nat))
          replace hr4 := blk_far9 hr4 (show w.heap.size ≠ a11 by omega) (.int .i64 (k : Int)) (.int .i64 (G 0)) (.int .i64 (G 1)) (.int .i64 (G 2)) (.int .i64 (G 3)) (.int .i64 (G 4)) (.int .i64 (G 5)) (.int .i64 (domL (mv G k) : Nat)) (.int .i64 (imN k G : Nat))
          replace hr5 := blk_far9 hr5 (show w.heap.size + 1 ≠ a11 by omega) (.int .i64 (k : Int)) (.int .i64 (G 0)) (.int .i64 (G 1)) (.int .i64 (G 2)) (.int .i64 (G 3)) (.int .i64 (G 4)) (.int .i64 (G 5)) (.int .i64 (domL (mv G k) : Nat)) (.int .i64 (imN k G : Nat))
          replace hA10 := blk_far9 hA10 (show a10 ≠ a11 by omega) (.int .i64 (k : Int)) (.int .i64 (G 0)) (.int .i64 (G 1)) (.int .i64 (G 2)) (.int .i64 (G 3)) (.int .i64 (G 4)) (.int .i64 (G 5)) (.int .i64 (domL (mv G k) : Nat)) (.int .i64 (imN k G : Nat))
          replace hA11 := blk_put9 hA11 (.int .i64 (k : Int)) (.int .i64 (G 0)) (.int .i64 (G 1)) (.int .i64 (G 2)) (.int .i64 (G 3)) (.int .i64 (G 4)) (.int .i64 (G 5)) (.int .i64 (domL (mv G k) : Nat)) (.int .i64 (imN k G : Nat))
          replace hB := bel_put9 hB (show w.heap.size ≤ a11 by omega) (.int .i64 (k : Int)) (.int .i64 (G 0)) (.int .i64 (G 1)) (.int .i64 (G 2)) (.int .i64 (G 3)) (.int .i64 (G 4)) (.int .i64 (G 5)) (.int .i64 (domL (mv G k) : Nat)) (.int .i64 (imN k G : Nat))
          clear q0 q1 q2 q3 q4 q5 q6 q7 q8 f0 f1 f2 f3 f4 f5 f6 f7 f8 hlt
          refine hK.out _ _ ?_ (fun hHeld15 => ?_)
          · exact s14 hc hd
          clear hK K hHeld15
          generalize (((((((((X6.setCell ⟨a11, 0, none⟩ (.int .i64 (k : Int))).setCell ⟨a11, 1, none⟩ (.int .i64 (G 0))).setCell ⟨a11, 2, none⟩ (.int .i64 (G 1))).setCell ⟨a11, 3, none⟩ (.int .i64 (G 2))).setCell ⟨a11, 4, none⟩ (.int .i64 (G 3))).setCell ⟨a11, 5, none⟩ (.int .i64 (G 4))).setCell ⟨a11, 6, none⟩ (.int .i64 (G 5))).setCell ⟨a11, 7, none⟩ (.int .i64 (domL (mv G k) : Nat))).setCell ⟨a11, 8, none⟩ (.int .i64 (imN k G : Nat))) = X7 at *
          try simp only [Act.put, List.setIfInBounds_toArray, List.set_cons_zero, List.set_cons_succ]
          refine wpAnyH_done (by kernel_rfl) ?_ _
          exact HK.out _ a10 a11 hA10 hA11 hr4 hr5 (by omega) (by omega) (by omega) hB
        refine AllReadyH.cons (o := _) (by rw [List.getElem?_toArray]; rfl) (fun K hK => ?_) AllReadyH.nil
        go_simp
        have hsz : b7 + 2 ≤ U10V1.heap.size := by have := hd.lt; omega
        have hne := hA10.lt
        replace hA10 := hA10.alloc (.cells #[.int .i64 0, .int .i64 0, .int .i64 0, .int .i64 0, .int .i64 0, .int .i64 0, .int .i64 0, .int .i64 0, .int .i64 0] 40)
        replace hc := hc.alloc (.cells #[.int .i64 0, .int .i64 0, .int .i64 0, .int .i64 0, .int .i64 0, .int .i64 0, .int .i64 0, .int .i64 0, .int .i64 0] 40)
        replace hd := hd.alloc (.cells #[.int .i64 0, .int .i64 0, .int .i64 0, .int .i64 0, .int .i64 0, .int .i64 0, .int .i64 0, .int .i64 0, .int .i64 0] 40)
        replace hr4 := hr4.alloc (.cells #[.int .i64 0, .int .i64 0, .int .i64 0, .int .i64 0, .int .i64 0, .int .i64 0, .int .i64 0, .int .i64 0, .int .i64 0] 40)
        replace hr5 := hr5.alloc (.cells #[.int .i64 0, .int .i64 0, .int .i64 0, .int .i64 0, .int .i64 0, .int .i64 0, .int .i64 0, .int .i64 0, .int .i64 0] 40)
        replace hB := hB.alloc hB.size (.cells #[.int .i64 0, .int .i64 0, .int .i64 0, .int .i64 0, .int .i64 0, .int .i64 0, .int .i64 0, .int .i64 0, .int .i64 0] 40)
        have hA11 := Blk.new U10V1 40 #[.int .i64 0, .int .i64 0, .int .i64 0, .int .i64 0, .int .i64 0, .int .i64 0, .int .i64 0, .int .i64 0, .int .i64 0]
        refine hK.out _ _ ?_ (fun hHeld16 => ?_)
        · exact s14 hc hd
        clear hK K hHeld16
        generalize U10V1.alloc (.cells #[.int .i64 0, .int .i64 0, .int .i64 0, .int .i64 0, .int .i64 0, .int .i64 0, .int .i64 0, .int .i64 0, .int .i64 0] 40) = U11U10V1 at *
        generalize U10V1.heap.size = a11 at *
        try simp only [Act.put, List.setIfInBounds_toArray, List.set_cons_zero, List.set_cons_succ]
        refine wpAnyH_ready (rs := [3]) (by kernel_rfl) (by simp) ?_
        refine AllReadyH.cons (o := _) (by rw [List.getElem?_toArray]; rfl) (fun K hK => ?_) AllReadyH.nil
        go_simp
        refine (arrowOf_any k hk G hG _).mono ?_
        rintro e V2 ⟨rfl, hb1⟩
        replace hc := cb_keep hb1 hc rfl
        replace hd := cb_keep hb1 hd rfl
        replace hr4 := blk_keep hb1 hr4 rfl
        replace hr5 := blk_keep hb1 hr5 rfl
        replace hA10 := blk_keep hb1 hA10 rfl
        replace hA11 := blk_keep hb1 hA11 rfl
        replace hB := bel_keep hb1 hB rfl rfl rfl rfl hB.size
        clear hb1
        refine hK.out _ _ ?_ (fun hHeld17 => ?_)
        · exact s14 hc hd
        clear hK K hHeld17
        try simp only [Act.put, List.setIfInBounds_toArray, List.set_cons_zero, List.set_cons_succ]
        refine wpAnyH_ready (rs := [6]) (by kernel_rfl) (by simp) ?_
        refine AllReadyH.cons (o := _) (by rw [List.getElem?_toArray]; rfl) (fun K hK => ?_) AllReadyH.nil
        have hq := b9 hA10
        have q0 := hq.1
        have q1 := hq.2.1
        have q2 := hq.2.2.1
        have q3 := hq.2.2.2.1
        have q4 := hq.2.2.2.2.1
        have q5 := hq.2.2.2.2.2.1
        have q6 := hq.2.2.2.2.2.2.1
        have q7 := hq.2.2.2.2.2.2.2.1
        have q8 := hq.2.2.2.2.2.2.2.2.1
        have f0 := hq.2.2.2.2.2.2.2.2.2.1
        have f1 := hq.2.2.2.2.2.2.2.2.2.2.1
        have f2 := hq.2.2.2.2.2.2.2.2.2.2.2.1
        have f3 := hq.2.2.2.2.2.2.2.2.2.2.2.2.1
        have f4 := hq.2.2.2.2.2.2.2.2.2.2.2.2.2.1
        have f5 := hq.2.2.2.2.2.2.2.2.2.2.2.2.2.2.1
        have f6 := hq.2.2.2.2.2.2.2.2.2.2.2.2.2.2.2.1
        have f7 := hq.2.2.2.2.2.2.2.2.2.2.2.2.2.2.2.2.1
        have f8 := hq.2.2.2.2.2.2.2.2.2.2.2.2.2.2.2.2.2.1
        have hlt := hq.2.2.2.2.2.2.2.2.2.2.2.2.2.2.2.2.2.2
        clear hq
        go_simp
        replace hc := cb_far9 hc (show b7 ≠ a10 by omega) (.int .i64 (k : Int)) (.int .i64 (T 0)) (.int .i64 (T 1)) (.int .i64 (T 2)) (.int .i64 (T 3)) (.int .i64 (T 4)) (.int .i64 (T 5)) (.int .i64 (domL (mv T k) : Nat)) (.int .i64 (imN k T : Nat))
        replace hd := cb_far9 hd (show b7 + 1 ≠ a10 by omega) (.int .i64 (k : Int)) (.int .i64 (T 0)) (.int .i64 (T 1)) (.int .i64 (T 2)) (.int .i64 (T 3)) (.int .i64 (T 4)) (.int .i64 (T 5)) (.int .i64 (domL (mv T k) : Nat)) (.int .i64 (imN k T : Nat))
        replace hr4 := blk_far9 hr4 (show w.heap.size ≠ a10 by omega) (.int .i64 (k : Int)) (.int .i64 (T 0)) (.int .i64 (T 1)) (.int .i64 (T 2)) (.int .i64 (T 3)) (.int .i64 (T 4)) (.int .i64 (T 5)) (.int .i64 (domL (mv T k) : Nat)) (.int .i64 (imN k T : Nat))
        replace hr5 := blk_far9 hr5 (show w.heap.size + 1 ≠ a10 by omega) (.int .i64 (k : Int)) (.int .i64 (T 0)) (.int .i64 (T 1)) (.int .i64 (T 2)) (.int .i64 (T 3)) (.int .i64 (T 4)) (.int .i64 (T 5)) (.int .i64 (domL (mv T k) : Nat)) (.int .i64 (imN k T : Nat))
        replace hA11 := blk_far9 hA11 (show a11 ≠ a10 by omega) (.int .i64 (k : Int)) (.int .i64 (T 0)) (.int .i64 (T 1)) (.int .i64 (T 2)) (.int .i64 (T 3)) (.int .i64 (T 4)) (.int .i64 (T 5)) (.int .i64 (domL (mv T k) : Nat)) (.int .i64 (imN k T : Nat))
        replace hA10 := blk_put9 hA10 (.int .i64 (k : Int)) (.int .i64 (T 0)) (.int .i64 (T 1)) (.int .i64 (T 2)) (.int .i64 (T 3)) (.int .i64 (T 4)) (.int .i64 (T 5)) (.int .i64 (domL (mv T k) : Nat)) (.int .i64 (imN k T : Nat))
        replace hB := bel_put9 hB (show w.heap.size ≤ a10 by omega) (.int .i64 (k : Int)) (.int .i64 (T 0)) (.int .i64 (T 1)) (.int .i64 (T 2)) (.int .i64 (T 3)) (.int .i64 (T 4)) (.int .i64 (T 5)) (.int .i64 (domL (mv T k) : Nat)) (.int .i64 (imN k T : Nat))
        clear q0 q1 q2 q3 q4 q5 q6 q7 q8 f0 f1 f2 f3 f4 f5 f6 f7 f8 hlt
        refine hK.out _ _ ?_ (fun hHeld18 => ?_)
        · exact s14 hc hd
        clear hK K hHeld18
        generalize (((((((((V2.setCell ⟨a10, 0, none⟩ (.int .i64 (k : Int))).setCell ⟨a10, 1, none⟩ (.int .i64 (T 0))).setCell ⟨a10, 2, none⟩ (.int .i64 (T 1))).setCell ⟨a10, 3, none⟩ (.int .i64 (T 2))).setCell ⟨a10, 4, none⟩ (.int .i64 (T 3))).setCell ⟨a10, 5, none⟩ (.int .i64 (T 4))).setCell ⟨a10, 6, none⟩ (.int .i64 (T 5))).setCell ⟨a10, 7, none⟩ (.int .i64 (domL (mv T k) : Nat))).setCell ⟨a10, 8, none⟩ (.int .i64 (imN k T : Nat))) = X6 at *
        try simp only [Act.put, List.setIfInBounds_toArray, List.set_cons_zero, List.set_cons_succ]
        refine wpAnyH_ready (rs := [7]) (by kernel_rfl) (by simp) ?_
        refine AllReadyH.cons (o := _) (by rw [List.getElem?_toArray]; rfl) (fun K hK => ?_) AllReadyH.nil
        have hq := b9 hA11
        have q0 := hq.1
        have q1 := hq.2.1
        have q2 := hq.2.2.1
        have q3 := hq.2.2.2.1
        have q4 := hq.2.2.2.2.1
        have q5 := hq.2.2.2.2.2.1
        have q6 := hq.2.2.2.2.2.2.1
        have q7 := hq.2.2.2.2.2.2.2.1
        have q8 := hq.2.2.2.2.2.2.2.2.1
        have f0 := hq.2.2.2.2.2.2.2.2.2.1
        have f1 := hq.2.2.2.2.2.2.2.2.2.2.1
        have f2 := hq.2.2.2.2.2.2.2.2.2.2.2.1
        have f3 := hq.2.2.2.2.2.2.2.2.2.2.2.2.1
        have f4 := hq.2.2.2.2.2.2.2.2.2.2.2.2.2.1
        have f5 := hq.2.2.2.2.2.2.2.2.2.2.2.2.2.2.1
        have f6 := hq.2.2.2.2.2.2.2.2.2.2.2.2.2.2.2.1
        have f7 := hq.2.2.2.2.2.2.2.2.2.2.2.2.2.2.2.2.1
        have f8 := hq.2.2.2.2.2.2.2.2.2.2.2.2.2.2.2.2.2.1
        have hlt := hq.2.2.2.2.2.2.2.2.2.2.2.2.2.2.2.2.2.2
        clear hq
        go_simp
        replace hc := cb_far9 hc (show b7 ≠ a11 by omega) (.int .i64 (k : Int)) (.int .i64 (G 0)) (.int .i64 (G 1)) (.int .i64 (G 2)) (.int .i64 (G 3)) (.int .i64 (G 4)) (.int .i64 (G 5)) (.int .i64 (domL (mv G k) : Nat)) (.int .i64 (imN k G : Nat))
        replace hd := cb_far9 hd (show b7 + 1 ≠ a11 by omega) (.int .i64 (k : Int)) (.int .i64 (G 0)) (.int .i64 (G 1)) (.int .i64 (G 2)) (.int .i64 (G 3)) (.int .i64 (G 4)) (.int .i64 (G 5)) (.int .i64 (domL (mv G k) : Nat)) (.int .i64 (imN k G : Nat))
        replace hr4 := blk_far9 hr4 (show w.heap.size ≠ a11 by omega) (.int .i64 (k : Int)) (.int .i64 (G 0)) (.int .i64 (G 1)) (.int .i64 (G 2)) (.int .i64 (G 3)) (.int .i64 (G 4)) (.int .i64 (G 5)) (.int .i64 (domL (mv G k) : Nat)) (.int .i64 (imN k G : Nat))
        replace hr5 := blk_far9 hr5 (show w.heap.size + 1 ≠ a11 by omega) (.int .i64 (k : Int)) (.int .i64 (G 0)) (.int .i64 (G 1)) (.int .i64 (G 2)) (.int .i64 (G 3)) (.int .i64 (G 4)) (.int .i64 (G 5)) (.int .i64 (domL (mv G k) : Nat)) (.int .i64 (imN k G : Nat))
        replace hA10 := blk_far9 hA10 (show a10 ≠ a11 by omega) (.int .i64 (k : Int)) (.int .i64 (G 0)) (.int .i64 (G 1)) (.int .i64 (G 2)) (.int .i64 (G 3)) (.int .i64 (G 4)) (.int .i64 (G 5)) (.int .i64 (domL (mv G k) : Nat)) (.int .i64 (imN k G : Nat))
        replace hA11 := blk_put9 hA11 (.int .i64 (k : Int)) (.int .i64 (G 0)) (.int .i64 (G 1)) (.int .i64 (G 2)) (.int .i64 (G 3)) (.int .i64 (G 4)) (.int .i64 (G 5)) (.int .i64 (domL (mv G k) : Nat)) (.int .i64 (imN k G : Nat))
        replace hB := bel_put9 hB (show w.heap.size ≤ a11 by omega) (.int .i64 (k : Int)) (.int .i64 (G 0)) (.int .i64 (G 1)) (.int .i64 (G 2)) (.int .i64 (G 3)) (.int .i64 (G 4)) (.int .i64 (G 5)) (.int .i64 (domL (mv G k) : Nat)) (.int .i64 (imN k G : Nat))
        clear q0 q1 q2 q3 q4 q5 q6 q7 q8 f0 f1 f2 f3 f4 f5 f6 f7 f8 hlt
        refine hK.out _ _ ?_ (fun hHeld19 => ?_)
        · exact s14 hc hd
        clear hK K hHeld19
        generalize (((((((((X6.setCell ⟨a11, 0, none⟩ (.int .i64 (k : Int))).setCell ⟨a11, 1, none⟩ (.int .i64 (G 0))).setCell ⟨a11, 2, none⟩ (.int .i64 (G 1))).setCell ⟨a11, 3, none⟩ (.int .i64 (G 2))).setCell ⟨a11, 4, none⟩ (.int .i64 (G 3))).setCell ⟨a11, 5, none⟩ (.int .i64 (G 4))).setCell ⟨a11, 6, none⟩ (.int .i64 (G 5))).setCell ⟨a11, 7, none⟩ (.int .i64 (domL (mv G k) : Nat))).setCell ⟨a11, 8, none⟩ (.int .i64 (imN k G : Nat))) = X7 at *
        try simp only [Act.put, List.setIfInBounds_toArray, List.set_cons_zero, List.set_cons_succ]
        refine wpAnyH_done (by kernel_rfl) ?_ _
        exact HK.out _ a10 a11 hA10 hA11 hr4 hr5 (by omega) (by omega) (by omega) hB
      refine AllReadyH.cons (o := _) (by rw [List.getElem?_toArray]; rfl) (fun K hK => ?_) AllReadyH.nil
      go_simp
      have hsz : b7 + 2 ≤ V1.heap.size := by have := hd.lt; omega
      replace hc := hc.alloc (.cells #[.int .i64 0, .int .i64 0, .int .i64 0, .int .i64 0, .int .i64 0, .int .i64 0, .int .i64 0, .int .i64 0, .int .i64 0] 40)
      replace hd := hd.alloc (.cells #[.int .i64 0, .int .i64 0, .int .i64 0, .int .i64 0, .int .i64 0, .int .i64 0, .int .i64 0, .int .i64 0, .int .i64 0] 40)
      replace hr4 := hr4.alloc (.cells #[.int .i64 0, .int .i64 0, .int .i64 0, .int .i64 0, .int .i64 0, .int .i64 0, .int .i64 0, .int .i64 0, .int .i64 0] 40)
      replace hr5 := hr5.alloc (.cells #[.int .i64 0, .int .i64 0, .int .i64 0, .int .i64 0, .int .i64 0, .int .i64 0, .int .i64 0, .int .i64 0, .int .i64 0] 40)
      replace hB := hB.alloc hB.size (.cells #[.int .i64 0, .int .i64 0, .int .i64 0, .int .i64 0, .int .i64 0, .int .i64 0, .int .i64 0, .int .i64 0, .int .i64 0] 40)
      have hA11 := Blk.new V1 40 #[.int .i64 0, .int .i64 0, .int .i64 0, .int .i64 0, .int .i64 0, .int .i64 0, .int .i64 0, .int .i64 0, .int .i64 0]
      refine hK.out _ _ ?_ (fun hHeld20 => ?_)
      · exact s14 hc hd
      clear hK K hHeld20
      generalize V1.alloc (.cells #[.int .i64 0, .int .i64 0, .int .i64 0, .int .i64 0, .int .i64 0, .int .i64 0, .int .i64 0, .int .i64 0, .int .i64 0] 40) = U11V1 at *
      generalize V1.heap.size = a11 at *
      try simp only [Act.put, List.setIfInBounds_toArray, List.set_cons_zero, List.set_cons_succ]
      refine wpAnyH_ready (rs := [3, 4]) (by kernel_rfl) (by simp) ?_
      refine AllReadyH.cons (o := _) (by rw [List.getElem?_toArray]; rfl) (fun K hK => ?_) ?_
      · go_simp
        refine (arrowOf_any k hk G hG _).mono ?_
        rintro e V2 ⟨rfl, hb1⟩
        replace hc := cb_keep hb1 hc rfl
        replace hd := cb_keep hb1 hd rfl
        replace hr4 := blk_keep hb1 hr4 rfl
        replace hr5 := blk_keep hb1 hr5 rfl
        replace hA11 := blk_keep hb1 hA11 rfl
        replace hB := bel_keep hb1 hB rfl rfl rfl rfl hB.size
        clear hb1
        refine hK.out _ _ ?_ (fun hHeld21 => ?_)
        · exact s14 hc hd
        clear hK K hHeld21
        try simp only [Act.put, List.setIfInBounds_toArray, List.set_cons_zero, List.set_cons_succ]
        refine wpAnyH_ready (rs := [4]) (by kernel_rfl) (by simp) ?_
        refine AllReadyH.cons (o := _) (by rw [List.getElem?_toArray]; rfl) (fun K hK => ?_) AllReadyH.nil
        go_simp
        have hsz : b7 + 2 ≤ V2.heap.size := by have := hd.lt; omega
        have hne := hA11.lt
        replace hA11 := hA11.alloc (.cells #[.int .i64 0, .int .i64 0, .int .i64 0, .int .i64 0, .int .i64 0, .int .i64 0, .int .i64 0, .int .i64 0, .int .i64 0] 40)
        replace hc := hc.alloc (.cells #[.int .i64 0, .int .i64 0, .int .i64 0, .int .i64 0, .int .i64 0, .int .i64 0, .int .i64 0, .int .i64 0, .int .i64 0] 40)
        replace hd := hd.alloc (.cells #[.int .i64 0, .int .i64 0, .int .i64 0, .int .i64 0, .int .i64 0, .int .i64 0, .int .i64 0, .int .i64 0, .int .i64 0] 40)
        replace hr4 := hr4.alloc (.cells #[.int .i64 0, .int .i64 0, .int .i64 0, .int .i64 0, .int .i64 0, .int .i64 0, .int .i64 0, .int .i64 0, .int .i64 0] 40)
        replace hr5 := hr5.alloc (.cells #[.int .i64 0, .int .i64 0, .int .i64 0, .int .i64 0, .int .i64 0, .int .i64 0, .int .i64 0, .int .i64 0, .int .i64 0] 40)
        replace hB := hB.alloc hB.size (.cells #[.int .i64 0, .int .i64 0, .int .i64 0, .int .i64 0, .int .i64 0, .int .i64 0, .int .i64 0, .int .i64 0, .int .i64 0] 40)
        have hA10 := Blk.new V2 40 #[.int .i64 0, .int .i64 0, .int .i64 0, .int .i64 0, .int .i64 0, .int .i64 0, .int .i64 0, .int .i64 0, .int .i64 0]
        refine hK.out _ _ ?_ (fun hHeld22 => ?_)
        · exact s14 hc hd
        clear hK K hHeld22
        generalize V2.alloc (.cells #[.int .i64 0, .int .i64 0, .int .i64 0, .int .i64 0, .int .i64 0, .int .i64 0, .int .i64 0, .int .i64 0, .int .i64 0] 40) = U10V2 at *
        generalize V2.heap.size = a10 at *
        try simp only [Act.put, List.setIfInBounds_toArray, List.set_cons_zero, List.set_cons_succ]
        refine wpAnyH_ready (rs := [6]) (by kernel_rfl) (by simp) ?_
        refine AllReadyH.cons (o := _) (by rw [List.getElem?_toArray]; rfl) (fun K hK => ?_) AllReadyH.nil
        have hq := b9 hA10
        have q0 := hq.1
        have q1 := hq.2.1
        have q2 := hq.2.2.1
        have q3 := hq.2.2.2.1
        have q4 := hq.2.2.2.2.1
        have q5 := hq.2.2.2.2.2.1
        have q6 := hq.2.2.2.2.2.2.1
        have q7 := hq.2.2.2.2.2.2.2.1
        have q8 := hq.2.2.2.2.2.2.2.2.1
        have f0 := hq.2.2.2.2.2.2.2.2.2.1
        have f1 := hq.2.2.2.2.2.2.2.2.2.2.1
        have f2 := hq.2.2.2.2.2.2.2.2.2.2.2.1
        have f3 := hq.2.2.2.2.2.2.2.2.2.2.2.2.1
        have f4 := hq.2.2.2.2.2.2.2.2.2.2.2.2.2.1
        have f5 := hq.2.2.2.2.2.2.2.2.2.2.2.2.2.2.1
        have f6 := hq.2.2.2.2.2.2.2.2.2.2.2.2.2.2.2.1
        have f7 := hq.2.2.2.2.2.2.2.2.2.2.2.2.2.2.2.2.1
        have f8 := hq.2.2.2.2.2.2.2.2.2.2.2.2.2.2.2.2.2.1
        have hlt := hq.2.2.2.2.2.2.2.2.2.2.2.2.2.2.2.2.2.2
        clear hq
        go_simp
        replace hc := cb_far9 hc (show b7 ≠ a10 by omega) (.int .i64 (k : Int)) (.int .i64 (T 0)) (.int .i64 (T 1)) (.int .i64 (T 2)) (.int .i64 (T 3)) (.int .i64 (T 4)) (.int .i64 (T 5)) (.int .i64 (domL (mv T k) : Nat)) (.int .i64 (imN k T : Nat))
        replace hd := cb_far9 hd (show b7 + 1 ≠ a10 by omega) (.int .i64 (k : Int)) (.int .i64 (T 0)) (.int .i64 (T 1)) (.int .i64 (T 2)) (.int .i64 (T 3)) (.int .i64 (T 4)) (.int .i64 (T 5)) (.int .i64 (domL (mv T k) : Nat)) (.int .i64 (imN k T : Nat))
        replace hr4 := blk_far9 hr4 (show w.heap.size ≠ a10 by omega) (.int .i64 (k : Int)) (.int .i64 (T 0)) (.int .i64 (T 1)) (.int .i64 (T 2)) (.int .i64 (T 3)) (.int .i64 (T 4)) (.int .i64 (T 5)) (.int .i64 (domL (mv T k) : Nat)) (.int .i64 (imN k T : Nat))
        replace hr5 := blk_far9 hr5 (show w.heap.size + 1 ≠ a10 by omega) (.int .i64 (k : Int)) (.int .i64 (T 0)) (.int .i64 (T 1)) (.int .i64 (T 2)) (.int .i64 (T 3)) (.int .i64 (T 4)) (.int .i64 (T 5)) (.int .i64 (domL (mv T k) : Nat)) (.int .i64 (imN k T : Nat))
        replace hA11 := blk_far9 hA11 (show a11 ≠ a10 by omega) (.int .i64 (k : Int)) (.int .i64 (T 0)) (.int .i64 (T 1)) (.int .i64 (T 2)) (.int .i64 (T 3)) (.int .i64 (T 4)) (.int .i64 (T 5)) (.int .i64 (domL (mv T k) : Nat)) (.int .i64 (imN k T : Nat))
        replace hA10 := blk_put9 hA10 (.int .i64 (k : Int)) (.int .i64 (T 0)) (.int .i64 (T 1)) (.int .i64 (T 2)) (.int .i64 (T 3)) (.int .i64 (T 4)) (.int .i64 (T 5)) (.int .i64 (domL (mv T k) : Nat)) (.int .i64 (imN k T : Nat))
        replace hB := bel_put9 hB (show w.heap.size ≤ a10 by omega) (.int .i64 (k : Int)) (.int .i64 (T 0)) (.int .i64 (T 1)) (.int .i64 (T 2)) (.int .i64 (T 3)) (.int .i64 (T 4)) (.int .i64 (T 5)) (.int .i64 (domL (mv T k) : Nat)) (.int .i64 (imN k T : Nat))
        clear q0 q1 q2 q3 q4 q5 q6 q7 q8 f0 f1 f2 f3 f4 f5 f6 f7 f8 hlt
        refine hK.out _ _ ?_ (fun hHeld23 => ?_)
        · exact s14 hc hd
        clear hK K hHeld23
        generalize (((((((((U10V2.setCell ⟨a10, 0, none⟩ (.int .i64 (k : Int))).setCell ⟨a10, 1, none⟩ (.int .i64 (T 0))).setCell ⟨a10, 2, none⟩ (.int .i64 (T 1))).setCell ⟨a10, 3, none⟩ (.int .i64 (T 2))).setCell ⟨a10, 4, none⟩ (.int .i64 (T 3))).setCell ⟨a10, 5, none⟩ (.int .i64 (T 4))).setCell ⟨a10, 6, none⟩ (.int .i64 (T 5))).setCell ⟨a10, 7, none⟩ (.int .i64 (domL (mv T k) : Nat))).setCell ⟨a10, 8, none⟩ (.int .i64 (imN k T : Nat))) = X6 at *
        try simp only [Act.put, List.setIfInBounds_toArray, List.set_cons_zero, List.set_cons_succ]
        refine wpAnyH_ready (rs := [7]) (by kernel_rfl) (by simp) ?_
        refine AllReadyH.cons (o := _) (by rw [List.getElem?_toArray]; rfl) (fun K hK => ?_) AllReadyH.nil
        have hq := b9 hA11
        have q0 := hq.1
        have q1 := hq.2.1
        have q2 := hq.2.2.1
        have q3 := hq.2.2.2.1
        have q4 := hq.2.2.2.2.1
        have q5 := hq.2.2.2.2.2.1
        have q6 := hq.2.2.2.2.2.2.1
        have q7 := hq.2.2.2.2.2.2.2.1
        have q8 := hq.2.2.2.2.2.2.2.2.1
        have f0 := hq.2.2.2.2.2.2.2.2.2.1
        have f1 := hq.2.2.2.2.2.2.2.2.2.2.1
        have f2 := hq.2.2.2.2.2.2.2.2.2.2.2.1
        have f3 := hq.2.2.2.2.2.2.2.2.2.2.2.2.1
        have f4 := hq.2.2.2.2.2.2.2.2.2.2.2.2.2.1
        have f5 := hq.2.2.2.2.2.2.2.2.2.2.2.2.2.2.1
        have f6 := hq.2.2.2.2.2.2.2.2.2.2.2.2.2.2.2.1
        have f7 := hq.2.2.2.2.2.2.2.2.2.2.2.2.2.2.2.2.1
        have f8 := hq.2.2.2.2.2.2.2.2.2.2.2.2.2.2.2.2.2.1
        have hlt := hq.2.2.2.2.2.2.2.2.2.2.2.2.2.2.2.2.2.2
        clear hq
        go_simp
        replace hc := cb_far9 hc (show b7 ≠ a11 by omega) (.int .i64 (k : Int)) (.int .i64 (G 0)) (.int .i64 (G 1)) (.int .i64 (G 2)) (.int .i64 (G 3)) (.int .i64 (G 4)) (.int .i64 (G 5)) (.int .i64 (domL (mv G k) : Nat)) (.int .i64 (imN k G : Nat))
        replace hd := cb_far9 hd (show b7 + 1 ≠ a11 by omega) (.int .i64 (k : Int)) (.int .i64 (G 0)) (.int .i64 (G 1)) (.int .i64 (G 2)) (.int .i64 (G 3)) (.int .i64 (G 4)) (.int .i64 (G 5)) (.int .i64 (domL (mv G k) : Nat)) (.int .i64 (imN k G : Nat))
        replace hr4 := blk_far9 hr4 (show w.heap.size ≠ a11 by omega) (.int .i64 (k : Int)) (.int .i64 (G 0)) (.int .i64 (G 1)) (.int .i64 (G 2)) (.int .i64 (G 3)) (.int .i64 (G 4)) (.int .i64 (G 5)) (.int .i64 (domL (mv G k) : Nat)) (.int .i64 (imN k G : Nat))
        replace hr5 := blk_far9 hr5 (show w.heap.size + 1 ≠ a11 by omega) (.int .i64 (k : Int)) (.int .i64 (G 0)) (.int .i64 (G 1)) (.int .i64 (G 2)) (.int .i64 (G 3)) (.int .i64 (G 4)) (.int .i64 (G 5)) (.int .i64 (domL (mv G k) : Nat)) (.int .i64 (imN k G : Nat))
        replace hA10 := blk_far9 hA10 (show a10 ≠ a11 by omega) (.int .i64 (k : Int)) (.int .i64 (G 0)) (.int .i64 (G 1)) (.int .i64 (G 2)) (.int .i64 (G 3)) (.int .i64 (G 4)) (.int .i64 (G 5)) (.int .i64 (domL (mv G k) : Nat)) (.int .i64 (imN k G : Nat))
        replace hA11 := blk_put9 hA11 (.int .i64 (k : Int)) (.int .i64 (G 0)) (.int .i64 (G 1)) (.int .i64 (G 2)) (.int .i64 (G 3)) (.int .i64 (G 4)) (.int .i64 (G 5)) (.int .i64 (domL (mv G k) : Nat)) (.int .i64 (imN k G : Nat))
        replace hB := bel_put9 hB (show w.heap.size ≤ a11 by omega) (.int .i64 (k : Int)) (.int .i64 (G 0)) (.int .i64 (G 1)) (.int .i64 (G 2)) (.int .i64 (G 3)) (.int .i64 (G 4)) (.int .i64 (G 5)) (.int .i64 (domL (mv G k) : Nat)) (.int .i64 (imN k G : Nat))
        clear q0 q1 q2 q3 q4 q5 q6 q7 q8 f0 f1 f2 f3 f4 f5 f6 f7 f8 hlt
        refine hK.out _ _ ?_ (fun hHeld24 => ?_)
        · exact s14 hc hd
        clear hK K hHeld24
        generalize (((((((((X6.setCell ⟨a11, 0, none⟩ (.int .i64 (k : Int))).setCell ⟨a11, 1, none⟩ (.int .i64 (G 0))).setCell ⟨a11, 2, none⟩ (.int .i64 (G 1))).setCell ⟨a11, 3, none⟩ (.int .i64 (G 2))).setCell ⟨a11, 4, none⟩ (.int .i64 (G 3))).setCell ⟨a11, 5, none⟩ (.int .i64 (G 4))).setCell ⟨a11, 6, none⟩ (.int .i64 (G 5))).setCell ⟨a11, 7, none⟩ (.int .i64 (domL (mv G k) : Nat))).setCell ⟨a11, 8, none⟩ (.int .i64 (imN k G : Nat))) = X7 at *
        try simp only [Act.put, List.setIfInBounds_toArray, List.set_cons_zero, List.set_cons_succ]
        refine wpAnyH_done (by kernel_rfl) ?_ _
        exact HK.out _ a10 a11 hA10 hA11 hr4 hr5 (by omega) (by omega) (by omega) hB
      refine AllReadyH.cons (o := _) (by rw [List.getElem?_toArray]; rfl) (fun K hK => ?_) AllReadyH.nil
      go_simp
      have hsz : b7 + 2 ≤ U11V1.heap.size := by have := hd.lt; omega
      have hne := hA11.lt
      replace hA11 := hA11.alloc (.cells #[.int .i64 0, .int .i64 0, .int .i64 0, .int .i64 0, .int .i64 0, .int .i64 0, .int .i64 0, .int .i64 0, .int .i64 0] 40)
      replace hc := hc.alloc (.cells #[.int .i64 0, .int .i64 0, .int .i64 0, .int .i64 0, .int .i64 0, .int .i64 0, .int .i64 0, .int .i64 0, .int .i64 0] 40)
      replace hd := hd.alloc (.cells #[.int .i64 0, .int .i64 0, .int .i64 0, .int .i64 0, .int .i64 0, .int .i64 0, .int .i64 0, .int .i64 0, .int .i64 0] 40)
      replace hr4 := hr4.alloc (.cells #[.int .i64 0, .int .i64 0, .int .i64 0, .int .i64 0, .int .i64 0, .int .i64 0, .int .i64 0, .int .i64 0, .int .i64 0] 40)
      replace hr5 := hr5.alloc (.cells #[.int .i64 0, .int .i64 0, .int .i64 0, .int .i64 0, .int .i64 0, .int .i64 0, .int .i64 0, .int .i64 0, .int .i64 0] 40)
      replace hB := hB.alloc hB.size (.cells #[.int .i64 0, .int .i64 0, .int .i64 0, .int .i64 0, .int .i64 0, .int .i64 0, .int .i64 0, .int .i64 0, .int .i64 0] 40)
      have hA10 := Blk.new U11V1 40 #[.int .i64 0, .int .i64 0, .int .i64 0, .int .i64 0, .int .i64 0, .int .i64 0, .int .i64 0, .int .i64 0, .int .i64 0]
      refine hK.out _ _ ?_ (fun hHeld25 => ?_)
      · exact s14 hc hd
      clear hK K hHeld25
      generalize U11V1.alloc (.cells #[.int .i64 0, .int .i64 0, .int .i64 0, .int .i64 0, .int .i64 0, .int .i64 0, .int .i64 0, .int .i64 0, .int .i64 0] 40) = U10U11V1 at *
      generalize U11V1.heap.size = a10 at *
      try simp only [Act.put, List.setIfInBounds_toArray, List.set_cons_zero, List.set_cons_succ]
      refine wpAnyH_ready (rs := [3]) (by kernel_rfl) (by simp) ?_
      refine AllReadyH.cons (o := _) (by rw [List.getElem?_toArray]; rfl) (fun K hK => ?_) AllReadyH.nil
      go_simp
      refine (arrowOf_any k hk G hG _).mono ?_
      rintro e V2 ⟨rfl, hb1⟩
      replace hc := cb_keep hb1 hc rfl
      replace hd := cb_keep hb1 hd rfl
      replace hr4 := blk_keep hb1 hr4 rfl
      replace hr5 := blk_keep hb1 hr5 rfl
      replace hA10 := blk_keep hb1 hA10 rfl
      replace hA11 := blk_keep hb1 hA11 rfl
      replace hB := bel_keep hb1 hB rfl rfl rfl rfl hB.size
      clear hb1
      refine hK.out _ _ ?_ (fun hHeld26 => ?_)
      · exact s14 hc hd
      clear hK K hHeld26
      try simp only [Act.put, List.setIfInBounds_toArray, List.set_cons_zero, List.set_cons_succ]
      refine wpAnyH_ready (rs := [6]) (by kernel_rfl) (by simp) ?_
      refine AllReadyH.cons (o := _) (by rw [List.getElem?_toArray]; rfl) (fun K hK => ?_) AllReadyH.nil
      have hq := b9 hA10
      have q0 := hq.1
      have q1 := hq.2.1
      have q2 := hq.2.2.1
      have q3 := hq.2.2.2.1
      have q4 := hq.2.2.2.2.1
      have q5 := hq.2.2.2.2.2.1
      have q6 := hq.2.2.2.2.2.2.1
      have q7 := hq.2.2.2.2.2.2.2.1
      have q8 := hq.2.2.2.2.2.2.2.2.1
      have f0 := hq.2.2.2.2.2.2.2.2.2.1
      have f1 := hq.2.2.2.2.2.2.2.2.2.2.1
      have f2 := hq.2.2.2.2.2.2.2.2.2.2.2.1
      have f3 := hq.2.2.2.2.2.2.2.2.2.2.2.2.1
      have f4 := hq.2.2.2.2.2.2.2.2.2.2.2.2.2.1
      have f5 := hq.2.2.2.2.2.2.2.2.2.2.2.2.2.2.1
      have f6 := hq.2.2.2.2.2.2.2.2.2.2.2.2.2.2.2.1
      have f7 := hq.2.2.2.2.2.2.2.2.2.2.2.2.2.2.2.2.1
      have f8 := hq.2.2.2.2.2.2.2.2.2.2.2.2.2.2.2.2.2.1
      have hlt := hq.2.2.2.2.2.2.2.2.2.2.2.2.2.2.2.2.2.2
      clear hq
      go_simp
      replace hc := cb_far9 hc (show b7 ≠ a10 by omega) (.int .i64 (k : Int)) (.int .i64 (T 0)) (.int .i64 (T 1)) (.int .i64 (T 2)) (.int .i64 (T 3)) (.int .i64 (T 4)) (.int .i64 (T 5)) (.int .i64 (domL (mv T k) : Nat)) (.int .i64 (imN k T : Nat))
      replace hd := cb_far9 hd (show b7 + 1 ≠ a10 by omega) (.int .i64 (k : Int)) (.int .i64 (T 0)) (.int .i64 (T 1)) (.int .i64 (T 2)) (.int .i64 (T 3)) (.int .i64 (T 4)) (.int .i64 (T 5)) (.int .i64 (domL (mv T k) : Nat)) (.int .i64 (imN k T : Nat))
      replace hr4 := blk_far9 hr4 (show w.heap.size ≠ a10 by omega) (.int .i64 (k : Int)) (.int .i64 (T 0)) (.int .i64 (T 1)) (.int .i64 (T 2)) (.int .i64 (T 3)) (.int .i64 (T 4)) (.int .i64 (T 5)) (.int .i64 (domL (mv T k) : Nat)) (.int .i64 (imN k T : Nat))
      replace hr5 := blk_far9 hr5 (show w.heap.size + 1 ≠ a10 by omega) (.int .i64 (k : Int)) (.int .i64 (T 0)) (.int .i64 (T 1)) (.int .i64 (T 2)) (.int .i64 (T 3)) (.int .i64 (T 4)) (.int .i64 (T 5)) (.int .i64 (domL (mv T k) : Nat)) (.int .i64 (imN k T : Nat))
      replace hA11 := blk_far9 hA11 (show a11 ≠ a10 by omega) (.int .i64 (k : Int)) (.int .i64 (T 0)) (.int .i64 (T 1)) (.int .i64 (T 2)) (.int .i64 (T 3)) (.int .i64 (T 4)) (.int .i64 (T 5)) (.int .i64 (domL (mv T k) : Nat)) (.int .i64 (imN k T : Nat))
      replace hA10 := blk_put9 hA10 (.int .i64 (k : Int)) (.int .i64 (T 0)) (.int .i64 (T 1)) (.int .i64 (T 2)) (.int .i64 (T 3)) (.int .i64 (T 4)) (.int .i64 (T 5)) (.int .i64 (domL (mv T k) : Nat)) (.int .i64 (imN k T : Nat))
      replace hB := bel_put9 hB (show w.heap.size ≤ a10 by omega) (.int .i64 (k : Int)) (.int .i64 (T 0)) (.int .i64 (T 1)) (.int .i64 (T 2)) (.int .i64 (T 3)) (.int .i64 (T 4)) (.int .i64 (T 5)) (.int .i64 (domL (mv T k) : Nat)) (.int .i64 (imN k T : Nat))
      clear q0 q1 q2 q3 q4 q5 q6 q7 q8 f0 f1 f2 f3 f4 f5 f6 f7 f8 hlt
      refine hK.out _ _ ?_ (fun hHeld27 => ?_)
      · exact s14 hc hd
      clear hK K hHeld27
      generalize (((((((((V2.setCell ⟨a10, 0, none⟩ (.int .i64 (k : Int))).setCell ⟨a10, 1, none⟩ (.int .i64 (T 0))).setCell ⟨a10, 2, none⟩ (.int .i64 (T 1))).setCell ⟨a10, 3, none⟩ (.int .i64 (T 2))).setCell ⟨a10, 4, none⟩ (.int .i64 (T 3))).setCell ⟨a10, 5, none⟩ (.int .i64 (T 4))).setCell ⟨a10, 6, none⟩ (.int .i64 (T 5))).setCell ⟨a10, 7, none⟩ (.int .i64 (domL (mv T k) : Nat))).setCell ⟨a10, 8, none⟩ (.int .i64 (imN k T : Nat))) = X6 at *
      try simp only [Act.put, List.setIfInBounds_toArray, List.set_cons_zero, List.set_cons_succ]
      refine wpAnyH_ready (rs := [7]) (by kernel_rfl) (by simp) ?_
      refine AllReadyH.cons (o := _) (by rw [List.getElem?_toArray]; rfl) (fun K hK => ?_) AllReadyH.nil
      have hq := b9 hA11
      have q0 := hq.1
      have q1 := hq.2.1
      have q2 := hq.2.2.1
      have q3 := hq.2.2.2.1
      have q4 := hq.2.2.2.2.1
      have q5 := hq.2.2.2.2.2.1
      have q6 := hq.2.2.2.2.2.2.1
      have q7 := hq.2.2.2.2.2.2.2.1
      have q8 := hq.2.2.2.2.2.2.2.2.1
      have f0 := hq.2.2.2.2.2.2.2.2.2.1
      have f1 := hq.2.2.2.2.2.2.2.2.2.2.1
      have f2 := hq.2.2.2.2.2.2.2.2.2.2.2.1
      have f3 := hq.2.2.2.2.2.2.2.2.2.2.2.2.1
      have f4 := hq.2.2.2.2.2.2.2.2.2.2.2.2.2.1
      have f5 := hq.2.2.2.2.2.2.2.2.2.2.2.2.2.2.1
      have f6 := hq.2.2.2.2.2.2.2.2.2.2.2.2.2.2.2.1
      have f7 := hq.2.2.2.2.2.2.2.2.2.2.2.2.2.2.2.2.1
      have f8 := hq.2.2.2.2.2.2.2.2.2.2.2.2.2.2.2.2.2.1
      have hlt := hq.2.2.2.2.2.2.2.2.2.2.2.2.2.2.2.2.2.2
      clear hq
      go_simp
      replace hc := cb_far9 hc (show b7 ≠ a11 by omega) (.int .i64 (k : Int)) (.int .i64 (G 0)) (.int .i64 (G 1)) (.int .i64 (G 2)) (.int .i64 (G 3)) (.int .i64 (G 4)) (.int .i64 (G 5)) (.int .i64 (domL (mv G k) : Nat)) (.int .i64 (imN k G : Nat))
      replace hd := cb_far9 hd (show b7 + 1 ≠ a11 by omega) (.int .i64 (k : Int)) (.int .i64 (G 0)) (.int .i64 (G 1)) (.int .i64 (G 2)) (.int .i64 (G 3)) (.int .i64 (G 4)) (.int .i64 (G 5)) (.int .i64 (domL (mv G k) : Nat)) (.int .i64 (imN k G : Nat))
      replace hr4 := blk_far9 hr4 (show w.heap.size ≠ a11 by omega) (.int .i64 (k : Int)) (.int .i64 (G 0)) (.int .i64 (G 1)) (.int .i64 (G 2)) (.int .i64 (G 3)) (.int .i64 (G 4)) (.int .i64 (G 5)) (.int .i64 (domL (mv G k) : Nat)) (.int .i64 (imN k G : Nat))
      replace hr5 := blk_far9 hr5 (show w.heap.size + 1 ≠ a11 by omega) (.int .i64 (k : Int)) (.int .i64 (G 0)) (.int .i64 (G 1)) (.int .i64 (G 2)) (.int .i64 (G 3)) (.int .i64 (G 4)) (.int .i64 (G 5)) (.int .i64 (domL (mv G k) : Nat)) (.int .i64 (imN k G : Nat))
      replace hA10 := blk_far9 hA10 (show a10 ≠ a11 by omega) (.int .i64 (k : Int)) (.int .i64 (G 0)) (.int .i64 (G 1)) (.int .i64 (G 2)) (.int .i64 (G 3)) (.int .i64 (G 4)) (.int .i64 (G 5)) (.int .i64 (domL (mv G k) : Nat)) (.int .i64 (imN k G : Nat))
      replace hA11 := blk_put9 hA11 (.int .i64 (k : Int)) (.int .i64 (G 0)) (.int .i64 (G 1)) (.int .i64 (G 2)) (.int .i64 (G 3)) (.int .i64 (G 4)) (.int .i64 (G 5)) (.int .i64 (domL (mv G k) : Nat)) (.int .i64 (imN k G : Nat))
      replace hB := bel_put9 hB (show w.heap.size ≤ a11 by omega) (.int .i64 (k : Int)) (.int .i64 (G 0)) (.int .i64 (G 1)) (.int .i64 (G 2)) (.int .i64 (G 3)) (.int .i64 (G 4)) (.int .i64 (G 5)) (.int .i64 (domL (mv G k) : Nat)) (.int .i64 (imN k G : Nat))
      clear q0 q1 q2 q3 q4 q5 q6 q7 q8 f0 f1 f2 f3 f4 f5 f6 f7 f8 hlt
      refine hK.out _ _ ?_ (fun hHeld28 => ?_)
      · exact s14 hc hd
      clear hK K hHeld28
      generalize (((((((((X6.setCell ⟨a11, 0, none⟩ (.int .i64 (k : Int))).setCell ⟨a11, 1, none⟩ (.int .i64 (G 0))).setCell ⟨a11, 2, none⟩ (.int .i64 (G 1))).setCell ⟨a11, 3, none⟩ (.int .i64 (G 2))).setCell ⟨a11, 4, none⟩ (.int .i64 (G 3))).setCell ⟨a11, 5, none⟩ (.int .i64 (G 4))).setCell ⟨a11, 6, none⟩ (.int .i64 (G 5))).setCell ⟨a11, 7, none⟩ (.int .i64 (domL (mv G k) : Nat))).setCell ⟨a11, 8, none⟩ (.int .i64 (imN k G : Nat))) = X7 at *
      try simp only [Act.put, List.setIfInBounds_toArray, List.set_cons_zero, List.set_cons_succ]
      refine wpAnyH_done (by kernel_rfl) ?_ _
      exact HK.out _ a10 a11 hA10 hA11 hr4 hr5 (by omega) (by omega) (by omega) hB
    refine AllReadyH.cons (o := _) (by rw [List.getElem?_toArray]; rfl) (fun K hK => ?_) ?_
    · go_simp
      have hsz : b7 + 2 ≤ V0.heap.size := by have := hd.lt; omega
      replace hc := hc.alloc (.cells #[.int .i64 0, .int .i64 0, .int .i64 0, .int .i64 0, .int .i64 0, .int .i64 0, .int .i64 0, .int .i64 0, .int .i64 0] 40)
      replace hd := hd.alloc (.cells #[.int .i64 0, .int .i64 0, .int .i64 0, .int .i64 0, .int .i64 0, .int .i64 0, .int .i64 0, .int .i64 0, .int .i64 0] 40)
      replace hr4 := hr4.alloc (.cells #[.int .i64 0, .int .i64 0, .int .i64 0, .int .i64 0, .int .i64 0, .int .i64 0, .int .i64 0, .int .i64 0, .int .i64 0] 40)
      replace hr5 := hr5.alloc (.cells #[.int .i64 0, .int .i64 0, .int .i64 0, .int .i64 0, .int .i64 0, .int .i64 0, .int .i64 0, .int .i64 0, .int .i64 0] 40)
      replace hB := hB.alloc hB.size (.cells #[.int .i64 0, .int .i64 0, .int .i64 0, .int .i64 0, .int .i64 0, .int .i64 0, .int .i64 0, .int .i64 0, .int .i64 0] 40)
      have hA10 := Blk.new V0 40 #[.int .i64 0, .int .i64 0, .int .i64 0, .int .i64 0, .int .i64 0, .int .i64 0, .int .i64 0, .int .i64 0, .int .i64 0]
      refine hK.out _ _ ?_ (fun hHeld29 => ?_)
      · exact s14 hc hd
      clear hK K hHeld29
      generalize V0.alloc (.cells #[.int .i64 0, .int .i64 0, .int .i64 0, .int .i64 0, .int .i64 0, .int .i64 0, .int .i64 0, .int .i64 0, .int .i64 0] 40) = U10V0 at *
      generalize V0.heap.size = a10 at *
      try simp only [Act.put, List.setIfInBounds_toArray, List.set_cons_zero, List.set_cons_succ]
      refine wpAnyH_ready (rs := [1, 5]) (by kernel_rfl) (by simp) ?_
      refine AllReadyH.cons (o := _) (by rw [List.getElem?_toArray]; rfl) (fun K hK => ?_) ?_
      · go_simp
        refine (arrowOf_any k hk T hT _).mono ?_
        rintro e V1 ⟨rfl, hb1⟩
        replace hc := cb_keep hb1 hc rfl
        replace hd := cb_keep hb1 hd rfl
        replace hr4 := blk_keep hb1 hr4 rfl
        replace hr5 := blk_keep hb1 hr5 rfl
        replace hA10 := blk_keep hb1 hA10 rfl
        replace hB := bel_keep hb1 hB rfl rfl rfl rfl hB.size
        clear hb1
        refine hK.out _ _ ?_ (fun hHeld30 => ?_)
        · exact s14 hc hd
        clear hK K hHeld30
        try simp only [Act.put, List.setIfInBounds_toArray, List.set_cons_zero, List.set_cons_succ]
        refine wpAnyH_ready (rs := [3, 5]) (by kernel_rfl) (by simp) ?_
        refine AllReadyH.cons (o := _) (by rw [List.getElem?_toArray]; rfl) (fun K hK => ?_) ?_
        · go_simp
          refine (arrowOf_any k hk G hG _).mono ?_
          rintro e V2 ⟨rfl, hb1⟩
          replace hc := cb_keep hb1 hc rfl
          replace hd := cb_keep hb1 hd rfl
          replace hr4 := blk_keep hb1 hr4 rfl
          replace hr5 := blk_keep hb1 hr5 rfl
          replace hA10 := blk_keep hb1 hA10 rfl
          replace hB := bel_keep hb1 hB rfl rfl rfl rfl hB.size
          clear hb1
          refine hK.out _ _ ?_ (fun hHeld31 => ?_)
          · exact s14 hc hd
          clear hK K hHeld31
          try simp only [Act.put, List.setIfInBounds_toArray, List.set_cons_zero, List.set_cons_succ]
          refine wpAnyH_ready (rs := [5]) (by kernel_rfl) (by simp) ?_
          refine AllReadyH.cons (o := _) (by rw [List.getElem?_toArray]; rfl) (fun K hK => ?_) AllReadyH.nil
          go_simp
          have hsz : b7 + 2 ≤ V2.heap.size := by have := hd.lt; omega
          have hne := hA10.lt
          replace hA10 := hA10.alloc (.cells #[.int .i64 0, .int .i64 0, .int .i64 0, .int .i64 0, .int .i64 0, .int .i64 0, .int .i64 0, .int .i64 0, .int .i64 0] 40)
          replace hc := hc.alloc (.cells #[.int .i64 0, .int .i64 0, .int .i64 0, .int .i64 0, .int .i64 0, .int .i64 0, .int .i64 0, .int .i64 0, .int .i64 0] 40)
          replace hd := hd.alloc (.cells #[.int .i64 0, .int .i64 0, .int .i64 0, .int .i64 0, .int .i64 0, .int .i64 0, .int .i64 0, .int .i64 0, .int .i64 0] 40)
          replace hr4 := hr4.alloc (.cells #[.int .i64 0, .int .i64 0, .int .i64 0, .int .i64 0, .int .i64 0, .int .i64 0, .int .i64 0, .int .i64 0, .int .i64 0] 40)
          replace hr5 := hr5.alloc (.cells #[.int .i64 0, .int .i64 0, .int .i64 0, .int .i64 0, .int .i64 0, .int .i64 0, .int .i64 0, .int .i64 0, .int .i64 0] 40)
          replace hB := hB.alloc hB.size (.cells #[.int .i64 0, .int .i64 0, .int .i64 0, .int .i64 0, .int .i64 0, .int .i64 0, .int .i64 0, .int .i64 0, .int .i64 0] 40)
          have hA11 := Blk.new V2 40 #[.int .i64 0, .int .i64 0, .int .i64 0, .int .i64 0, .int .i64 0, .int .i64 0, .int .i64 0, .int .i64 0, .int .i64 0]
          refine hK.out _ _ ?_ (fun hHeld32 => ?_)
          · exact s14 hc hd
          clear hK K hHeld32
          generalize V2.alloc (.cells #[.int .i64 0, .int .i64 0, .int .i64 0, .int .i64 0, .int .i64 0, .int .i64 0, .int .i64 0, .int .i64 0, .int .i64 0] 40) = U11V2 at *
          generalize V2.heap.size = a11 at *
          try simp only [Act.put, List.setIfInBounds_toArray, List.set_cons_zero, List.set_cons_succ]
          refine wpAnyH_ready (rs := [6]) (by kernel_rfl) (by simp) ?_
          refine AllReadyH.cons (o := _) (by rw [List.getElem?_toArray]; rfl) (fun K hK => ?_) AllReadyH.nil
          have hq := b9 hA10
          have q0 := hq.1
          have q1 := hq.2.1
          have q2 := hq.2.2.1
          have q3 := hq.2.2.2.1
          have q4 := hq.2.2.2.2.1
          have q5 := hq.2.2.2.2.2.1
          have q6 := hq.2.2.2.2.2.2.1
          have q7 := hq.2.2.2.2.2.2.2.1
          have q8 := hq.2.2.2.2.2.2.2.2.1
          have f0 := hq.2.2.2.2.2.2.2.2.2.1
          have f1 := hq.2.2.2.2.2.2.2.2.2.2.1
          have f2 := hq.2.2.2.2.2.2.2.2.2.2.2.1
          have f3 := hq.2.2.2.2.2.2.2.2.2.2.2.2.1
          have f4 := hq.2.2.2.2.2.2.2.2.2.2.2.2.2.1
          have f5 := hq.2.2.2.2.2.2.2.2.2.2.2.2.2.2.1
          have f6 := hq.2.2.2.2.2.2.2.2.2.2.2.2.2.2.2.1
          have f7 := hq.2.2.2.2.2.2.2.2.2.2.2.2.2.2.2.2.1
          have f8 := hq.2.2.2.2.2.2.2.2.2.2.2.2.2.2.2.2.2.1
          have hlt := hq.2.2.2.2.2.2.2.2.2.2.2.2.2.2.2.2.2.2
          clear hq
          go_simp
          replace hc := cb_far9 hc (show b7 ≠ a10 by omega) (.int .i64 (k : Int)) (.int .i64 (T 0)) (.int .i64 (T 1)) (.int .i64 (T 2)) (.int .i64 (T 3)) (.int .i64 (T 4)) (.int .i64 (T 5)) (.int .i64 (domL (mv T k) : Nat)) (.int .i64 (imN k T : Nat))
          replace hd := cb_far9 hd (show b7 + 1 ≠ a10 by omega) (.int .i64 (k : Int)) (.int .i64 (T 0)) (.int .i64 (T 1)) (.int .i64 (T 2)) (.int .i64 (T 3)) (.int .i64 (T 4)) (.int .i64 (T 5)) (.int .i64 (domL (mv T k) : Nat)) (.int .i64 (imN k T : Nat))
          replace hr4 := blk_far9 hr4 (show w.heap.size ≠ a10 by omega) (.int .i64 (k : Int)) (.int .i64 (T 0)) (.int .i64 (T 1)) (.int .i64 (T 2)) (.int .i64 (T 3)) (.int .i64 (T 4)) (.int .i64 (T 5)) (.int .i64 (domL (mv T k) : Nat)) (.int .i64 (imN k T : Nat))
          replace hr5 := blk_far9 hr5 (show w.heap.size + 1 ≠ a10 by omega) (.int .i64 (k : Int)) (.int .i64 (T 0)) (.int .i64 (T 1)) (.int .i64 (T 2)) (.int .i64 (T 3)) (.int .i64 (T 4)) (.int .i64 (T 5)) (.int .i64 (domL (mv T k) : Nat)) (.int .i64 (imN k T : Nat))
          replace hA11 := blk_far9 hA11 (show a11 ≠ a10 by omega) (.int .i64 (k : Int)) (.int .i64 (T 0)) (.int .i64 (T 1)) (.int .i64 (T 2)) (.int .i64 (T 3)) (.int .i64 (T 4)) (.int .i64 (T 5)) (.int .i64 (domL (mv T k) : Nat)) (.int .i64 (imN k T : Nat))
          replace hA10 := blk_put9 hA10 (.int .i64 (k : Int)) (.int .i64 (T 0)) (.int .i64 (T 1)) (.int .i64 (T 2)) (.int .i64 (T 3)) (.int .i64 (T 4)) (.int .i64 (T 5)) (.int .i64 (domL (mv T k) : Nat)) (.int .i64 (imN k T : Nat))
          replace hB := bel_put9 hB (show w.heap.size ≤ a10 by omega) (.int .i64 (k : Int)) (.int .i64 (T 0)) (.int .i64 (T 1)) (.int .i64 (T 2)) (.int .i64 (T 3)) (.int .i64 (T 4)) (.int .i64 (T 5)) (.int .i64 (domL (mv T k) : Nat)) (.int .i64 (imN k T : Nat))
          clear q0 q1 q2 q3 q4 q5 q6 q7 q8 f0 f1 f2 f3 f4 f5 f6 f7 f8 hlt
          refine hK.out _ _ ?_ (fun hHeld33 => ?_)
          · exact s14 hc hd
          clear hK K hHeld33
          generalize (((((((((U11V2.setCell ⟨a10, 0, none⟩ (.int .i64 (k : Int))).setCell ⟨a10, 1, none⟩ (.int .i64 (T 0))).setCell ⟨a10, 2, none⟩ (.int .i64 (T 1))).setCell ⟨a10, 3, none⟩ (.int .i64 (T 2))).setCell ⟨a10, 4, none⟩ (.int .i64 (T 3))).setCell ⟨a10, 5, none⟩ (.int .i64 (T 4))).setCell ⟨a10, 6, none⟩ (.int .i64 (T 5))).setCell ⟨a10, 7, none⟩ (.int .i64 (domL (mv T k) : Nat))).setCell ⟨a10, 8, none⟩ (.int .i64 (imN k T : Nat))) = X6 at *
          try simp only [Act.put, List.setIfInBounds_toArray, List.set_cons_zero, List.set_cons_succ]
          refine wpAnyH_ready (rs := [7]) (by kernel_rfl) (by simp) ?_
          refine AllReadyH.cons (o := _) (by rw [List.getElem?_toArray]; rfl) (fun K hK => ?_) AllReadyH.nil
          have hq := b9 hA11
          have q0 := hq.1
          have q1 := hq.2.1
          have q2 := hq.2.2.1
          have q3 := hq.2.2.2.1
          have q4 := hq.2.2.2.2.1
          have q5 := hq.2.2.2.2.2.1
          have q6 := hq.2.2.2.2.2.2.1
          have q7 := hq.2.2.2.2.2.2.2.1
          have q8 := hq.2.2.2.2.2.2.2.2.1
          have f0 := hq.2.2.2.2.2.2.2.2.2.1
          have f1 := hq.2.2.2.2.2.2.2.2.2.2.1
          have f2 := hq.2.2.2.2.2.2.2.2.2.2.2.1
          have f3 := hq.2.2.2.2.2.2.2.2.2.2.2.2.1
          have f4 := hq.2.2.2.2.2.2.2.2.2.2.2.2.2.1
          have f5 := hq.2.2.2.2.2.2.2.2.2.2.2.2.2.2.1
          have f6 := hq.2.2.2.2.2.2.2.2.2.2.2.2.2.2.2.1
          have f7 := hq.2.2.2.2.2.2.2.2.2.2.2.2.2.2.2.2.1
          have f8 := hq.2.2.2.2.2.2.2.2.2.2.2.2.2.2.2.2.2.1
          have hlt := hq.2.2.2.2.2.2.2.2.2.2.2.2.2.2.2.2.2.2
          clear hq
          go_simp
          replace hc := cb_far9 hc (show b7 ≠ a11 by omega) (.int .i64 (k : Int)) (.int .i64 (G 0)) (.int .i64 (G 1)) (.int .i64 (G 2)) (.int .i64 (G 3)) (.int .i64 (G 4)) (.int .i64 (G 5)) (.int .i64 (domL (mv G k) : Nat)) (.int .i64 (imN k G : Nat))
          replace hd := cb_far9 hd (show b7 + 1 ≠ a11 by omega) (.int .i64 (k : Int)) (.int .i64 (G 0)) (.int .i64 (G 1)) (.int .i64 (G 2)) (.int .i64 (G 3)) (.int .i64 (G 4)) (.int .i64 (G 5)) (.int .i64 (domL (mv G k) : Nat)) (.int .i64 (imN k G : Nat))
          replace hr4 := blk_far9 hr4 (show w.heap.size ≠ a11 by omega) (.int .i64 (k : Int)) (.int .i64 (G 0)) (.int .i64 (G 1)) (.int .i64 (G 2)) (.int .i64 (G 3)) (.int .i64 (G 4)) (.int .i64 (G 5)) (.int .i64 (domL (mv G k) : Nat)) (.int .i64 (imN k G : Nat))
          replace hr5 := blk_far9 hr5 (show w.heap.size + 1 ≠ a11 by omega) (.int .i64 (k : Int)) (.int .i64 (G 0)) (.int .i64 (G 1)) (.int .i64 (G 2)) (.int .i64 (G 3)) (.int .i64 (G 4)) (.int .i64 (G 5)) (.int .i64 (domL (mv G k) : Nat)) (.int .i64 (imN k G : Nat))
          replace hA10 := blk_far9 hA10 (show a10 ≠ a11 by omega) (.int .i64 (k : Int)) (.int .i64 (G 0)) (.int .i64 (G 1)) (.int .i64 (G 2)) (.int .i64 (G 3)) (.int .i64 (G 4)) (.int .i64 (G 5)) (.int .i64 (domL (mv G k) : Nat)) (.int .i64 (imN k G : Nat))
          replace hA11 := blk_put9 hA11 (.int .i64 (k : Int)) (.int .i64 (G 0)) (.int .i64 (G 1)) (.int .i64 (G 2)) (.int .i64 (G 3)) (.int .i64 (G 4)) (.int .i64 (G 5)) (.int .i64 (domL (mv G k) : Nat)) (.int .i64 (imN k G : Nat))
          replace hB := bel_put9 hB (show w.heap.size ≤ a11 by omega) (.int .i64 (k : Int)) (.int .i64 (G 0)) (.int .i64 (G 1)) (.int .i64 (G 2)) (.int .i64 (G 3)) (.int .i64 (G 4)) (.int .i64 (G 5)) (.int .i64 (domL (mv G k) : Nat)) (.int .i64 (imN k G : Nat))
          clear q0 q1 q2 q3 q4 q5 q6 q7 q8 f0 f1 f2 f3 f4 f5 f6 f7 f8 hlt
          refine hK.out _ _ ?_ (fun hHeld34 => ?_)
          · exact s14 hc hd
          clear hK K hHeld34
          generalize (((((((((X6.setCell ⟨a11, 0, none⟩ (.int .i64 (k : Int))).setCell ⟨a11, 1, none⟩ (.int .i64 (G 0))).setCell ⟨a11, 2, none⟩ (.int .i64 (G 1))).setCell ⟨a11, 3, none⟩ (.int .i64 (G 2))).setCell ⟨a11, 4, none⟩ (.int .i64 (G 3))).setCell ⟨a11, 5, none⟩ (.int .i64 (G 4))).setCell ⟨a11, 6, none⟩ (.int .i64 (G 5))).setCell ⟨a11, 7, none⟩ (.int .i64 (domL (mv G k) : Nat))).setCell ⟨a11, 8, none⟩ (.int .i64 (imN k G : Nat))) = X7 at *
          try simp only [Act.put, List.setIfInBounds_toArray, List.set_cons_zero, List.set_cons_succ]
          refine wpAnyH_done (by kernel_rfl) ?_ _
          exact HK.out _ a10 a11 hA10 hA11 hr4 hr5 (by omega) (by omega) (by omega) hB
        refine AllReadyH.cons (o := _) (by rw [List.getElem?_toArray]; rfl) (fun K hK => ?_) AllReadyH.nil
        go_simp
        have hsz : b7 + 2 ≤ V1.heap.size := by have := hd.lt; omega
        have hne := hA10.lt
        replace hA10 := hA10.alloc (.cells #[.int .i64 0, .int .i64 0, .int .i64 0, .int .i64 0, .int .i64 0, .int .i64 0, .int .i64 0, .int .i64 0, .int .i64 0] 40)
        replace hc := hc.alloc (.cells #[.int .i64 0, .int .i64 0, .int .i64 0, .int .i64 0, .int .i64 0, .int .i64 0, .int .i64 0, .int .i64 0, .int .i64 0] 40)
        replace hd := hd.alloc (.cells #[.int .i64 0, .int .i64 0, .int .i64 0, .int .i64 0, .int .i64 0, .int .i64 0, .int .i64 0, .int .i64 0, .int .i64 0] 40)
        replace hr4 := hr4.alloc (.cells #[.int .i64 0, .int .i64 0, .int .i64 0, .int .i64 0, .int .i64 0, .int .i64 0, .int .i64 0, .int .i64 0, .int .i64 0] 40)
        replace hr5 := hr5.alloc (.cells #[.int .i64 0, .int .i64 0, .int .i64 0, .int .i64 0, .int .i64 0, .int .i64 0, .int .i64 0, .int .i64 0, .int .i64 0] 40)
        replace hB := hB.alloc hB.size (.cells #[.int .i64 0, .int .i64 0, .int .i64 0, .int .i64 0, .int .i64 0, .int .i64 0, .int .i64 0, .int .i64 0, .int .i64 0] 40)
        have hA11 := Blk.new V1 40 #[.int .i64 0, .int .i64 0, .int .i64 0, .int .i64 0, .int .i64 0, .int .i64 0, .int .i64 0, .int .i64 0, .int .i64 0]
        refine hK.out _ _ ?_ (fun hHeld35 => ?_)
        · exact s14 hc hd
        clear hK K hHeld35
        generalize V1.alloc (.cells #[.int .i64 0, .int .i64 0, .int .i64 0, .int .i64 0, .int .i64 0, .int .i64 0, .int .i64 0, .int .i64 0, .int .i64 0] 40) = U11V1 at *
        generalize V1.heap.size = a11 at *
        try simp only [Act.put, List.setIfInBounds_toArray, List.set_cons_zero, List.set_cons_succ]
        refine wpAnyH_ready (rs := [3]) (by kernel_rfl) (by simp) ?_
        refine AllReadyH.cons (o := _) (by rw [List.getElem?_toArray]; rfl) (fun K hK => ?_) AllReadyH.nil
        go_simp
        refine (arrowOf_any k hk G hG _).mono ?_
        rintro e V2 ⟨rfl, hb1⟩
        replace hc := cb_keep hb1 hc rfl
        replace hd := cb_keep hb1 hd rfl
        replace hr4 := blk_keep hb1 hr4 rfl
        replace hr5 := blk_keep hb1 hr5 rfl
        replace hA10 := blk_keep hb1 hA10 rfl
        replace hA11 := blk_keep hb1 hA11 rfl
        replace hB := bel_keep hb1 hB rfl rfl rfl rfl hB.size
        clear hb1
        refine hK.out _ _ ?_ (fun hHeld36 => ?_)
        · exact s14 hc hd
        clear hK K hHeld36
        try simp only [Act.put, List.setIfInBounds_toArray, List.set_cons_zero, List.set_cons_succ]
        refine wpAnyH_ready (rs := [6]) (by kernel_rfl) (by simp) ?_
        refine AllReadyH.cons (o := _) (by rw [List.getElem?_toArray]; rfl) (fun K hK => ?_) AllReadyH.nil
        have hq := b9 hA10
        have q0 := hq.1
        have q1 := hq.2.1
        have q2 := hq.2.2.1
        have q3 := hq.2.2.2.1
        have q4 := hq.2.2.2.2.1
        have q5 := hq.2.2.2.2.2.1
        have q6 := hq.2.2.2.2.2.2.1
        have q7 := hq.2.2.2.2.2.2.2.1
        have q8 := hq.2.2.2.2.2.2.2.2.1
        have f0 := hq.2.2.2.2.2.2.2.2.2.1
        have f1 := hq.2.2.2.2.2.2.2.2.2.2.1
        have f2 := hq.2.2.2.2.2.2.2.2.2.2.2.1
        have f3 := hq.2.2.2.2.2.2.2.2.2.2.2.2.1
        have f4 := hq.2.2.2.2.2.2.2.2.2.2.2.2.2.1
        have f5 := hq.2.2.2.2.2.2.2.2.2.2.2.2.2.2.1
        have f6 := hq.2.2.2.2.2.2.2.2.2.2.2.2.2.2.2.1
        have f7 := hq.2.2.2.2.2.2.2.2.2.2.2.2.2.2.2.2.1
        have f8 := hq.2.2.2.2.2.2.2.2.2.2.2.2.2.2.2.2.2.1
        have hlt := hq.2.2.2.2.2.2.2.2.2.2.2.2.2.2.2.2.2.2
        clear hq
        go_simp
        replace hc := cb_far9 hc (show b7 ≠ a10 by omega) (.int .i64 (k : Int)) (.int .i64 (T 0)) (.int .i64 (T 1)) (.int .i64 (T 2)) (.int .i64 (T 3)) (.int .i64 (T 4)) (.int .i64 (T 5)) (.int .i64 (domL (mv T k) : Nat)) (.int .i64 (imN k T : Nat))
        replace hd := cb_far9 hd (show b7 + 1 ≠ a10 by omega) (.int .i64 (k : Int)) (.int .i64 (T 0)) (.int .i64 (T 1)) (.int .i64 (T 2)) (.int .i64 (T 3)) (.int .i64 (T 4)) (.int .i64 (T 5)) (.int .i64 (domL (mv T k) : Nat)) (.int .i64 (imN k T : Nat))
        replace hr4 := blk_far9 hr4 (show w.heap.size ≠ a10 by omega) (.int .i64 (k : Int)) (.int .i64 (T 0)) (.int .i64 (T 1)) (.int .i64 (T 2)) (.int .i64 (T 3)) (.int .i64 (T 4)) (.int .i64 (T 5)) (.int .i64 (domL (mv T k) : Nat)) (.int .i64 (imN k T : Nat))
        replace hr5 := blk_far9 hr5 (show w.heap.size + 1 ≠ a10 by omega) (.int .i64 (k : Int)) (.int .i64 (T 0)) (.int .i64 (T 1)) (.int .i64 (T 2)) (.int .i64 (T 3)) (.int .i64 (T 4)) (.int .i64 (T 5)) (.int .i64 (domL (mv T k) : Nat)) (.int .i64 (imN k T : Nat))
        replace hA11 := blk_far9 hA11 (show a11 ≠ a10 by omega) (.int .i64 (k : Int)) (.int .i64 (T 0)) (.int .i64 (T 1)) (.int .i64 (T 2)) (.int .i64 (T 3)) (.int .i64 (T 4)) (.int .i64 (T 5)) (.int .i64 (domL (mv T k) : Nat)) (.int .i64 (imN k T : Nat))
        replace hA10 := blk_put9 hA10 (.int .i64 (k : Int)) (.int .i64 (T 0)) (.int .i64 (T 1)) (.int .i64 (T 2)) (.int .i64 (T 3)) (.int .i64 (T 4)) (.int .i64 (T 5)) (.int .i64 (domL (mv T k) : Nat)) (.int .i64 (imN k T : Nat))
        replace hB := bel_put9 hB (show w.heap.size ≤ a10 by omega) (.int .i64 (k : Int)) (.int .i64 (T 0)) (.int .i64 (T 1)) (.int .i64 (T 2)) (.int .i64 (T 3)) (.int .i64 (T 4)) (.int .i64 (T 5)) (.int .i64 (domL (mv T k) : Nat)) (.int .i64 (imN k T : Nat))
        clear q0 q1 q2 q3 q4 q5 q6 q7 q8 f0 f1 f2 f3 f4 f5 f6 f7 f8 hlt
        refine hK.out _ _ ?_ (fun hHeld37 => ?_)
        · exact s14 hc hd
        clear hK K hHeld37
        generalize (((((((((V2.setCell ⟨a10, 0, none⟩ (.int .i64 (k : Int))).setCell ⟨a10, 1, none⟩ (.int .i64 (T 0))).setCell ⟨a10, 2, none⟩ (.int .i64 (T 1))).setCell ⟨a10, 3, none⟩ (.int .i64 (T 2))).setCell ⟨a10, 4, none⟩ (.int .i64 (T 3))).setCell ⟨a10, 5, none⟩ (.int .i64 (T 4))).setCell ⟨a10, 6, none⟩ (.int .i64 (T 5))).setCell ⟨a10, 7, none⟩ (.int .i64 (domL (mv T k) : Nat))).setCell ⟨a10, 8, none⟩ (.int .i64 (imN k T : Nat))) = X6 at *
        try simp only [Act.put, List.setIfInBounds_toArray, List.set_cons_zero, List.set_cons_succ]
        refine wpAnyH_ready (rs := [7]) (by kernel_rfl) (by simp) ?_
        refine AllReadyH.cons (o := _) (by rw [List.getElem?_toArray]; rfl) (fun K hK => ?_) AllReadyH.nil
        have hq := b9 hA11
        have q0 := hq.1
        have q1 := hq.2.1
        have q2 := hq.2.2.1
        have q3 := hq.2.2.2.1
        have q4 := hq.2.2.2.2.1
        have q5 := hq.2.2.2.2.2.1
        have q6 := hq.2.2.2.2.2.2.1
        have q7 := hq.2.2.2.2.2.2.2.1
        have q8 := hq.2.2.2.2.2.2.2.2.1
        have f0 := hq.2.2.2.2.2.2.2.2.2.1
        have f1 := hq.2.2.2.2.2.2.2.2.2.2.1
        have f2 := hq.2.2.2.2.2.2.2.2.2.2.2.1
        have f3 := hq.2.2.2.2.2.2.2.2.2.2.2.2.1
        have f4 := hq.2.2.2.2.2.2.2.2.2.2.2.2.2.1
        have f5 := hq.2.2.2.2.2.2.2.2.2.2.2.2.2.2.1
        have f6 := hq.2.2.2.2.2.2.2.2.2.2.2.2.2.2.2.1
        have f7 := hq.2.2.2.2.2.2.2.2.2.2.2.2.2.2.2.2.1
        have f8 := hq.2.2.2.2.2.2.2.2.2.2.2.2.2.2.2.2.2.1
        have hlt := hq.2.2.2.2.2.2.2.2.2.2.2.2.2.2.2.2.2.2
        clear hq
        go_simp
        replace hc := cb_far9 hc (show b7 ≠ a11 by omega) (.int .i64 (k : Int)) (.int .i64 (G 0)) (.int .i64 (G 1)) (.int .i64 (G 2)) (.int .i64 (G 3)) (.int .i64 (G 4)) (.int .i64 (G 5)) (.int .i64 (domL (mv G k) : Nat)) (.int .i64 (imN k G : Nat))
        replace hd := cb_far9 hd (show b7 + 1 ≠ a11 by omega) (.int .i64 (k : Int)) (.int .i64 (G 0)) (.int .i64 (G 1)) (.int .i64 (G 2)) (.int .i64 (G 3)) (.int .i64 (G 4)) (.int .i64 (G 5)) (.int .i64 (domL (mv G k) : Nat)) (.int .i64 (imN k G : Nat))
        replace hr4 := blk_far9 hr4 (show w.heap.size ≠ a11 by omega) (.int .i64 (k : Int)) (.int .i64 (G 0)) (.int .i64 (G 1)) (.int .i64 (G 2)) (.int .i64 (G 3)) (.int .i64 (G 4)) (.int .i64 (G 5)) (.int .i64 (domL (mv G k) : Nat)) (.int .i64 (imN k G : Nat))
        replace hr5 := blk_far9 hr5 (show w.heap.size + 1 ≠ a11 by omega) (.int .i64 (k : Int)) (.int .i64 (G 0)) (.int .i64 (G 1)) (.int .i64 (G 2)) (.int .i64 (G 3)) (.int .i64 (G 4)) (.int .i64 (G 5)) (.int .i64 (domL (mv G k) : Nat)) (.int .i64 (imN k G : Nat))
        replace hA10 := blk_far9 hA10 (show a10 ≠ a11 by omega) (.int .i64 (k : Int)) (.int .i64 (G 0)) (.int .i64 (G 1)) (.int .i64 (G 2)) (.int .i64 (G 3)) (.int .i64 (G 4)) (.int .i64 (G 5)) (.int .i64 (domL (mv G k) : Nat)) (.int .i64 (imN k G : Nat))
        replace hA11 := blk_put9 hA11 (.int .i64 (k : Int)) (.int .i64 (G 0)) (.int .i64 (G 1)) (.int .i64 (G 2)) (.int .i64 (G 3)) (.int .i64 (G 4)) (.int .i64 (G 5)) (.int .i64 (domL (mv G k) : Nat)) (.int .i64 (imN k G : Nat))
        replace hB := bel_put9 hB (show w.heap.size ≤ a11 by omega) (.int .i64 (k : Int)) (.int .i64 (G 0)) (.int .i64 (G 1)) (.int .i64 (G 2)) (.int .i64 (G 3)) (.int .i64 (G 4)) (.int .i64 (G 5)) (.int .i64 (domL (mv G k) : Nat)) (.int .i64 (imN k G : Nat))
        clear q0 q1 q2 q3 q4 q5 q6 q7 q8 f0 f1 f2 f3 f4 f5 f6 f7 f8 hlt
        refine hK.out _ _ ?_ (fun hHeld38 => ?_)
        · exact s14 hc hd
        clear hK K hHeld38
        generalize (((((((((X6.setCell ⟨a11, 0, none⟩ (.int .i64 (k : Int))).setCell ⟨a11, 1, none⟩ (.int .i64 (G 0))).setCell ⟨a11, 2, none⟩ (.int .i64 (G 1))).setCell ⟨a11, 3, none⟩ (.int .i64 (G 2))).setCell ⟨a11, 4, none⟩ (.int .i64 (G 3))).setCell ⟨a11, 5, none⟩ (.int .i64 (G 4))).setCell ⟨a11, 6, none⟩ (.int .i64 (G 5))).setCell ⟨a11, 7, none⟩ (.int .i64 (domL (mv G k) : Nat))).setCell ⟨a11, 8, none⟩ (.int .i64 (imN k G : Nat))) = X7 at *
        try simp only [Act.put, List.setIfInBounds_toArray, List.set_cons_zero, List.set_cons_succ]
        refine wpAnyH_done (by kernel_rfl) ?_ _
        exact HK.out _ a10 a11 hA10 hA11 hr4 hr5 (by omega) (by omega) (by omega) hB
      refine AllReadyH.cons (o := _) (by rw [List.getElem?_toArray]; rfl) (fun K hK => ?_) AllReadyH.nil
      go_simp
      have hsz : b7 + 2 ≤ U10V0.heap.size := by have := hd.lt; omega
      have hne := hA10.lt
      replace hA10 := hA10.alloc (.cells #[.int .i64 0, .int .i64 0, .int .i64 0, .int .i64 0, .int .i64 0, .int .i64 0, .int .i64 0, .int .i64 0, .int .i64 0] 40)
      replace hc := hc.alloc (.cells #[.int .i64 0, .int .i64 0, .int .i64 0, .int .i64 0, .int .i64 0, .int .i64 0, .int .i64 0, .int .i64 0, .int .i64 0] 40)
      replace hd := hd.alloc (.cells #[.int .i64 0, .int .i64 0, .int .i64 0, .int .i64 0, .int .i64 0, .int .i64 0, .int .i64 0, .int .i64 0, .int .i64 0] 40)
      replace hr4 := hr4.alloc (.cells #[.int .i64 0, .int .i64 0, .int .i64 0, .int .i64 0, .int .i64 0, .int .i64 0, .int .i64 0, .int .i64 0, .int .i64 0] 40)
      replace hr5 := hr5.alloc (.cells #[.int .i64 0, .int .i64 0, .int .i64 0, .int .i64 0, .int .i64 0, .int .i64 0, .int .i64 0, .int .i64 0, .int .i64 0] 40)
      replace hB := hB.alloc hB.size (.cells #[.int .i64 0, .int .i64 0, .int .i64 0, .int .i64 0, .int .i64 0, .int .i64 0, .int .i64 0, .int .i64 0, .int .i64 0] 40)
      have hA11 := Blk.new U10V0 40 #[.int .i64 0, .int .i64 0, .int .i64 0, .int .i64 0, .int .i64 0, .int .i64 0, .int .i64 0, .int .i64 0, .int .i64 0]
      refine hK.out _ _ ?_ (fun hHeld39 => ?_)
      · exact s14 hc hd
      clear hK K hHeld39
      generalize U10V0.alloc (.cells #[.int .i64 0, .int .i64 0, .int .i64 0, .int .i64 0, .int .i64 0, .int .i64 0, .int .i64 0, .int .i64 0, .int .i64 0] 40) = U11U10V0 at *
      generalize U10V0.heap.size = a11 at *
      try simp only [Act.put, List.setIfInBounds_toArray, List.set_cons_zero, List.set_cons_succ]
      refine wpAnyH_ready (rs := [1]) (by kernel_rfl) (by simp) ?_
      refine AllReadyH.cons (o := _) (by rw [List.getElem?_toArray]; rfl) (fun K hK => ?_) AllReadyH.nil
      go_simp
      refine (arrowOf_any k hk T hT _).mono ?_
      rintro e V1 ⟨rfl, hb1⟩
      replace hc := cb_keep hb1 hc rfl
      replace hd := cb_keep hb1 hd rfl
      replace hr4 := blk_keep hb1 hr4 rfl
      replace hr5 := blk_keep hb1 hr5 rfl
      replace hA10 := blk_keep hb1 hA10 rfl
      replace hA11 := blk_keep hb1 hA11 rfl
      replace hB := bel_keep hb1 hB rfl rfl rfl rfl hB.size
      clear hb1
      refine hK.out _ _ ?_ (fun hHeld40 => ?_)
      · exact s14 hc hd
      clear hK K hHeld40
      try simp only [Act.put, List.setIfInBounds_toArray, List.set_cons_zero, List.set_cons_succ]
      refine wpAnyH_ready (rs := [3]) (by kernel_rfl) (by simp) ?_
      refine AllReadyH.cons (o := _) (by rw [List.getElem?_toArray]; rfl) (fun K hK => ?_) AllReadyH.nil
      go_simp
      refine (arrowOf_any k hk G hG _).mono ?_
      rintro e V2 ⟨rfl, hb1⟩
      replace hc := cb_keep hb1 hc rfl
      replace hd := cb_keep hb1 hd rfl
      replace hr4 := blk_keep hb1 hr4 rfl
      replace hr5 := blk_keep hb1 hr5 rfl
      replace hA10 := blk_keep hb1 hA10 rfl
      replace hA11 := blk_keep hb1 hA11 rfl
      replace hB := bel_keep hb1 hB rfl rfl rfl rfl hB.size
      clear hb1
      refine hK.out _ _ ?_ (fun hHeld41 => ?_)
      · exact s14 hc hd
      clear hK K hHeld41
      try simp only [Act.put, List.setIfInBounds_toArray, List.set_cons_zero, List.set_cons_succ]
      refine wpAnyH_ready (rs := [6]) (by kernel_rfl) (by simp) ?_
      refine AllReadyH.cons (o := _) (by rw [List.getElem?_toArray]; rfl) (fun K hK => ?_) AllReadyH.nil
      have hq := b9 hA10
      have q0 := hq.1
      have q1 := hq.2.1
      have q2 := hq.2.2.1
      have q3 := hq.2.2.2.1
      have q4 := hq.2.2.2.2.1
      have q5 := hq.2.2.2.2.2.1
      have q6 := hq.2.2.2.2.2.2.1
      have q7 := hq.2.2.2.2.2.2.2.1
      have q8 := hq.2.2.2.2.2.2.2.2.1
      have f0 := hq.2.2.2.2.2.2.2.2.2.1
      have f1 := hq.2.2.2.2.2.2.2.2.2.2.1
      have f2 := hq.2.2.2.2.2.2.2.2.2.2.2.1
      have f3 := hq.2.2.2.2.2.2.2.2.2.2.2.2.1
      have f4 := hq.2.2.2.2.2.2.2.2.2.2.2.2.2.1
      have f5 := hq.2.2.2.2.2.2.2.2.2.2.2.2.2.2.1
      have f6 := hq.2.2.2.2.2.2.2.2.2.2.2.2.2.2.2.1
      have f7 := hq.2.2.2.2.2.2.2.2.2.2.2.2.2.2.2.2.1
      have f8 := hq.2.2.2.2.2.2.2.2.2.2.2.2.2.2.2.2.2.1
      have hlt := hq.2.2.2.2.2.2.2.2.2.2.2.2.2.2.2.2.2.2
      clear hq
      go_simp
      replace hc := cb_far9 hc (show b7 ≠ a10 by omega) (.int .i64 (k : Int)) (.int .i64 (T 0)) (.int .i64 (T 1)) (.int .i64 (T 2)) (.int .i64 (T 3)) (.int .i64 (T 4)) (.int .i64 (T 5)) (.int .i64 (domL (mv T k) : Nat)) (.int .i64 (imN k T : Nat))
      replace hd := cb_far9 hd (show b7 + 1 ≠ a10 by omega) (.int .i64 (k : Int)) (.int .i64 (T 0)) (.int .i64 (T 1)) (.int .i64 (T 2)) (.int .i64 (T 3)) (.int .i64 (T 4)) (.int .i64 (T 5)) (.int .i64 (domL (mv T k) : Nat)) (.int .i64 (imN k T : Nat))
      replace hr4 := blk_far9 hr4 (show w.heap.size ≠ a10 by omega) (.int .i64 (k : Int)) (.int .i64 (T 0)) (.int .i64 (T 1)) (.int .i64 (T 2)) (.int .i64 (T 3)) (.int .i64 (T 4)) (.int .i64 (T 5)) (.int .i64 (domL (mv T k) : Nat)) (.int .i64 (imN k T : Nat))
      replace hr5 := blk_far9 hr5 (show w.heap.size + 1 ≠ a10 by omega) (.int .i64 (k : Int)) (.int .i64 (T 0)) (.int .i64 (T 1)) (.int .i64 (T 2)) (.int .i64 (T 3)) (.int .i64 (T 4)) (.int .i64 (T 5)) (.int .i64 (domL (mv T k) : Nat)) (.int .i64 (imN k T : Nat))
      replace hA11 := blk_far9 hA11 (show a11 ≠ a10 by omega) (.int .i64 (k : Int)) (.int .i64 (T 0)) (.int .i64 (T 1)) (.int .i64 (T 2)) (.int .i64 (T 3)) (.int .i64 (T 4)) (.int .i64 (T 5)) (.int .i64 (domL (mv T k) : Nat)) (.int .i64 (imN k T : Nat))
      replace hA10 := blk_put9 hA10 (.int .i64 (k : Int)) (.int .i64 (T 0)) (.int .i64 (T 1)) (.int .i64 (T 2)) (.int .i64 (T 3)) (.int .i64 (T 4)) (.int .i64 (T 5)) (.int .i64 (domL (mv T k) : Nat)) (.int .i64 (imN k T : Nat))
      replace hB := bel_put9 hB (show w.heap.size ≤ a10 by omega) (.int .i64 (k : Int)) (.int .i64 (T 0)) (.int .i64 (T 1)) (.int .i64 (T 2)) (.int .i64 (T 3)) (.int .i64 (T 4)) (.int .i64 (T 5)) (.int .i64 (domL (mv T k) : Nat)) (.int .i64 (imN k T : Nat))
      clear q0 q1 q2 q3 q4 q5 q6 q7 q8 f0 f1 f2 f3 f4 f5 f6 f7 f8 hlt
      refine hK.out _ _ ?_ (fun hHeld42 => ?_)
      · exact s14 hc hd
      clear hK K hHeld42
      generalize (((((((((V2.setCell ⟨a10, 0, none⟩ (.int .i64 (k : Int))).setCell ⟨a10, 1, none⟩ (.int .i64 (T 0))).setCell ⟨a10, 2, none⟩ (.int .i64 (T 1))).setCell ⟨a10, 3, none⟩ (.int .i64 (T 2))).setCell ⟨a10, 4, none⟩ (.int .i64 (T 3))).setCell ⟨a10, 5, none⟩ (.int .i64 (T 4))).setCell ⟨a10, 6, none⟩ (.int .i64 (T 5))).setCell ⟨a10, 7, none⟩ (.int .i64 (domL (mv T k) : Nat))).setCell ⟨a10, 8, none⟩ (.int .i64 (imN k T : Nat))) = X6 at *
      try simp only [Act.put, List.setIfInBounds_toArray, List.set_cons_zero, List.set_cons_succ]
      refine wpAnyH_ready (rs := [7]) (by kernel_rfl) (by simp) ?_
      refine AllReadyH.cons (o := _) (by rw [List.getElem?_toArray]; rfl) (fun K hK => ?_) AllReadyH.nil
      have hq := b9 hA11
      have q0 := hq.1
      have q1 := hq.2.1
      have q2 := hq.2.2.1
      have q3 := hq.2.2.2.1
      have q4 := hq.2.2.2.2.1
      have q5 := hq.2.2.2.2.2.1
      have q6 := hq.2.2.2.2.2.2.1
      have q7 := hq.2.2.2.2.2.2.2.1
      have q8 := hq.2.2.2.2.2.2.2.2.1
      have f0 := hq.2.2.2.2.2.2.2.2.2.1
      have f1 := hq.2.2.2.2.2.2.2.2.2.2.1
      have f2 := hq.2.2.2.2.2.2.2.2.2.2.2.1
      have f3 := hq.2.2.2.2.2.2.2.2.2.2.2.2.1
      have f4 := hq.2.2.2.2.2.2.2.2.2.2.2.2.2.1
      have f5 := hq.2.2.2.2.2.2.2.2.2.2.2.2.2.2.1
      have f6 := hq.2.2.2.2.2.2.2.2.2.2.2.2.2.2.2.1
      have f7 := hq.2.2.2.2.2.2.2.2.2.2.2.2.2.2.2.2.1
      have f8 := hq.2.2.2.2.2.2.2.2.2.2.2.2.2.2.2.2.2.1
      have hlt := hq.2.2.2.2.2.2.2.2.2.2.2.2.2.2.2.2.2.2
      clear hq
      go_simp
      replace hc := cb_far9 hc (show b7 ≠ a11 by omega) (.int .i64 (k : Int)) (.int .i64 (G 0)) (.int .i64 (G 1)) (.int .i64 (G 2)) (.int .i64 (G 3)) (.int .i64 (G 4)) (.int .i64 (G 5)) (.int .i64 (domL (mv G k) : Nat)) (.int .i64 (imN k G : Nat))
      replace hd := cb_far9 hd (show b7 + 1 ≠ a11 by omega) (.int .i64 (k : Int)) (.int .i64 (G 0)) (.int .i64 (G 1)) (.int .i64 (G 2)) (.int .i64 (G 3)) (.int .i64 (G 4)) (.int .i64 (G 5)) (.int .i64 (domL (mv G k) : Nat)) (.int .i64 (imN k G : Nat))
      replace hr4 := blk_far9 hr4 (show w.heap.size ≠ a11 by omega) (.int .i64 (k : Int)) (.int .i64 (G 0)) (.int .i64 (G 1)) (.int .i64 (G 2)) (.int .i64 (G 3)) (.int .i64 (G 4)) (.int .i64 (G 5)) (.int .i64 (domL (mv G k) : Nat)) (.int .i64 (imN k G : Nat))
      replace hr5 := blk_far9 hr5 (show w.heap.size + 1 ≠ a11 by omega) (.int .i64 (k : Int)) (.int .i64 (G 0)) (.int .i64 (G 1)) (.int .i64 (G 2)) (.int .i64 (G 3)) (.int .i64 (G 4)) (.int .i64 (G 5)) (.int .i64 (domL (mv G k) : Nat)) (.int .i64 (imN k G : Nat))
      replace hA10 := blk_far9 hA10 (show a10 ≠ a11 by omega) (.int .i64 (k : Int)) (.int .i64 (G 0)) (.int .i64 (G 1)) (.int .i64 (G 2)) (.int .i64 (G 3)) (.int .i64 (G 4)) (.int .i64 (G 5)) (.int .i64 (domL (mv G k) : Nat)) (.int .i64 (imN k G : Nat))
      replace hA11 := blk_put9 hA11 (.int .i64 (k : Int)) (.int .i64 (G 0)) (.int .i64 (G 1)) (.int .i64 (G 2)) (.int .i64 (G 3)) (.int .i64 (G 4)) (.int .i64 (G 5)) (.int .i64 (domL (mv G k) : Nat)) (.int .i64 (imN k G : Nat))
      replace hB := bel_put9 hB (show w.heap.size ≤ a11 by omega) (.int .i64 (k : Int)) (.int .i64 (G 0)) (.int .i64 (G 1)) (.int .i64 (G 2)) (.int .i64 (G 3)) (.int .i64 (G 4)) (.int .i64 (G 5)) (.int .i64 (domL (mv G k) : Nat)) (.int .i64 (imN k G : Nat))
      clear q0 q1 q2 q3 q4 q5 q6 q7 q8 f0 f1 f2 f3 f4 f5 f6 f7 f8 hlt
      refine hK.out _ _ ?_ (fun hHeld43 => ?_)
      · exact s14 hc hd
      clear hK K hHeld43
      generalize (((((((((X6.setCell ⟨a11, 0, none⟩ (.int .i64 (k : Int))).setCell ⟨a11, 1, none⟩ (.int .i64 (G 0))).setCell ⟨a11, 2, none⟩ (.int .i64 (G 1))).setCell ⟨a11, 3, none⟩ (.int .i64 (G 2))).setCell ⟨a11, 4, none⟩ (.int .i64 (G 3))).setCell ⟨a11, 5, none⟩ (.int .i64 (G 4))).setCell ⟨a11, 6, none⟩ (.int .i64 (G 5))).setCell ⟨a11, 7, none⟩ (.int .i64 (domL (mv G k) : Nat))).setCell ⟨a11, 8, none⟩ (.int .i64 (imN k G : Nat))) = X7 at *
      try simp only [Act.put, List.setIfInBounds_toArray, List.set_cons_zero, List.set_cons_succ]
      refine wpAnyH_done (by kernel_rfl) ?_ _
      exact HK.out _ a10 a11 hA10 hA11 hr4 hr5 (by omega) (by omega) (by omega) hB
    refine AllReadyH.cons (o := _) (by rw [List.getElem?_toArray]; rfl) (fun K hK => ?_) AllReadyH.nil
    go_simp
    have hsz : b7 + 2 ≤ V0.heap.size := by have := hd.lt; omega
    replace hc := hc.alloc (.cells #[.int .i64 0, .int .i64 0, .int .i64 0, .int .i64 0, .int .i64 0, .int .i64 0, .int .i64 0, .int .i64 0, .int .i64 0] 40)
    replace hd := hd.alloc (.cells #[.int .i64 0, .int .i64 0, .int .i64 0, .int .i64 0, .int .i64 0, .int .i64 0, .int .i64 0, .int .i64 0, .int .i64 0] 40)
    replace hr4 := hr4.alloc (.cells #[.int .i64 0, .int .i64 0, .int .i64 0, .int .i64 0, .int .i64 0, .int .i64 0, .int .i64 0, .int .i64 0, .int .i64 0] 40)
    replace hr5 := hr5.alloc (.cells #[.int .i64 0, .int .i64 0, .int .i64 0, .int .i64 0, .int .i64 0, .int .i64 0, .int .i64 0, .int .i64 0, .int .i64 0] 40)
    replace hB := hB.alloc hB.size (.cells #[.int .i64 0, .int .i64 0, .int .i64 0, .int .i64 0, .int .i64 0, .int .i64 0, .int .i64 0, .int .i64 0, .int .i64 0] 40)
    have hA11 := Blk.new V0 40 #[.int .i64 0, .int .i64 0, .int .i64 0, .int .i64 0, .int .i64 0, .int .i64 0, .int .i64 0, .int .i64 0, .int .i64 0]
    refine hK.out _ _ ?_ (fun hHeld44 => ?_)
    · exact s14 hc hd
    clear hK K hHeld44
    generalize V0.alloc (.cells #[.int .i64 0, .int .i64 0, .int .i64 0, .int .i64 0, .int .i64 0, .int .i64 0, .int .i64 0, .int .i64 0, .int .i64 0] 40) = U11V0 at *
    generalize V0.heap.size = a11 at *
    try simp only [Act.put, List.setIfInBounds_toArray, List.set_cons_zero, List.set_cons_succ]
    refine wpAnyH_ready (rs := [1, 4]) (by kernel_rfl) (by simp) ?_
    refine AllReadyH.cons (o := _) (by rw [List.getElem?_toArray]; rfl) (fun K hK => ?_) ?_
    · go_simp
      refine (arrowOf_any k hk T hT _).mono ?_
      rintro e V1 ⟨rfl, hb1⟩
      replace hc := cb_keep hb1 hc rfl
      replace hd := cb_keep hb1 hd rfl
      replace hr4 := blk_keep hb1 hr4 rfl
      replace hr5 := blk_keep hb1 hr5 rfl
      replace hA11 := blk_keep hb1 hA11 rfl
      replace hB := bel_keep hb1 hB rfl rfl rfl rfl hB.size
      clear hb1
      refine hK.out _ _ ?_ (fun hHeld45 => ?_)
      · exact s14 hc hd
      clear hK K hHeld45
      try simp only [Act.put, List.setIfInBounds_toArray, List.set_cons_zero, List.set_cons_succ]
      refine wpAnyH_ready (rs := [3, 4]) (by kernel_rfl) (by simp) ?_
      refine AllReadyH.cons (o := _) (by rw [List.getElem?_toArray]; rfl) (fun K hK => ?_) ?_
      · go_simp
        refine (arrowOf_any k hk G hG _).mono ?_
        rintro e V2 ⟨rfl, hb1⟩
        replace hc := cb_keep hb1 hc rfl
        replace hd := cb_keep hb1 hd rfl
        replace hr4 := blk_keep hb1 hr4 rfl
        replace hr5 := blk_keep hb1 hr5 rfl
        replace hA11 := blk_keep hb1 hA11 rfl
        replace hB := bel_keep hb1 hB rfl rfl rfl rfl hB.size
        clear hb1
        refine hK.out _ _ ?_ (fun hHeld46 => ?_)
        · exact s14 hc hd
        clear hK K hHeld46
        try simp only [Act.put, List.setIfInBounds_toArray, List.set_cons_zero, List.set_cons_succ]
        refine wpAnyH_ready (rs := [4]) (by kernel_rfl) (by simp) ?_
        refine AllReadyH.cons (o := _) (by rw [List.getElem?_toArray]; rfl) (fun K hK => ?_) AllReadyH.nil
        go_simp
        have hsz : b7 + 2 ≤ V2.heap.size := by have := hd.lt; omega
        have hne := hA11.lt
        replace hA11 := hA11.alloc (.cells #[.int .i64 0, .int .i64 0, .int .i64 0, .int .i64 0, .int .i64 0, .int .i64 0, .int .i64 0, .int .i64 0, .int .i64 0] 40)
        replace hc := hc.alloc (.cells #[.int .i64 0, .int .i64 0, .int .i64 0, .int .i64 0, .int .i64 0, .int .i64 0, .int .i64 0, .int .i64 0, .int .i64 0] 40)
        replace hd := hd.alloc (.cells #[.int .i64 0, .int .i64 0, .int .i64 0, .int .i64 0, .int .i64 0, .int .i64 0, .int .i64 0, .int .i64 0, .int .i64 0] 40)
        replace hr4 := hr4.alloc (.cells #[.int .i64 0, .int .i64 0, .int .i64 0, .int .i64 0, .int .i64 0, .int .i64 0, .int .i64 0, .int .i64 0, .int .i64 0] 40)
        replace hr5 := hr5.alloc (.cells #[.int .i64 0, .int .i64 0, .int .i64 0, .int .i64 0, .int .i64 0, .int .i64 0, .int .i64 0, .int .i64 0, .int .i64 0] 40)
        replace hB := hB.alloc hB.size (.cells #[.int .i64 0, .int .i64 0, .int .i64 0, .int .i64 0, .int .i64 0, .int .i64 0, .int .i64 0, .int .i64 0, .int .i64 0] 40)
        have hA10 := Blk.new V2 40 #[.int .i64 0, .int .i64 0, .int .i64 0, .int .i64 0, .int .i64 0, .int .i64 0, .int .i64 0, .int .i64 0, .int .i64 0]
        refine hK.out _ _ ?_ (fun hHeld47 => ?_)
        · exact s14 hc hd
        clear hK K hHeld47
        generalize V2.alloc (.cells #[.int .i64 0, .int .i64 0, .int .i64 0, .int .i64 0, .int .i64 0, .int .i64 0, .int .i64 0, .int .i64 0, .int .i64 0] 40) = U10V2 at *
        generalize V2.heap.size = a10 at *
        try simp only [Act.put, List.setIfInBounds_toArray, List.set_cons_zero, List.set_cons_succ]
        refine wpAnyH_ready (rs := [6]) (by kernel_rfl) (by simp) ?_
        refine AllReadyH.cons (o := _) (by rw [List.getElem?_toArray]; rfl) (fun K hK => ?_) AllReadyH.nil
        have hq := b9 hA10
        have q0 := hq.1
        have q1 := hq.2.1
        have q2 := hq.2.2.1
        have q3 := hq.2.2.2.1
        have q4 := hq.2.2.2.2.1
        have q5 := hq.2.2.2.2.2.1
        have q6 := hq.2.2.2.2.2.2.1
        have q7 := hq.2.2.2.2.2.2.2.1
        have q8 := hq.2.2.2.2.2.2.2.2.1
        have f0 := hq.2.2.2.2.2.2.2.2.2.1
        have f1 := hq.2.2.2.2.2.2.2.2.2.2.1
        have f2 := hq.2.2.2.2.2.2.2.2.2.2.2.1
        have f3 := hq.2.2.2.2.2.2.2.2.2.2.2.2.1
        have f4 := hq.2.2.2.2.2.2.2.2.2.2.2.2.2.1
        have f5 := hq.2.2.2.2.2.2.2.2.2.2.2.2.2.2.1
        have f6 := hq.2.2.2.2.2.2.2.2.2.2.2.2.2.2.2.1
        have f7 := hq.2.2.2.2.2.2.2.2.2.2.2.2.2.2.2.2.1
        have f8 := hq.2.2.2.2.2.2.2.2.2.2.2.2.2.2.2.2.2.1
        have hlt := hq.2.2.2.2.2.2.2.2.2.2.2.2.2.2.2.2.2.2
        clear hq
        go_simp
        replace hc := cb_far9 hc (show b7 ≠ a10 by omega) (.int .i64 (k : Int)) (.int .i64 (T 0)) (.int .i64 (T 1)) (.int .i64 (T 2)) (.int .i64 (T 3)) (.int .i64 (T 4)) (.int .i64 (T 5)) (.int .i64 (domL (mv T k) : Nat)) (.int .i64 (imN k T : Nat))
        replace hd := cb_far9 hd (show b7 + 1 ≠ a10 by omega) (.int .i64 (k : Int)) (.int .i64 (T 0)) (.int .i64 (T 1)) (.int .i64 (T 2)) (.int .i64 (T 3)) (.int .i64 (T 4)) (.int .i64 (T 5)) (.int .i64 (domL (mv T k) : Nat)) (.int .i64 (imN k T : Nat))
        replace hr4 := blk_far9 hr4 (show w.heap.size ≠ a10 by omega) (.int .i64 (k : Int)) (.int .i64 (T 0)) (.int .i64 (T 1)) (.int .i64 (T 2)) (.int .i64 (T 3)) (.int .i64 (T 4)) (.int .i64 (T 5)) (.int .i64 (domL (mv T k) : Nat)) (.int .i64 (imN k T : Nat))
        replace hr5 := blk_far9 hr5 (show w.heap.size + 1 ≠ a10 by omega) (.int .i64 (k : Int)) (.int .i64 (T 0)) (.int .i64 (T 1)) (.int .i64 (T 2)) (.int .i64 (T 3)) (.int .i64 (T 4)) (.int .i64 (T 5)) (.int .i64 (domL (mv T k) : Nat)) (.int .i64 (imN k T : Nat))
        replace hA11 := blk_far9 hA11 (show a11 ≠ a10 by omega) (.int .i64 (k : Int)) (.int .i64 (T 0)) (.int .i64 (T 1)) (.int .i64 (T 2)) (.int .i64 (T 3)) (.int .i64 (T 4)) (.int .i64 (T 5)) (.int .i64 (domL (mv T k) : Nat)) (.int .i64 (imN k T : Nat))
        replace hA10 := blk_put9 hA10 (.int .i64 (k : Int)) (.int .i64 (T 0)) (.int .i64 (T 1)) (.int .i64 (T 2)) (.int .i64 (T 3)) (.int .i64 (T 4)) (.int .i64 (T 5)) (.int .i64 (domL (mv T k) : Nat)) (.int .i64 (imN k T : Nat))
        replace hB := bel_put9 hB (show w.heap.size ≤ a10 by omega) (.int .i64 (k : Int)) (.int .i64 (T 0)) (.int .i64 (T 1)) (.int .i64 (T 2)) (.int .i64 (T 3)) (.int .i64 (T 4)) (.int .i64 (T 5)) (.int .i64 (domL (mv T k) : Nat)) (.int .i64 (imN k T : Nat))
        clear q0 q1 q2 q3 q4 q5 q6 q7 q8 f0 f1 f2 f3 f4 f5 f6 f7 f8 hlt
        refine hK.out _ _ ?_ (fun hHeld48 => ?_)
        · exact s14 hc hd
        clear hK K hHeld48
        generalize (((((((((U10V2.setCell ⟨a10, 0, none⟩ (.int .i64 (k : Int))).setCell ⟨a10, 1, none⟩ (.int .i64 (T 0))).setCell ⟨a10, 2, none⟩ (.int .i64 (T 1))).setCell ⟨a10, 3, none⟩ (.int .i64 (T 2))).setCell ⟨a10, 4, none⟩ (.int .i64 (T 3))).setCell ⟨a10, 5, none⟩ (.int .i64 (T 4))).setCell ⟨a10, 6, none⟩ (.int .i64 (T 5))).setCell ⟨a10, 7, none⟩ (.int .i64 (domL (mv T k) : Nat))).setCell ⟨a10, 8, none⟩ (.int .i64 (imN k T : Nat))) = X6 at *
        try simp only [Act.put, List.setIfInBounds_toArray, List.set_cons_zero, List.set_cons_succ]
        refine wpAnyH_ready (rs := [7]) (by kernel_rfl) (by simp) ?_
        refine AllReadyH.cons (o := _) (by rw [List.getElem?_toArray]; rfl) (fun K hK => ?_) AllReadyH.nil
        have hq := b9 hA11
        have q0 := hq.1
        have q1 := hq.2.1
        have q2 := hq.2.2.1
        have q3 := hq.2.2.2.1
        have q4 := hq.2.2.2.2.1
        have q5 := hq.2.2.2.2.2.1
        have q6 := hq.2.2.2.2.2.2.1
        have q7 := hq.2.2.2.2.2.2.2.1
        have q8 := hq.2.2.2.2.2.2.2.2.1
        have f0 := hq.2.2.2.2.2.2.2.2.2.1
        have f1 := hq.2.2.2.2.2.2.2.2.2.2.1
        have f2 := hq.2.2.2.2.2.2.2.2.2.2.2.1
        have f3 := hq.2.2.2.2.2.2.2.2.2.2.2.2.1
        have f4 := hq.2.2.2.2.2.2.2.2.2.2.2.2.2.1
        have f5 := hq.2.2.2.2.2.2.2.2.2.2.2.2.2.2.1
        have f6 := hq.2.2.2.2.2.2.2.2.2.2.2.2.2.2.2.1
        have f7 := hq.2.2.2.2.2.2.2.2.2.2.2.2.2.2.2.2.1
        have f8 := hq.2.2.2.2.2.2.2.2.2.2.2.2.2.2.2.2.2.1
        have hlt := hq.2.2.2.2.2.2.2.2.2.2.2.2.2.2.2.2.2.2
        clear hq
        go_simp
        replace hc := cb_far9 hc (show b7 ≠ a11 by omega) (.int .i64 (k : Int)) (.int .i64 (G 0)) (.int .i64 (G 1)) (.int .i64 (G 2)) (.int .i64 (G 3)) (.int .i64 (G 4)) (.int .i64 (G 5)) (.int .i64 (domL (mv G k) : Nat)) (.int .i64 (imN k G : Nat))
        replace hd := cb_far9 hd (show b7 + 1 ≠ a11 by omega) (.int .i64 (k : Int)) (.int .i64 (G 0)) (.int .i64 (G 1)) (.int .i64 (G 2)) (.int .i64 (G 3)) (.int .i64 (G 4)) (.int .i64 (G 5)) (.int .i64 (domL (mv G k) : Nat)) (.int .i64 (imN k G : Nat))
        replace hr4 := blk_far9 hr4 (show w.heap.size ≠ a11 by omega) (.int .i64 (k : Int)) (.int .i64 (G 0)) (.int .i64 (G 1)) (.int .i64 (G 2)) (.int .i64 (G 3)) (.int .i64 (G 4)) (.int .i64 (G 5)) (.int .i64 (domL (mv G k) : Nat)) (.int .i64 (imN k G : Nat))
        replace hr5 := blk_far9 hr5 (show w.heap.size + 1 ≠ a11 by omega) (.int .i64 (k : Int)) (.int .i64 (G 0)) (.int .i64 (G 1)) (.int .i64 (G 2)) (.int .i64 (G 3)) (.int .i64 (G 4)) (.int .i64 (G 5)) (.int .i64 (domL (mv G k) : Nat)) (.int .i64 (imN k G : Nat))
        replace hA10 := blk_far9 hA10 (show a10 ≠ a11 by omega) (.int .i64 (k : Int)) (.int .i64 (G 0)) (.int .i64 (G 1)) (.int .i64 (G 2)) (.int .i64 (G 3)) (.int .i64 (G 4)) (.int .i64 (G 5)) (.int .i64 (domL (mv G k) : Nat)) (.int .i64 (imN k G : Nat))
        replace hA11 := blk_put9 hA11 (.int .i64 (k : Int)) (.int .i64 (G 0)) (.int .i64 (G 1)) (.int .i64 (G 2)) (.int .i64 (G 3)) (.int .i64 (G 4)) (.int .i64 (G 5)) (.int .i64 (domL (mv G k) : Nat)) (.int .i64 (imN k G : Nat))
        replace hB := bel_put9 hB (show w.heap.size ≤ a11 by omega) (.int .i64 (k : Int)) (.int .i64 (G 0)) (.int .i64 (G 1)) (.int .i64 (G 2)) (.int .i64 (G 3)) (.int .i64 (G 4)) (.int .i64 (G 5)) (.int .i64 (domL (mv G k) : Nat)) (.int .i64 (imN k G : Nat))
        clear q0 q1 q2 q3 q4 q5 q6 q7 q8 f0 f1 f2 f3 f4 f5 f6 f7 f8 hlt
        refine hK.out _ _ ?_ (fun hHeld49 => ?_)
        · exact s14 hc hd
        clear hK K hHeld49
        generalize (((((((((X6.setCell ⟨a11, 0, none⟩ (.int .i64 (k : Int))).setCell ⟨a11, 1, none⟩ (.int .i64 (G 0))).setCell ⟨a11, 2, none⟩ (.int .i64 (G 1))).setCell ⟨a11, 3, none⟩ (.int .i64 (G 2))).setCell ⟨a11, 4, none⟩ (.int .i64 (G 3))).setCell ⟨a11, 5, none⟩ (.int .i64 (G 4))).setCell ⟨a11, 6, none⟩ (.int .i64 (G 5))).setCell ⟨a11, 7, none⟩ (.int .i64 (domL (mv G k) : Nat))).setCell ⟨a11, 8, none⟩ (.int .i64 (imN k G : Nat))) = X7 at *
        try simp only [Act.put, List.setIfInBounds_toArray, List.set_cons_zero, List.set_cons_succ]
        refine wpAnyH_done (by kernel_rfl) ?_ _
        exact HK.out _ a10 a11 hA10 hA11 hr4 hr5 (by omega) (by omega) (by omega) hB
      refine AllReadyH.cons (o := _) (by rw [List.getElem?_toArray]; rfl) (fun K hK => ?_) AllReadyH.nil
      go_simp
      have hsz : b7 + 2 ≤ V1.heap.size := by have := hd.lt; omega
      have hne := hA11.lt
      replace hA11 := hA11.alloc (.cells #[.int .i64 0, .int .i64 0, .int .i64 0, .int .i64 0, .int .i64 0, .int .i64 0, .int .i64 0, .int .i64 0, .int .i64 0] 40)
      replace hc := hc.alloc (.cells #[.int .i64 0, .int .i64 0, .int .i64 0, .int .i64 0, .int .i64 0, .int .i64 0, .int .i64 0, .int .i64 0, .int .i64 0] 40)
      replace hd := hd.alloc (.cells #[.int .i64 0, .int .i64 0, .int .i64 0, .int .i64 0, .int .i64 0, .int .i64 0, .int .i64 0, .int .i64 0, .int .i64 0] 40)
      replace hr4 := hr4.alloc (.cells #[.int .i64 0, .int .i64 0, .int .i64 0, .int .i64 0, .int .i64 0, .int .i64 0, .int .i64 0, .int .i64 0, .int .i64 0] 40)
      replace hr5 := hr5.alloc (.cells #[.int .i64 0, .int .i64 0, .int .i64 0, .int .i64 0, .int .i64 0, .int .i64 0, .int .i64 0, .int .i64 0, .int .i64 0] 40)
      replace hB := hB.alloc hB.size (.cells #[.int .i64 0, .int .i64 0, .int .i64 0, .int .i64 0, .int .i64 0, .int .i64 0, .int .i64 0, .int .i64 0, .int .i64 0] 40)
      have hA10 := Blk.new V1 40 #[.int .i64 0, .int .i64 0, .int .i64 0, .int .i64 0, .int .i64 0, .int .i64 0, .int .i64 0, .int .i64 0, .int .i64 0]
      refine hK.out _ _ ?_ (fun hHeld50 => ?_)
      · exact s14 hc hd
      clear hK K hHeld50
      generalize V1.alloc (.cells #[.int .i64 0, .int .i64 0, .int .i64 0, .int .i64 0, .int .i64 0, .int .i64 0, .int .i64 0, .int .i64 0, .int .i64 0] 40) = U10V1 at *
      generalize V1.heap.size = a10 at *
      try simp only [Act.put, List.setIfInBounds_toArray, List.set_cons_zero, List.set_cons_succ]
      refine wpAnyH_ready (rs := [3]) (by kernel_rfl) (by simp) ?_
      refine AllReadyH.cons (o := _) (by rw [List.getElem?_toArray]; rfl) (fun K hK => ?_) AllReadyH.nil
      go_simp
      refine (arrowOf_any k hk G hG _).mono ?_
      rintro e V2 ⟨rfl, hb1⟩
      replace hc := cb_keep hb1 hc rfl
      replace hd := cb_keep hb1 hd rfl
      replace hr4 := blk_keep hb1 hr4 rfl
      replace hr5 := blk_keep hb1 hr5 rfl
      replace hA10 := blk_keep hb1 hA10 rfl
      replace hA11 := blk_keep hb1 hA11 rfl
      replace hB := bel_keep hb1 hB rfl rfl rfl rfl hB.size
      clear hb1
      refine hK.out _ _ ?_ (fun hHeld51 => ?_)
      · exact s14 hc hd
      clear hK K hHeld51
      try simp only [Act.put, List.setIfInBounds_toArray, List.set_cons_zero, List.set_cons_succ]
      refine wpAnyH_ready (rs := [6]) (by kernel_rfl) (by simp) ?_
      refine AllReadyH.cons (o := _) (by rw [List.getElem?_toArray]; rfl) (fun K hK => ?_) AllReadyH.nil
      have hq := b9 hA10
      have q0 := hq.1
      have q1 := hq.2.1
      have q2 := hq.2.2.1
      have q3 := hq.2.2.2.1
      have q4 := hq.2.2.2.2.1
      have q5 := hq.2.2.2.2.2.1
      have q6 := hq.2.2.2.2.2.2.1
      have q7 := hq.2.2.2.2.2.2.2.1
      have q8 := hq.2.2.2.2.2.2.2.2.1
      have f0 := hq.2.2.2.2.2.2.2.2.2.1
      have f1 := hq.2.2.2.2.2.2.2.2.2.2.1
      have f2 := hq.2.2.2.2.2.2.2.2.2.2.2.1
      have f3 := hq.2.2.2.2.2.2.2.2.2.2.2.2.1
      have f4 := hq.2.2.2.2.2.2.2.2.2.2.2.2.2.1
      have f5 := hq.2.2.2.2.2.2.2.2.2.2.2.2.2.2.1
      have f6 := hq.2.2.2.2.2.2.2.2.2.2.2.2.2.2.2.1
      have f7 := hq.2.2.2.2.2.2.2.2.2.2.2.2.2.2.2.2.1
      have f8 := hq.2.2.2.2.2.2.2.2.2.2.2.2.2.2.2.2.2.1
      have hlt := hq.2.2.2.2.2.2.2.2.2.2.2.2.2.2.2.2.2.2
      clear hq
      go_simp
      replace hc := cb_far9 hc (show b7 ≠ a10 by omega) (.int .i64 (k : Int)) (.int .i64 (T 0)) (.int .i64 (T 1)) (.int .i64 (T 2)) (.int .i64 (T 3)) (.int .i64 (T 4)) (.int .i64 (T 5)) (.int .i64 (domL (mv T k) : Nat)) (.int .i64 (imN k T : Nat))
      replace hd := cb_far9 hd (show b7 + 1 ≠ a10 by omega) (.int .i64 (k : Int)) (.int .i64 (T 0)) (.int .i64 (T 1)) (.int .i64 (T 2)) (.int .i64 (T 3)) (.int .i64 (T 4)) (.int .i64 (T 5)) (.int .i64 (domL (mv T k) : Nat)) (.int .i64 (imN k T : Nat))
      replace hr4 := blk_far9 hr4 (show w.heap.size ≠ a10 by omega) (.int .i64 (k : Int)) (.int .i64 (T 0)) (.int .i64 (T 1)) (.int .i64 (T 2)) (.int .i64 (T 3)) (.int .i64 (T 4)) (.int .i64 (T 5)) (.int .i64 (domL (mv T k) : Nat)) (.int .i64 (imN k T : Nat))
      replace hr5 := blk_far9 hr5 (show w.heap.size + 1 ≠ a10 by omega) (.int .i64 (k : Int)) (.int .i64 (T 0)) (.int .i64 (T 1)) (.int .i64 (T 2)) (.int .i64 (T 3)) (.int .i64 (T 4)) (.int .i64 (T 5)) (.int .i64 (domL (mv T k) : Nat)) (.int .i64 (imN k T : Nat))
      replace hA11 := blk_far9 hA11 (show a11 ≠ a10 by omega) (.int .i64 (k : Int)) (.int .i64 (T 0)) (.int .i64 (T 1)) (.int .i64 (T 2)) (.int .i64 (T 3)) (.int .i64 (T 4)) (.int .i64 (T 5)) (.int .i64 (domL (mv T k) : Nat)) (.int .i64 (imN k T : Nat))
      replace hA10 := blk_put9 hA10 (.int .i64 (k : Int)) (.int .i64 (T 0)) (.int .i64 (T 1)) (.int .i64 (T 2)) (.int .i64 (T 3)) (.int .i64 (T 4)) (.int .i64 (T 5)) (.int .i64 (domL (mv T k) : Nat)) (.int .i64 (imN k T : Nat))
      replace hB := bel_put9 hB (show w.heap.size ≤ a10 by omega) (.int .i64 (k : Int)) (.int .i64 (T 0)) (.int .i64 (T 1)) (.int .i64 (T 2)) (.int .i64 (T 3)) (.int .i64 (T 4)) (.int .i64 (T 5)) (.int .i64 (domL (mv T k) : Nat)) (.int .i64 (imN k T : Nat))
      clear q0 q1 q2 q3 q4 q5 q6 q7 q8 f0 f1 f2 f3 f4 f5 f6 f7 f8 hlt
      refine hK.out _ _ ?_ (fun hHeld52 => ?_)
      · exact s14 hc hd
      clear hK K hHeld52
      generalize (((((((((V2.setCell ⟨a10, 0, none⟩ (.int .i64 (k : Int))).setCell ⟨a10, 1, none⟩ (.int .i64 (T 0))).setCell ⟨a10, 2, none⟩ (.int .i64 (T 1))).setCell ⟨a10, 3, none⟩ (.int .i64 (T 2))).setCell ⟨a10, 4, none⟩ (.int .i64 (T 3))).setCell ⟨a10, 5, none⟩ (.int .i64 (T 4))).setCell ⟨a10, 6, none⟩ (.int .i64 (T 5))).setCell ⟨a10, 7, none⟩ (.int .i64 (domL (mv T k) : Nat))).setCell ⟨a10, 8, none⟩ (.int .i64 (imN k T : Nat))) = X6 at *
      try simp only [Act.put, List.setIfInBounds_toArray, List.set_cons_zero, List.set_cons_succ]
      refine wpAnyH_ready (rs := [7]) (by kernel_rfl) (by simp) ?_
      refine AllReadyH.cons (o := _) (by rw [List.getElem?_toArray]; rfl) (fun K hK => ?_) AllReadyH.nil
      have hq := b9 hA11
      have q0 := hq.1
      have q1 := hq.2.1
      have q2 := hq.2.2.1
      have q3 := hq.2.2.2.1
      have q4 := hq.2.2.2.2.1
      have q5 := hq.2.2.2.2.2.1
      have q6 := hq.2.2.2.2.2.2.1
      have q7 := hq.2.2.2.2.2.2.2.1
      have q8 := hq.2.2.2.2.2.2.2.2.1
      have f0 := hq.2.2.2.2.2.2.2.2.2.1
      have f1 := hq.2.2.2.2.2.2.2.2.2.2.1
      have f2 := hq.2.2.2.2.2.2.2.2.2.2.2.1
      have f3 := hq.2.2.2.2.2.2.2.2.2.2.2.2.1
      have f4 := hq.2.2.2.2.2.2.2.2.2.2.2.2.2.1
      have f5 := hq.2.2.2.2.2.2.2.2.2.2.2.2.2.2.1
      have f6 := hq.2.2.2.2.2.2.2.2.2.2.2.2.2.2.2.1
      have f7 := hq.2.2.2.2.2.2.2.2.2.2.2.2.2.2.2.2.1
      have f8 := hq.2.2.2.2.2.2.2.2.2.2.2.2.2.2.2.2.2.1
      have hlt := hq.2.2.2.2.2.2.2.2.2.2.2.2.2.2.2.2.2.2
      clear hq
      go_simp
      replace hc := cb_far9 hc (show b7 ≠ a11 by omega) (.int .i64 (k : Int)) (.int .i64 (G 0)) (.int .i64 (G 1)) (.int .i64 (G 2)) (.int .i64 (G 3)) (.int .i64 (G 4)) (.int .i64 (G 5)) (.int .i64 (domL (mv G k) : Nat)) (.int .i64 (imN k G : Nat))
      replace hd := cb_far9 hd (show b7 + 1 ≠ a11 by omega) (.int .i64 (k : Int)) (.int .i64 (G 0)) (.int .i64 (G 1)) (.int .i64 (G 2)) (.int .i64 (G 3)) (.int .i64 (G 4)) (.int .i64 (G 5)) (.int .i64 (domL (mv G k) : Nat)) (.int .i64 (imN k G : Nat))
      replace hr4 := blk_far9 hr4 (show w.heap.size ≠ a11 by omega) (.int .i64 (k : Int)) (.int .i64 (G 0)) (.int .i64 (G 1)) (.int .i64 (G 2)) (.int .i64 (G 3)) (.int .i64 (G 4)) (.int .i64 (G 5)) (.int .i64 (domL (mv G k) : Nat)) (.int .i64 (imN k G : Nat))
      replace hr5 := blk_far9 hr5 (show w.heap.size + 1 ≠ a11 by omega) (.int .i64 (k : Int)) (.int .i64 (G 0)) (.int .i64 (G 1)) (.int .i64 (G 2)) (.int .i64 (G 3)) (.int .i64 (G 4)) (.int .i64 (G 5)) (.int .i64 (domL (mv G k) : Nat)) (.int .i64 (imN k G : Nat))
      replace hA10 := blk_far9 hA10 (show a10 ≠ a11 by omega) (.int .i64 (k : Int)) (.int .i64 (G 0)) (.int .i64 (G 1)) (.int .i64 (G 2)) (.int .i64 (G 3)) (.int .i64 (G 4)) (.int .i64 (G 5)) (.int .i64 (domL (mv G k) : Nat)) (.int .i64 (imN k G : Nat))
      replace hA11 := blk_put9 hA11 (.int .i64 (k : Int)) (.int .i64 (G 0)) (.int .i64 (G 1)) (.int .i64 (G 2)) (.int .i64 (G 3)) (.int .i64 (G 4)) (.int .i64 (G 5)) (.int .i64 (domL (mv G k) : Nat)) (.int .i64 (imN k G : Nat))
      replace hB := bel_put9 hB (show w.heap.size ≤ a11 by omega) (.int .i64 (k : Int)) (.int .i64 (G 0)) (.int .i64 (G 1)) (.int .i64 (G 2)) (.int .i64 (G 3)) (.int .i64 (G 4)) (.int .i64 (G 5)) (.int .i64 (domL (mv G k) : Nat)) (.int .i64 (imN k G : Nat))
      clear q0 q1 q2 q3 q4 q5 q6 q7 q8 f0 f1 f2 f3 f4 f5 f6 f7 f8 hlt
      refine hK.out _ _ ?_ (fun hHeld53 => ?_)
      · exact s14 hc hd
      clear hK K hHeld53
      generalize (((((((((X6.setCell ⟨a11, 0, none⟩ (.int .i64 (k : Int))).setCell ⟨a11, 1, none⟩ (.int .i64 (G 0))).setCell ⟨a11, 2, none⟩ (.int .i64 (G 1))).setCell ⟨a11, 3, none⟩ (.int .i64 (G 2))).setCell ⟨a11, 4, none⟩ (.int .i64 (G 3))).setCell ⟨a11, 5, none⟩ (.int .i64 (G 4))).setCell ⟨a11, 6, none⟩ (.int .i64 (G 5))).setCell ⟨a11, 7, none⟩ (.int .i64 (domL (mv G k) : Nat))).setCell ⟨a11, 8, none⟩ (.int .i64 (imN k G : Nat))) = X7 at *
      try simp only [Act.put, List.setIfInBounds_toArray, List.set_cons_zero, List.set_cons_succ]
      refine wpAnyH_done (by kernel_rfl) ?_ _
      exact HK.out _ a10 a11 hA10 hA11 hr4 hr5 (by omega) (by omega) (by omega) hB
    refine AllReadyH.cons (o := _) (by rw [List.getElem?_toArray]; rfl) (fun K hK => ?_) AllReadyH.nil
    go_simp
    have hsz : b7 + 2 ≤ U11V0.heap.size := by have := hd.lt; omega
    have hne := hA11.lt
    replace hA11 := hA11.alloc (.cells #[.int .i64 0, .int .i64 0, .int .i64 0, .int .i64 0, .int .i64 0, .int .i64 0, .int .i64 0, .int .i64 0, .int .i64 0] 40)
    replace hc := hc.alloc (.cells #[.int .i64 0, .int .i64 0, .int .i64 0, .int .i64 0, .int .i64 0, .int .i64 0, .int .i64 0, .int .i64 0, .int .i64 0] 40)
    replace hd := hd.alloc (.cells #[.int .i64 0, .int .i64 0, .int .i64 0, .int .i64 0, .int .i64 0, .int .i64 0, .int .i64 0, .int .i64 0, .int .i64 0] 40)
    replace hr4 := hr4.alloc (.cells #[.int .i64 0, .int .i64 0, .int .i64 0, .int .i64 0, .int .i64 0, .int .i64 0, .int .i64 0, .int .i64 0, .int .i64 0] 40)
    replace hr5 := hr5.alloc (.cells #[.int .i64 0, .int .i64 0, .int .i64 0, .int .i64 0, .int .i64 0, .int .i64 0, .int .i64 0, .int .i64 0, .int .i64 0] 40)
    replace hB := hB.alloc hB.size (.cells #[.int .i64 0, .int .i64 0, .int .i64 0, .int .i64 0, .int .i64 0, .int .i64 0, .int .i64 0, .int .i64 0, .int .i64 0] 40)
    have hA10 := Blk.new U11V0 40 #[.int .i64 0, .int .i64 0, .int .i64 0, .int .i64 0, .int .i64 0, .int .i64 0, .int .i64 0, .int .i64 0, .int .i64 0]
    refine hK.out _ _ ?_ (fun hHeld54 => ?_)
    · exact s14 hc hd
    clear hK K hHeld54
    generalize U11V0.alloc (.cells #[.int .i64 0, .int .i64 0, .int .i64 0, .int .i64 0, .int .i64 0, .int .i64 0, .int .i64 0, .int .i64 0, .int .i64 0] 40) = U10U11V0 at *
    generalize U11V0.heap.size = a10 at *
    try simp only [Act.put, List.setIfInBounds_toArray, List.set_cons_zero, List.set_cons_succ]
    refine wpAnyH_ready (rs := [1]) (by kernel_rfl) (by simp) ?_
    refine AllReadyH.cons (o := _) (by rw [List.getElem?_toArray]; rfl) (fun K hK => ?_) AllReadyH.nil
    go_simp
    refine (arrowOf_any k hk T hT _).mono ?_
    rintro e V1 ⟨rfl, hb1⟩
    replace hc := cb_keep hb1 hc rfl
    replace hd := cb_keep hb1 hd rfl
    replace hr4 := blk_keep hb1 hr4 rfl
    replace hr5 := blk_keep hb1 hr5 rfl
    replace hA10 := blk_keep hb1 hA10 rfl
    replace hA11 := blk_keep hb1 hA11 rfl
    replace hB := bel_keep hb1 hB rfl rfl rfl rfl hB.size
    clear hb1
    refine hK.out _ _ ?_ (fun hHeld55 => ?_)
    · exact s14 hc hd
    clear hK K hHeld55
    try simp only [Act.put, List.setIfInBounds_toArray, List.set_cons_zero, List.set_cons_succ]
    refine wpAnyH_ready (rs := [3]) (by kernel_rfl) (by simp) ?_
    refine AllReadyH.cons (o := _) (by rw [List.getElem?_toArray]; rfl) (fun K hK => ?_) AllReadyH.nil
    go_simp
    refine (arrowOf_any k hk G hG _).mono ?_
    rintro e V2 ⟨rfl, hb1⟩
    replace hc := cb_keep hb1 hc rfl
    replace hd := cb_keep hb1 hd rfl
    replace hr4 := blk_keep hb1 hr4 rfl
    replace hr5 := blk_keep hb1 hr5 rfl
    replace hA10 := blk_keep hb1 hA10 rfl
    replace hA11 := blk_keep hb1 hA11 rfl
    replace hB := bel_keep hb1 hB rfl rfl rfl rfl hB.size
    clear hb1
    refine hK.out _ _ ?_ (fun hHeld56 => ?_)
    · exact s14 hc hd
    clear hK K hHeld56
    try simp only [Act.put, List.setIfInBounds_toArray, List.set_cons_zero, List.set_cons_succ]
    refine wpAnyH_ready (rs := [6]) (by kernel_rfl) (by simp) ?_
    refine AllReadyH.cons (o := _) (by rw [List.getElem?_toArray]; rfl) (fun K hK => ?_) AllReadyH.nil
    have hq := b9 hA10
    have q0 := hq.1
    have q1 := hq.2.1
    have q2 := hq.2.2.1
    have q3 := hq.2.2.2.1
    have q4 := hq.2.2.2.2.1
    have q5 := hq.2.2.2.2.2.1
    have q6 := hq.2.2.2.2.2.2.1
    have q7 := hq.2.2.2.2.2.2.2.1
    have q8 := hq.2.2.2.2.2.2.2.2.1
    have f0 := hq.2.2.2.2.2.2.2.2.2.1
    have f1 := hq.2.2.2.2.2.2.2.2.2.2.1
    have f2 := hq.2.2.2.2.2.2.2.2.2.2.2.1
    have f3 := hq.2.2.2.2.2.2.2.2.2.2.2.2.1
    have f4 := hq.2.2.2.2.2.2.2.2.2.2.2.2.2.1
    have f5 := hq.2.2.2.2.2.2.2.2.2.2.2.2.2.2.1
    have f6 := hq.2.2.2.2.2.2.2.2.2.2.2.2.2.2.2.1
    have f7 := hq.2.2.2.2.2.2.2.2.2.2.2.2.2.2.2.2.1
    have f8 := hq.2.2.2.2.2.2.2.2.2.2.2.2.2.2.2.2.2.1
    have hlt := hq.2.2.2.2.2.2.2.2.2.2.2.2.2.2.2.2.2.2
    clear hq
    go_simp
    replace hc := cb_far9 hc (show b7 ≠ a10 by omega) (.int .i64 (k : Int)) (.int .i64 (T 0)) (.int .i64 (T 1)) (.int .i64 (T 2)) (.int .i64 (T 3)) (.int .i64 (T 4)) (.int .i64 (T 5)) (.int .i64 (domL (mv T k) : Nat)) (.int .i64 (imN k T : Nat))
    replace hd := cb_far9 hd (show b7 + 1 ≠ a10 by omega) (.int .i64 (k : Int)) (.int .i64 (T 0)) (.int .i64 (T 1)) (.int .i64 (T 2)) (.int .i64 (T 3)) (.int .i64 (T 4)) (.int .i64 (T 5)) (.int .i64 (domL (mv T k) : Nat)) (.int .i64 (imN k T : Nat))
    replace hr4 := blk_far9 hr4 (show w.heap.size ≠ a10 by omega) (.int .i64 (k : Int)) (.int .i64 (T 0)) (.int .i64 (T 1)) (.int .i64 (T 2)) (.int .i64 (T 3)) (.int .i64 (T 4)) (.int .i64 (T 5)) (.int .i64 (domL (mv T k) : Nat)) (.int .i64 (imN k T : Nat))
    replace hr5 := blk_far9 hr5 (show w.heap.size + 1 ≠ a10 by omega) (.int .i64 (k : Int)) (.int .i64 (T 0)) (.int .i64 (T 1)) (.int .i64 (T 2)) (.int .i64 (T 3)) (.int .i64 (T 4)) (.int .i64 (T 5)) (.int .i64 (domL (mv T k) : Nat)) (.int .i64 (imN k T : Nat))
    replace hA11 := blk_far9 hA11 (show a11 ≠ a10 by omega) (.int .i64 (k : Int)) (.int .i64 (T 0)) (.int .i64 (T 1)) (.int .i64 (T 2)) (.int .i64 (T 3)) (.int .i64 (T 4)) (.int .i64 (T 5)) (.int .i64 (domL (mv T k) : Nat)) (.int .i64 (imN k T : Nat))
    replace hA10 := blk_put9 hA10 (.int .i64 (k : Int)) (.int .i64 (T 0)) (.int .i64 (T 1)) (.int .i64 (T 2)) (.int .i64 (T 3)) (.int .i64 (T 4)) (.int .i64 (T 5)) (.int .i64 (domL (mv T k) : Nat)) (.int .i64 (imN k T : Nat))
    replace hB := bel_put9 hB (show w.heap.size ≤ a10 by omega) (.int .i64 (k : Int)) (.int .i64 (T 0)) (.int .i64 (T 1)) (.int .i64 (T 2)) (.int .i64 (T 3)) (.int .i64 (T 4)) (.int .i64 (T 5)) (.int .i64 (domL (mv T k) : Nat)) (.int .i64 (imN k T : Nat))
    clear q0 q1 q2 q3 q4 q5 q6 q7 q8 f0 f1 f2 f3 f4 f5 f6 f7 f8 hlt
    refine hK.out _ _ ?_ (fun hHeld57 => ?_)
    · exact s14 hc hd
    clear hK K hHeld57
    generalize (((((((((V2.setCell ⟨a10, 0, none⟩ (.int .i64 (k : Int))).setCell ⟨a10, 1, none⟩ (.int .i64 (T 0))).setCell ⟨a10, 2, none⟩ (.int .i64 (T 1))).setCell ⟨a10, 3, none⟩ (.int .i64 (T 2))).setCell ⟨a10, 4, none⟩ (.int .i64 (T 3))).setCell ⟨a10, 5, none⟩ (.int .i64 (T 4))).setCell ⟨a10, 6, none⟩ (.int .i64 (T 5))).setCell ⟨a10, 7, none⟩ (.int .i64 (domL (mv T k) : Nat))).setCell ⟨a10, 8, none⟩ (.int .i64 (imN k T : Nat))) = X6 at *
    try simp only [Act.put, List.setIfInBounds_toArray, List.set_cons_zero, List.set_cons_succ]
    refine wpAnyH_ready (rs := [7]) (by kernel_rfl) (by simp) ?_
    refine AllReadyH.cons (o := _) (by rw [List.getElem?_toArray]; rfl) (fun K hK => ?_) AllReadyH.nil
    have hq := b9 hA11
    have q0 := hq.1
    have q1 := hq.2.1
    have q2 := hq.2.2.1
    have q3 := hq.2.2.2.1
    have q4 := hq.2.2.2.2.1
    have q5 := hq.2.2.2.2.2.1
    have q6 := hq.2.2.2.2.2.2.1
    have q7 := hq.2.2.2.2.2.2.2.1
    have q8 := hq.2.2.2.2.2.2.2.2.1
    have f0 := hq.2.2.2.2.2.2.2.2.2.1
    have f1 := hq.2.2.2.2.2.2.2.2.2.2.1
    have f2 := hq.2.2.2.2.2.2.2.2.2.2.2.1
    have f3 := hq.2.2.2.2.2.2.2.2.2.2.2.2.1
    have f4 := hq.2.2.2.2.2.2.2.2.2.2.2.2.2.1
    have f5 := hq.2.2.2.2.2.2.2.2.2.2.2.2.2.2.1
    have f6 := hq.2.2.2.2.2.2.2.2.2.2.2.2.2.2.2.1
    have f7 := hq.2.2.2.2.2.2.2.2.2.2.2.2.2.2.2.2.1
    have f8 := hq.2.2.2.2.2.2.2.2.2.2.2.2.2.2.2.2.2.1
    have hlt := hq.2.2.2.2.2.2.2.2.2.2.2.2.2.2.2.2.2.2
    clear hq
    go_simp
    replace hc := cb_far9 hc (show b7 ≠ a11 by omega) (.int .i64 (k : Int)) (.int .i64 (G 0)) (.int .i64 (G 1)) (.int .i64 (G 2)) (.int .i64 (G 3)) (.int .i64 (G 4)) (.int .i64 (G 5)) (.int .i64 (domL (mv G k) : Nat)) (.int .i64 (imN k G : Nat))
    replace hd := cb_far9 hd (show b7 + 1 ≠ a11 by omega) (.int .i64 (k : Int)) (.int .i64 (G 0)) (.int .i64 (G 1)) (.int .i64 (G 2)) (.int .i64 (G 3)) (.int .i64 (G 4)) (.int .i64 (G 5)) (.int .i64 (domL (mv G k) : Nat)) (.int .i64 (imN k G : Nat))
    replace hr4 := blk_far9 hr4 (show w.heap.size ≠ a11 by omega) (.int .i64 (k : Int)) (.int .i64 (G 0)) (.int .i64 (G 1)) (.int .i64 (G 2)) (.int .i64 (G 3)) (.int .i64 (G 4)) (.int .i64 (G 5)) (.int .i64 (domL (mv G k) : Nat)) (.int .i64 (imN k G : Nat))
    replace hr5 := blk_far9 hr5 (show w.heap.size + 1 ≠ a11 by omega) (.int .i64 (k : Int)) (.int .i64 (G 0)) (.int .i64 (G 1)) (.int .i64 (G 2)) (.int .i64 (G 3)) (.int .i64 (G 4)) (.int .i64 (G 5)) (.int .i64 (domL (mv G k) : Nat)) (.int .i64 (imN k G : Nat))
    replace hA10 := blk_far9 hA10 (show a10 ≠ a11 by omega) (.int .i64 (k : Int)) (.int .i64 (G 0)) (.int .i64 (G 1)) (.int .i64 (G 2)) (.int .i64 (G 3)) (.int .i64 (G 4)) (.int .i64 (G 5)) (.int .i64 (domL (mv G k) : Nat)) (.int .i64 (imN k G : Nat))
    replace hA11 := blk_put9 hA11 (.int .i64 (k : Int)) (.int .i64 (G 0)) (.int .i64 (G 1)) (.int .i64 (G 2)) (.int .i64 (G 3)) (.int .i64 (G 4)) (.int .i64 (G 5)) (.int .i64 (domL (mv G k) : Nat)) (.int .i64 (imN k G : Nat))
    replace hB := bel_put9 hB (show w.heap.size ≤ a11 by omega) (.int .i64 (k : Int)) (.int .i64 (G 0)) (.int .i64 (G 1)) (.int .i64 (G 2)) (.int .i64 (G 3)) (.int .i64 (G 4)) (.int .i64 (G 5)) (.int .i64 (domL (mv G k) : Nat)) (.int .i64 (imN k G : Nat))
    clear q0 q1 q2 q3 q4 q5 q6 q7 q8 f0 f1 f2 f3 f4 f5 f6 f7 f8 hlt
    refine hK.out _ _ ?_ (fun hHeld58 => ?_)
    · exact s14 hc hd
    clear hK K hHeld58
    generalize (((((((((X6.setCell ⟨a11, 0, none⟩ (.int .i64 (k : Int))).setCell ⟨a11, 1, none⟩ (.int .i64 (G 0))).setCell ⟨a11, 2, none⟩ (.int .i64 (G 1))).setCell ⟨a11, 3, none⟩ (.int .i64 (G 2))).setCell ⟨a11, 4, none⟩ (.int .i64 (G 3))).setCell ⟨a11, 5, none⟩ (.int .i64 (G 4))).setCell ⟨a11, 6, none⟩ (.int .i64 (G 5))).setCell ⟨a11, 7, none⟩ (.int .i64 (domL (mv G k) : Nat))).setCell ⟨a11, 8, none⟩ (.int .i64 (imN k G : Nat))) = X7 at *
    try simp only [Act.put, List.setIfInBounds_toArray, List.set_cons_zero, List.set_cons_succ]
    refine wpAnyH_done (by kernel_rfl) ?_ _
    exact HK.out _ a10 a11 hA10 hA11 hr4 hr5 (by omega) (by omega) (by omega) hB
  intro W x y hx hy hr4 hr5 hlx hly hxy hB
  refine aK1 _ _ ?_

  go_wp2_with fail
  cases hP : isP zs ys
  · have HJF := Lib.hid (joB_no hP)
    clear hP
    refine wp_region_held_drew (S := (fun w' => w'.cell? ⟨x, 0, none⟩ = some (.int .i64 (k : Int)) ∧ w'.cell? ⟨x, 1, none⟩ = some (.int .i64 (T 0)) ∧ w'.cell? ⟨x, 2, none⟩ = some (.int .i64 (T 1)) ∧ w'.cell? ⟨x, 3, none⟩ = some (.int .i64 (T 2)) ∧ w'.cell? ⟨x, 4, none⟩ = some (.int .i64 (T 3)) ∧ w'.cell? ⟨x, 5, none⟩ = some (.int .i64 (T 4)) ∧ w'.cell? ⟨x, 6, none⟩ = some (.int .i64 (T 5)) ∧ w'.cell? ⟨x, 7, none⟩ = some (.int .i64 (domL (mv T k) : Nat)) ∧ w'.cell? ⟨x, 8, none⟩ = some (.int .i64 (imN k T : Nat)) ∧ w'.cell? ⟨y, 0, none⟩ = some (.int .i64 (k : Int)) ∧ w'.cell? ⟨y, 1, none⟩ = some (.int .i64 (G 0)) ∧ w'.cell? ⟨y, 2, none⟩ = some (.int .i64 (G 1)) ∧ w'.cell? ⟨y, 3, none⟩ = some (.int .i64 (G 2)) ∧ w'.cell? ⟨y, 4, none⟩ = some (.int .i64 (G 3)) ∧ w'.cell? ⟨y, 5, none⟩ = some (.int .i64 (G 4)) ∧ w'.cell? ⟨y, 6, none⟩ = some (.int .i64 (G 5)) ∧ w'.cell? ⟨y, 7, none⟩ = some (.int .i64 (domL (mv G k) : Nat)) ∧ w'.cell? ⟨y, 8, none⟩ = some (.int .i64 (imN k G : Nat)))) (by kernel_rfl) ?_ (fun hHeld => ?_)
    · exact s18 hx hy
    replace hx := hx.drew
    replace hy := hy.drew
    replace hr4 := hr4.drew
    replace hr5 := hr5.drew
    replace hB := hB.drew
    clear hHeld
    have hHeld := s18 hx hy
    generalize W.drew = Y0 at *
    refine wpAnyH_take (i := 0) (v := .agg #[.int .i64 (k : Int), .int .i64 (T 0), .int .i64 (T 1), .int .i64 (T 2), .int .i64 (T 3), .int .i64 (T 4), .int .i64 (T 5), .int .i64 (domL (mv T k) : Nat), .int .i64 (imN k T : Nat)]) (by rw [List.getElem?_toArray]; rfl) (by kernel_rfl) (by kernel_rfl) (by kernel_rfl) (by exact fun _ _ _ h => h) (Or.inl ⟨by rfl, fun w hSw => by (try dsimp only at hSw); go_simp⟩) (by assumption) ?_
    try simp only [Act.put, List.setIfInBounds_toArray, List.set_cons_zero, List.set_cons_succ]
    refine wpAnyH_take (i := 1) (v := .agg #[.int .i64 (k : Int), .int .i64 (G 0), .int .i64 (G 1), .int .i64 (G 2), .int .i64 (G 3), .int .i64 (G 4), .int .i64 (G 5), .int .i64 (domL (mv G k) : Nat), .int .i64 (imN k G : Nat)]) (by rw [List.getElem?_toArray]; rfl) (by kernel_rfl) (by kernel_rfl) (by kernel_rfl) (by exact fun _ _ _ h => h) (Or.inl ⟨by rfl, fun w hSw => by (try dsimp only at hSw); go_simp⟩) (by assumption) ?_
    try simp only [Act.put, List.setIfInBounds_toArray, List.set_cons_zero, List.set_cons_succ]
    refine wpAnyH_take (i := 2) (v := .bool false) (by rw [List.getElem?_toArray]; rfl) (by kernel_rfl) (by kernel_rfl) (by kernel_rfl) (by exact fun _ _ _ h => h) (Or.inl ⟨by rfl, fun w hSw => by (try dsimp only at hSw); go_simp⟩) (by assumption) ?_
    try simp only [Act.put, List.setIfInBounds_toArray, List.set_cons_zero, List.set_cons_succ]
    refine wpAnyH_take (i := 3) (v := .bool false) (by rw [List.getElem?_toArray]; rfl) (by kernel_rfl) (by kernel_rfl) (by kernel_rfl) (by exact fun _ _ _ h => h) (Or.inl ⟨by rfl, fun w hSw => by (try dsimp only at hSw); go_simp⟩) (by assumption) ?_
    try simp only [Act.put, List.setIfInBounds_toArray, List.set_cons_zero, List.set_cons_succ]
    refine wpAnyH_take (i := 4) (v := undef) (by rw [List.getElem?_toArray]; rfl) (by kernel_rfl) (by kernel_rfl) (by kernel_rfl) (by exact fun _ _ _ h => h) (Or.inr ⟨by kernel_rfl, rfl⟩) (by assumption) ?_
    try simp only [Act.put, List.setIfInBounds_toArray, List.set_cons_zero, List.set_cons_succ]
    refine wpAnyH_take (i := 5) (v := undef) (by rw [List.getElem?_toArray]; rfl) (by kernel_rfl) (by kernel_rfl) (by kernel_rfl) (by exact fun _ _ _ h => h) (Or.inr ⟨by kernel_rfl, rfl⟩) (by assumption) ?_
    try simp only [Act.put, List.setIfInBounds_toArray, List.set_cons_zero, List.set_cons_succ]
    refine wpAnyH_take (i := 6) (v := undef) (by rw [List.getElem?_toArray]; rfl) (by kernel_rfl) (by kernel_rfl) (by kernel_rfl) (by exact fun _ _ _ h => h) (Or.inr ⟨by kernel_rfl, rfl⟩) (by assumption) ?_
    try simp only [Act.put, List.setIfInBounds_toArray, List.set_cons_zero, List.set_cons_succ]
    refine wpAnyH_take (i := 7) (v := undef) (by rw [List.getElem?_toArray]; rfl) (by kernel_rfl) (by kernel_rfl) (by kernel_rfl) (by exact fun _ _ _ h => h) (Or.inr ⟨by kernel_rfl, rfl⟩) (by assumption) ?_
    try simp only [Act.put, List.setIfInBounds_toArray, List.set_cons_zero, List.set_cons_succ]
    refine wpAnyH_take (i := 8) (v := undef) (by rw [List.getElem?_toArray]; rfl) (by kernel_rfl) (by kernel_rfl) (by kernel_rfl) (by exact fun _ _ _ h => h) (Or.inr ⟨by kernel_rfl, rfl⟩) (by assumption) ?_
    try simp only [Act.put, List.setIfInBounds_toArray, List.set_cons_zero, List.set_cons_succ]
    refine wpAnyH_take (i := 9) (v := .bool false) (by rw [List.getElem?_toArray]; rfl) (by kernel_rfl) (by kernel_rfl) (by kernel_rfl) (by exact fun _ _ _ h => h) (Or.inl ⟨by rfl, fun w hSw => by (try dsimp only at hSw); go_simp⟩) (by assumption) ?_
    try simp only [Act.put, List.setIfInBounds_toArray, List.set_cons_zero, List.set_cons_succ]
    refine wpAnyH_ready (rs := [10]) (by kernel_rfl) (by simp) ?_
    refine AllReadyH.cons (o := _) (by rw [List.getElem?_toArray]; rfl) (fun K hK => ?_) AllReadyH.nil
    have hq := b9 hr4
    have q0 := hq.1
    have q1 := hq.2.1
    have q2 := hq.2.2.1
    have q3 := hq.2.2.2.1
    have q4 := hq.2.2.2.2.1
    have q5 := hq.2.2.2.2.2.1
    have q6 := hq.2.2.2.2.2.2.1
    have q7 := hq.2.2.2.2.2.2.2.1
    have q8 := hq.2.2.2.2.2.2.2.2.1
    have f0 := hq.2.2.2.2.2.2.2.2.2.1
    have f1 := hq.2.2.2.2.2.2.2.2.2.2.1
    have f2 := hq.2.2.2.2.2.2.2.2.2.2.2.1
    have f3 := hq.2.2.2.2.2.2.2.2.2.2.2.2.1
    have f4 := hq.2.2.2.2.2.2.2.2.2.2.2.2.2.1
    have f5 := hq.2.2.2.2.2.2.2.2.2.2.2.2.2.2.1
    have f6 := hq.2.2.2.2.2.2.2.2.2.2.2.2.2.2.2.1
    have f7 := hq.2.2.2.2.2.2.2.2.2.2.2.2.2.2.2.2.1
    have f8 := hq.2.2.2.2.2.2.2.2.2.2.2.2.2.2.2.2.2.1
    have hlt := hq.2.2.2.2.2.2.2.2.2.2.2.2.2.2.2.2.2.2
    clear hq
    go_simp
    replace hx := blk_far9 hx (show x ≠ w.heap.size by omega) (.int .i64 (k : Int)) (.int .i64 (T 0)) (.int .i64 (T 1)) (.int .i64 (T 2)) (.int .i64 (T 3)) (.int .i64 (T 4)) (.int .i64 (T 5)) (.int .i64 (domL (mv T k) : Nat)) (.int .i64 (imN k T : Nat))
    replace hy := blk_far9 hy (show y ≠ w.heap.size by omega) (.int .i64 (k : Int)) (.int .i64 (T 0)) (.int .i64 (T 1)) (.int .i64 (T 2)) (.int .i64 (T 3)) (.int .i64 (T 4)) (.int .i64 (T 5)) (.int .i64 (domL (mv T k) : Nat)) (.int .i64 (imN k T : Nat))
    replace hr5 := blk_far9 hr5 (show w.heap.size + 1 ≠ w.heap.size by omega) (.int .i64 (k : Int)) (.int .i64 (T 0)) (.int .i64 (T 1)) (.int .i64 (T 2)) (.int .i64 (T 3)) (.int .i64 (T 4)) (.int .i64 (T 5)) (.int .i64 (domL (mv T k) : Nat)) (.int .i64 (imN k T : Nat))
    replace hr4 := blk_put9 hr4 (.int .i64 (k : Int)) (.int .i64 (T 0)) (.int .i64 (T 1)) (.int .i64 (T 2)) (.int .i64 (T 3)) (.int .i64 (T 4)) (.int .i64 (T 5)) (.int .i64 (domL (mv T k) : Nat)) (.int .i64 (imN k T : Nat))
    replace hB := bel_put9 hB (show w.heap.size ≤ w.heap.size by omega) (.int .i64 (k : Int)) (.int .i64 (T 0)) (.int .i64 (T 1)) (.int .i64 (T 2)) (.int .i64 (T 3)) (.int .i64 (T 4)) (.int .i64 (T 5)) (.int .i64 (domL (mv T k) : Nat)) (.int .i64 (imN k T : Nat))
    clear q0 q1 q2 q3 q4 q5 q6 q7 q8 f0 f1 f2 f3 f4 f5 f6 f7 f8 hlt
    refine hK.out _ _ ?_ (fun hHeld10 => ?_)
    · exact s18 hx hy
    clear hK K
    generalize (((((((((Y0.setCell ⟨w.heap.size, 0, none⟩ (.int .i64 (k : Int))).setCell ⟨w.heap.size, 1, none⟩ (.int .i64 (T 0))).setCell ⟨w.heap.size, 2, none⟩ (.int .i64 (T 1))).setCell ⟨w.heap.size, 3, none⟩ (.int .i64 (T 2))).setCell ⟨w.heap.size, 4, none⟩ (.int .i64 (T 3))).setCell ⟨w.heap.size, 5, none⟩ (.int .i64 (T 4))).setCell ⟨w.heap.size, 6, none⟩ (.int .i64 (T 5))).setCell ⟨w.heap.size, 7, none⟩ (.int .i64 (domL (mv T k) : Nat))).setCell ⟨w.heap.size, 8, none⟩ (.int .i64 (imN k T : Nat))) = Y4 at *
    try simp only [Act.put, List.setIfInBounds_toArray, List.set_cons_zero, List.set_cons_succ]
    refine wpAnyH_ready (rs := [11]) (by kernel_rfl) (by simp) ?_
    refine AllReadyH.cons (o := _) (by rw [List.getElem?_toArray]; rfl) (fun K hK => ?_) AllReadyH.nil
    have hq := b9 hr5
    have q0 := hq.1
    have q1 := hq.2.1
    have q2 := hq.2.2.1
    have q3 := hq.2.2.2.1
    have q4 := hq.2.2.2.2.1
    have q5 := hq.2.2.2.2.2.1
    have q6 := hq.2.2.2.2.2.2.1
    have q7 := hq.2.2.2.2.2.2.2.1
    have q8 := hq.2.2.2.2.2.2.2.2.1
    have f0 := hq.2.2.2.2.2.2.2.2.2.1
    have f1 := hq.2.2.2.2.2.2.2.2.2.2.1
    have f2 := hq.2.2.2.2.2.2.2.2.2.2.2.1
    have f3 := hq.2.2.2.2.2.2.2.2.2.2.2.2.1
    have f4 := hq.2.2.2.2.2.2.2.2.2.2.2.2.2.1
    have f5 := hq.2.2.2.2.2.2.2.2.2.2.2.2.2.2.1
    have f6 := hq.2.2.2.2.2.2.2.2.2.2.2.2.2.2.2.1
    have f7 := hq.2.2.2.2.2.2.2.2.2.2.2.2.2.2.2.2.1
    have f8 := hq.2.2.2.2.2.2.2.2.2.2.2.2.2.2.2.2.2.1
    have hlt := hq.2.2.2.2.2.2.2.2.2.2.2.2.2.2.2.2.2.2
    clear hq
    go_simp
    replace hx := blk_far9 hx (show x ≠ w.heap.size + 1 by omega) (.int .i64 (k : Int)) (.int .i64 (G 0)) (.int .i64 (G 1)) (.int .i64 (G 2)) (.int .i64 (G 3)) (.int .i64 (G 4)) (.int .i64 (G 5)) (.int .i64 (domL (mv G k) : Nat)) (.int .i64 (imN k G : Nat))
    replace hy := blk_far9 hy (show y ≠ w.heap.size + 1 by omega) (.int .i64 (k : Int)) (.int .i64 (G 0)) (.int .i64 (G 1)) (.int .i64 (G 2)) (.int .i64 (G 3)) (.int .i64 (G 4)) (.int .i64 (G 5)) (.int .i64 (domL (mv G k) : Nat)) (.int .i64 (imN k G : Nat))
    replace hr4 := blk_far9 hr4 (show w.heap.size ≠ w.heap.size + 1 by omega) (.int .i64 (k : Int)) (.int .i64 (G 0)) (.int .i64 (G 1)) (.int .i64 (G 2)) (.int .i64 (G 3)) (.int .i64 (G 4)) (.int .i64 (G 5)) (.int .i64 (domL (mv G k) : Nat)) (.int .i64 (imN k G : Nat))
    replace hr5 := blk_put9 hr5 (.int .i64 (k : Int)) (.int .i64 (G 0)) (.int .i64 (G 1)) (.int .i64 (G 2)) (.int .i64 (G 3)) (.int .i64 (G 4)) (.int .i64 (G 5)) (.int .i64 (domL (mv G k) : Nat)) (.int .i64 (imN k G : Nat))
    replace hB := bel_put9 hB (show w.heap.size ≤ w.heap.size + 1 by omega) (.int .i64 (k : Int)) (.int .i64 (G 0)) (.int .i64 (G 1)) (.int .i64 (G 2)) (.int .i64 (G 3)) (.int .i64 (G 4)) (.int .i64 (G 5)) (.int .i64 (domL (mv G k) : Nat)) (.int .i64 (imN k G : Nat))
    clear q0 q1 q2 q3 q4 q5 q6 q7 q8 f0 f1 f2 f3 f4 f5 f6 f7 f8 hlt
    refine hK.out _ _ ?_ (fun hHeld11 => ?_)
    · exact s18 hx hy
    clear hK K
    generalize (((((((((Y4.setCell ⟨w.heap.size + 1, 0, none⟩ (.int .i64 (k : Int))).setCell ⟨w.heap.size + 1, 1, none⟩ (.int .i64 (G 0))).setCell ⟨w.heap.size + 1, 2, none⟩ (.int .i64 (G 1))).setCell ⟨w.heap.size + 1, 3, none⟩ (.int .i64 (G 2))).setCell ⟨w.heap.size + 1, 4, none⟩ (.int .i64 (G 3))).setCell ⟨w.heap.size + 1, 5, none⟩ (.int .i64 (G 4))).setCell ⟨w.heap.size + 1, 6, none⟩ (.int .i64 (G 5))).setCell ⟨w.heap.size + 1, 7, none⟩ (.int .i64 (domL (mv G k) : Nat))).setCell ⟨w.heap.size + 1, 8, none⟩ (.int .i64 (imN k G : Nat))) = Y5 at *
    try simp only [Act.put, List.setIfInBounds_toArray, List.set_cons_zero, List.set_cons_succ]
    refine wpAnyH_take (i := 12) (v := .bool false) (by rw [List.getElem?_toArray]; rfl) (by kernel_rfl) (by kernel_rfl) (by kernel_rfl) (by exact fun _ _ _ h => h) (Or.inl ⟨by rfl, fun w hSw => by (try dsimp only at hSw); go_simp⟩) (by assumption) ?_
    try simp only [Act.put, List.setIfInBounds_toArray, List.set_cons_zero, List.set_cons_succ]
    refine wpAnyH_done (by kernel_rfl) ?_ _
    have c0 := hr4.cell 0
    have c1 := hr4.cell 1
    have c2 := hr4.cell 2
    have c3 := hr4.cell 3
    have c4 := hr4.cell 4
    have c5 := hr4.cell 5
    have c6 := hr4.cell 6
    have c7 := hr4.cell 7
    have c8 := hr4.cell 8
    have d0 := hr5.cell 0
    have d1 := hr5.cell 1
    have d2 := hr5.cell 2
    have d3 := hr5.cell 3
    have d4 := hr5.cell 4
    have d5 := hr5.cell 5
    have d6 := hr5.cell 6
    have d7 := hr5.cell 7
    have d8 := hr5.cell 8
    have hlx4 := hr4.lt
    clear hx hy hr4 hr5
    go_wp2
    exact bodyPost_ret (v := .tuple #[.agg #[.int .i64 (k : Int), .int .i64 (T 0), .int .i64 (T 1), .int .i64 (T 2), .int .i64 (T 3), .int .i64 (T 4), .int .i64 (T 5), .int .i64 (domL (mv T k) : Nat), .int .i64 (imN k T : Nat)], .agg #[.int .i64 (k : Int), .int .i64 (G 0), .int .i64 (G 1), .int .i64 (G 2), .int .i64 (G 3), .int .i64 (G 4), .int .i64 (G 5), .int .i64 (domL (mv G k) : Nat), .int .i64 (imN k G : Nat)], .bool false]) (by simp [results, Try.results26, go_sem, c0, c1, c2, c3, c4, c5, c6, c7, c8, d0, d1, d2, d3, d4, d5, d6, d7, d8]) rfl ⟨k, T, G, by rw [HJF.out], HKK.out, HTT.out, HGG.out, hB⟩
  · have hJE := HJ.out hP
    clear hP
    generalize hjb : joB zs ys = jb at *
    have HJB := Lib.hid hjb
    clear hjb
    refine wp_region_held_drew (S := (fun w' => w'.cell? ⟨x, 0, none⟩ = some (.int .i64 (k : Int)) ∧ w'.cell? ⟨x, 1, none⟩ = some (.int .i64 (T 0)) ∧ w'.cell? ⟨x, 2, none⟩ = some (.int .i64 (T 1)) ∧ w'.cell? ⟨x, 3, none⟩ = some (.int .i64 (T 2)) ∧ w'.cell? ⟨x, 4, none⟩ = some (.int .i64 (T 3)) ∧ w'.cell? ⟨x, 5, none⟩ = some (.int .i64 (T 4)) ∧ w'.cell? ⟨x, 6, none⟩ = some (.int .i64 (T 5)) ∧ w'.cell? ⟨x, 7, none⟩ = some (.int .i64 (domL (mv T k) : Nat)) ∧ w'.cell? ⟨x, 8, none⟩ = some (.int .i64 (imN k T : Nat)) ∧ w'.cell? ⟨y, 0, none⟩ = some (.int .i64 (k : Int)) ∧ w'.cell? ⟨y, 1, none⟩ = some (.int .i64 (G 0)) ∧ w'.cell? ⟨y, 2, none⟩ = some (.int .i64 (G 1)) ∧ w'.cell? ⟨y, 3, none⟩ = some (.int .i64 (G 2)) ∧ w'.cell? ⟨y, 4, none⟩ = some (.int .i64 (G 3)) ∧ w'.cell? ⟨y, 5, none⟩ = some (.int .i64 (G 4)) ∧ w'.cell? ⟨y, 6, none⟩ = some (.int .i64 (G 5)) ∧ w'.cell? ⟨y, 7, none⟩ = some (.int .i64 (domL (mv G k) : Nat)) ∧ w'.cell? ⟨y, 8, none⟩ = some (.int .i64 (imN k G : Nat)))) (by kernel_rfl) ?_ (fun hHeld => ?_)
    · exact s18 hx hy
    replace hx := hx.drew
    replace hy := hy.drew
    replace hr4 := hr4.drew
    replace hr5 := hr5.drew
    replace hB := hB.drew
    clear hHeld
    have hHeld := s18 hx hy
    generalize W.drew = Y0 at *
    refine wpAnyH_take (i := 0) (v := .agg #[.int .i64 (k : Int), .int .i64 (T 0), .int .i64 (T 1), .int .i64 (T 2), .int .i64 (T 3), .int .i64 (T 4), .int .i64 (T 5), .int .i64 (domL (mv T k) : Nat), .int .i64 (imN k T : Nat)]) (by rw [List.getElem?_toArray]; rfl) (by kernel_rfl) (by kernel_rfl) (by kernel_rfl) (by exact fun _ _ _ h => h) (Or.inl ⟨by rfl, fun w hSw => by (try dsimp only at hSw); go_simp⟩) (by assumption) ?_
    try simp only [Act.put, List.setIfInBounds_toArray, List.set_cons_zero, List.set_cons_succ]
    refine wpAnyH_take (i := 1) (v := .agg #[.int .i64 (k : Int), .int .i64 (G 0), .int .i64 (G 1), .int .i64 (G 2), .int .i64 (G 3), .int .i64 (G 4), .int .i64 (G 5), .int .i64 (domL (mv G k) : Nat), .int .i64 (imN k G : Nat)]) (by rw [List.getElem?_toArray]; rfl) (by kernel_rfl) (by kernel_rfl) (by kernel_rfl) (by exact fun _ _ _ h => h) (Or.inl ⟨by rfl, fun w hSw => by (try dsimp only at hSw); go_simp⟩) (by assumption) ?_
    try simp only [Act.put, List.setIfInBounds_toArray, List.set_cons_zero, List.set_cons_succ]
    refine wpAnyH_take (i := 2) (v := .bool true) (by rw [List.getElem?_toArray]; rfl) (by kernel_rfl) (by kernel_rfl) (by kernel_rfl) (by exact fun _ _ _ h => h) (Or.inl ⟨by rfl, fun w hSw => by (try dsimp only at hSw); go_simp⟩) (by assumption) ?_
    try simp only [Act.put, List.setIfInBounds_toArray, List.set_cons_zero, List.set_cons_succ]
    refine wpAnyH_take (i := 3) (v := .bool true) (by rw [List.getElem?_toArray]; rfl) (by kernel_rfl) (by kernel_rfl) (by kernel_rfl) (by exact fun _ _ _ h => h) (Or.inl ⟨by rfl, fun w hSw => by (try dsimp only at hSw); go_simp⟩) (by assumption) ?_
    try simp only [Act.put, List.setIfInBounds_toArray, List.set_cons_zero, List.set_cons_succ]
    refine wpAnyH_take (i := 4) (v := .pointer (some ⟨x, 8, none⟩)) (by rw [List.getElem?_toArray]; rfl) (by kernel_rfl) (by kernel_rfl) (by kernel_rfl) (by exact fun _ _ _ h => h) (Or.inl ⟨by rfl, fun w hSw => by (try dsimp only at hSw); go_simp⟩) (by assumption) ?_
    try simp only [Act.put, List.setIfInBounds_toArray, List.set_cons_zero, List.set_cons_succ]
    refine wpAnyH_take (i := 5) (v := .int .i64 (imN k T : Nat)) (by rw [List.getElem?_toArray]; rfl) (by kernel_rfl) (by kernel_rfl) (by kernel_rfl) (by exact fun _ _ _ h => h) (Or.inl ⟨by rfl, fun w hSw => by (try dsimp only at hSw); go_simp⟩) (by assumption) ?_
    try simp only [Act.put, List.setIfInBounds_toArray, List.set_cons_zero, List.set_cons_succ]
    refine wpAnyH_take (i := 6) (v := .pointer (some ⟨y, 7, none⟩)) (by rw [List.getElem?_toArray]; rfl) (by kernel_rfl) (by kernel_rfl) (by kernel_rfl) (by exact fun _ _ _ h => h) (Or.inl ⟨by rfl, fun w hSw => by (try dsimp only at hSw); go_simp⟩) (by assumption) ?_
    try simp only [Act.put, List.setIfInBounds_toArray, List.set_cons_zero, List.set_cons_succ]
    refine wpAnyH_take (i := 7) (v := .int .i64 (domL (mv G k) : Nat)) (by rw [List.getElem?_toArray]; rfl) (by kernel_rfl) (by kernel_rfl) (by kernel_rfl) (by exact fun _ _ _ h => h) (Or.inl ⟨by rfl, fun w hSw => by (try dsimp only at hSw); go_simp⟩) (by assumption) ?_
    try simp only [Act.put, List.setIfInBounds_toArray, List.set_cons_zero, List.set_cons_succ]
    refine wpAnyH_take (i := 8) (v := .bool jb) (by rw [List.getElem?_toArray]; rfl) (by kernel_rfl) (by kernel_rfl) (by kernel_rfl) (by exact fun _ _ _ h => h) (Or.inl ⟨by rfl, fun w hSw => by (try dsimp only at hSw); go_simp⟩) (by assumption) ?_
    try simp only [Act.put, List.setIfInBounds_toArray, List.set_cons_zero, List.set_cons_succ]
    refine wpAnyH_take (i := 9) (v := .bool jb) (by rw [List.getElem?_toArray]; rfl) (by kernel_rfl) (by kernel_rfl) (by kernel_rfl) (by exact fun _ _ _ h => h) (Or.inl ⟨by rfl, fun w hSw => by (try dsimp only at hSw); go_simp⟩) (by assumption) ?_
    try simp only [Act.put, List.setIfInBounds_toArray, List.set_cons_zero, List.set_cons_succ]
    refine wpAnyH_ready (rs := [10]) (by kernel_rfl) (by simp) ?_
    refine AllReadyH.cons (o := _) (by rw [List.getElem?_toArray]; rfl) (fun K hK => ?_) AllReadyH.nil
    have hq := b9 hr4
    have q0 := hq.1
    have q1 := hq.2.1
    have q2 := hq.2.2.1
    have q3 := hq.2.2.2.1
    have q4 := hq.2.2.2.2.1
    have q5 := hq.2.2.2.2.2.1
    have q6 := hq.2.2.2.2.2.2.1
    have q7 := hq.2.2.2.2.2.2.2.1
    have q8 := hq.2.2.2.2.2.2.2.2.1
    have f0 := hq.2.2.2.2.2.2.2.2.2.1
    have f1 := hq.2.2.2.2.2.2.2.2.2.2.1
    have f2 := hq.2.2.2.2.2.2.2.2.2.2.2.1
    have f3 := hq.2.2.2.2.2.2.2.2.2.2.2.2.1
    have f4 := hq.2.2.2.2.2.2.2.2.2.2.2.2.2.1
    have f5 := hq.2.2.2.2.2.2.2.2.2.2.2.2.2.2.1
    have f6 := hq.2.2.2.2.2.2.2.2.2.2.2.2.2.2.2.1
    have f7 := hq.2.2.2.2.2.2.2.2.2.2.2.2.2.2.2.2.1
    have f8 := hq.2.2.2.2.2.2.2.2.2.2.2.2.2.2.2.2.2.1
    have hlt := hq.2.2.2.2.2.2.2.2.2.2.2.2.2.2.2.2.2.2
    clear hq
    go_simp
    replace hx := blk_far9 hx (show x ≠ w.heap.size by omega) (.int .i64 (k : Int)) (.int .i64 (T 0)) (.int .i64 (T 1)) (.int .i64 (T 2)) (.int .i64 (T 3)) (.int .i64 (T 4)) (.int .i64 (T 5)) (.int .i64 (domL (mv T k) : Nat)) (.int .i64 (imN k T : Nat))
    replace hy := blk_far9 hy (show y ≠ w.heap.size by omega) (.int .i64 (k : Int)) (.int .i64 (T 0)) (.int .i64 (T 1)) (.int .i64 (T 2)) (.int .i64 (T 3)) (.int .i64 (T 4)) (.int .i64 (T 5)) (.int .i64 (domL (mv T k) : Nat)) (.int .i64 (imN k T : Nat))
    replace hr5 := blk_far9 hr5 (show w.heap.size + 1 ≠ w.heap.size by omega) (.int .i64 (k : Int)) (.int .i64 (T 0)) (.int .i64 (T 1)) (.int .i64 (T 2)) (.int .i64 (T 3)) (.int .i64 (T 4)) (.int .i64 (T 5)) (.int .i64 (domL (mv T k) : Nat)) (.int .i64 (imN k T : Nat))
    replace hr4 := blk_put9 hr4 (.int .i64 (k : Int)) (.int .i64 (T 0)) (.int .i64 (T 1)) (.int .i64 (T 2)) (.int .i64 (T 3)) (.int .i64 (T 4)) (.int .i64 (T 5)) (.int .i64 (domL (mv T k) : Nat)) (.int .i64 (imN k T : Nat))
    replace hB := bel_put9 hB (show w.heap.size ≤ w.heap.size by omega) (.int .i64 (k : Int)) (.int .i64 (T 0)) (.int .i64 (T 1)) (.int .i64 (T 2)) (.int .i64 (T 3)) (.int .i64 (T 4)) (.int .i64 (T 5)) (.int .i64 (domL (mv T k) : Nat)) (.int .i64 (imN k T : Nat))
    clear q0 q1 q2 q3 q4 q5 q6 q7 q8 f0 f1 f2 f3 f4 f5 f6 f7 f8 hlt
    refine hK.out _ _ ?_ (fun hHeld10 => ?_)
    · exact s18 hx hy
    clear hK K
    generalize (((((((((Y0.setCell ⟨w.heap.size, 0, none⟩ (.int .i64 (k : Int))).setCell ⟨w.heap.size, 1, none⟩ (.int .i64 (T 0))).setCell ⟨w.heap.size, 2, none⟩ (.int .i64 (T 1))).setCell ⟨w.heap.size, 3, none⟩ (.int .i64 (T 2))).setCell ⟨w.heap.size, 4, none⟩ (.int .i64 (T 3))).setCell ⟨w.heap.size, 5, none⟩ (.int .i64 (T 4))).setCell ⟨w.heap.size, 6, none⟩ (.int .i64 (T 5))).setCell ⟨w.heap.size, 7, none⟩ (.int .i64 (domL (mv T k) : Nat))).setCell ⟨w.heap.size, 8, none⟩ (.int .i64 (imN k T : Nat))) = Y4 at *
    try simp only [Act.put, List.setIfInBounds_toArray, List.set_cons_zero, List.set_cons_succ]
    refine wpAnyH_ready (rs := [11]) (by kernel_rfl) (by simp) ?_
    refine AllReadyH.cons (o := _) (by rw [List.getElem?_toArray]; rfl) (fun K hK => ?_) AllReadyH.nil
    have hq := b9 hr5
    have q0 := hq.1
    have q1 := hq.2.1
    have q2 := hq.2.2.1
    have q3 := hq.2.2.2.1
    have q4 := hq.2.2.2.2.1
    have q5 := hq.2.2.2.2.2.1
    have q6 := hq.2.2.2.2.2.2.1
    have q7 := hq.2.2.2.2.2.2.2.1
    have q8 := hq.2.2.2.2.2.2.2.2.1
    have f0 := hq.2.2.2.2.2.2.2.2.2.1
    have f1 := hq.2.2.2.2.2.2.2.2.2.2.1
    have f2 := hq.2.2.2.2.2.2.2.2.2.2.2.1
    have f3 := hq.2.2.2.2.2.2.2.2.2.2.2.2.1
    have f4 := hq.2.2.2.2.2.2.2.2.2.2.2.2.2.1
    have f5 := hq.2.2.2.2.2.2.2.2.2.2.2.2.2.2.1
    have f6 := hq.2.2.2.2.2.2.2.2.2.2.2.2.2.2.2.1
    have f7 := hq.2.2.2.2.2.2.2.2.2.2.2.2.2.2.2.2.1
    have f8 := hq.2.2.2.2.2.2.2.2.2.2.2.2.2.2.2.2.2.1
    have hlt := hq.2.2.2.2.2.2.2.2.2.2.2.2.2.2.2.2.2.2
    clear hq
    go_simp
    replace hx := blk_far9 hx (show x ≠ w.heap.size + 1 by omega) (.int .i64 (k : Int)) (.int .i64 (G 0)) (.int .i64 (G 1)) (.int .i64 (G 2)) (.int .i64 (G 3)) (.int .i64 (G 4)) (.int .i64 (G 5)) (.int .i64 (domL (mv G k) : Nat)) (.int .i64 (imN k G : Nat))
    replace hy := blk_far9 hy (show y ≠ w.heap.size + 1 by omega) (.int .i64 (k : Int)) (.int .i64 (G 0)) (.int .i64 (G 1)) (.int .i64 (G 2)) (.int .i64 (G 3)) (.int .i64 (G 4)) (.int .i64 (G 5)) (.int .i64 (domL (mv G k) : Nat)) (.int .i64 (imN k G : Nat))
    replace hr4 := blk_far9 hr4 (show w.heap.size ≠ w.heap.size + 1 by omega) (.int .i64 (k : Int)) (.int .i64 (G 0)) (.int .i64 (G 1)) (.int .i64 (G 2)) (.int .i64 (G 3)) (.int .i64 (G 4)) (.int .i64 (G 5)) (.int .i64 (domL (mv G k) : Nat)) (.int .i64 (imN k G : Nat))
    replace hr5 := blk_put9 hr5 (.int .i64 (k : Int)) (.int .i64 (G 0)) (.int .i64 (G 1)) (.int .i64 (G 2)) (.int .i64 (G 3)) (.int .i64 (G 4)) (.int .i64 (G 5)) (.int .i64 (domL (mv G k) : Nat)) (.int .i64 (imN k G : Nat))
    replace hB := bel_put9 hB (show w.heap.size ≤ w.heap.size + 1 by omega) (.int .i64 (k : Int)) (.int .i64 (G 0)) (.int .i64 (G 1)) (.int .i64 (G 2)) (.int .i64 (G 3)) (.int .i64 (G 4)) (.int .i64 (G 5)) (.int .i64 (domL (mv G k) : Nat)) (.int .i64 (imN k G : Nat))
    clear q0 q1 q2 q3 q4 q5 q6 q7 q8 f0 f1 f2 f3 f4 f5 f6 f7 f8 hlt
    refine hK.out _ _ ?_ (fun hHeld11 => ?_)
    · exact s18 hx hy
    clear hK K
    generalize (((((((((Y4.setCell ⟨w.heap.size + 1, 0, none⟩ (.int .i64 (k : Int))).setCell ⟨w.heap.size + 1, 1, none⟩ (.int .i64 (G 0))).setCell ⟨w.heap.size + 1, 2, none⟩ (.int .i64 (G 1))).setCell ⟨w.heap.size + 1, 3, none⟩ (.int .i64 (G 2))).setCell ⟨w.heap.size + 1, 4, none⟩ (.int .i64 (G 3))).setCell ⟨w.heap.size + 1, 5, none⟩ (.int .i64 (G 4))).setCell ⟨w.heap.size + 1, 6, none⟩ (.int .i64 (G 5))).setCell ⟨w.heap.size + 1, 7, none⟩ (.int .i64 (domL (mv G k) : Nat))).setCell ⟨w.heap.size + 1, 8, none⟩ (.int .i64 (imN k G : Nat))) = Y5 at *
    try simp only [Act.put, List.setIfInBounds_toArray, List.set_cons_zero, List.set_cons_succ]
    refine wpAnyH_take (i := 12) (v := .bool jb) (by rw [List.getElem?_toArray]; rfl) (by kernel_rfl) (by kernel_rfl) (by kernel_rfl) (by exact fun _ _ _ h => h) (Or.inl ⟨by rfl, fun w hSw => by (try dsimp only at hSw); go_simp⟩) (by assumption) ?_
    try simp only [Act.put, List.setIfInBounds_toArray, List.set_cons_zero, List.set_cons_succ]
    refine wpAnyH_done (by kernel_rfl) ?_ _
    have c0 := hr4.cell 0
    have c1 := hr4.cell 1
    have c2 := hr4.cell 2
    have c3 := hr4.cell 3
    have c4 := hr4.cell 4
    have c5 := hr4.cell 5
    have c6 := hr4.cell 6
    have c7 := hr4.cell 7
    have c8 := hr4.cell 8
    have d0 := hr5.cell 0
    have d1 := hr5.cell 1
    have d2 := hr5.cell 2
    have d3 := hr5.cell 3
    have d4 := hr5.cell 4
    have d5 := hr5.cell 5
    have d6 := hr5.cell 6
    have d7 := hr5.cell 7
    have d8 := hr5.cell 8
    have hlx4 := hr4.lt
    clear hx hy hr4 hr5
    go_wp2
    exact bodyPost_ret (v := .tuple #[.agg #[.int .i64 (k : Int), .int .i64 (T 0), .int .i64 (T 1), .int .i64 (T 2), .int .i64 (T 3), .int .i64 (T 4), .int .i64 (T 5), .int .i64 (domL (mv T k) : Nat), .int .i64 (imN k T : Nat)], .agg #[.int .i64 (k : Int), .int .i64 (G 0), .int .i64 (G 1), .int .i64 (G 2), .int .i64 (G 3), .int .i64 (G 4), .int .i64 (G 5), .int .i64 (domL (mv G k) : Nat), .int .i64 (imN k G : Nat)], .bool jb]) (by simp [results, Try.results26, go_sem, c0, c1, c2, c3, c4, c5, c6, c7, c8, d0, d1, d2, d3, d4, d5, d6, d7, d8]) rfl ⟨k, T, G, by rw [HJB.out], HKK.out, HTT.out, HGG.out, hB⟩
end Go.Proofs.Ytoomeimloaloaaa
