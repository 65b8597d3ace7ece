/-
  How many arrows a graph has: spec.l5Arrows, spec.GraphRank, spec.GraphIndex; slices.Contains of -1; impl.GraphIndex.
-/
import Derived.Test.YthliifgjolgmgaaHe
import Derived.Deep.RegionHeld3
import Derived.Deep.RegionLaw
import Derived.Deep.RegionWith
namespace Go.Proofs.Ythliifgjolgmgaa
set_option maxRecDepth 100000
set_option linter.unusedVariables false
open Go.RowKit Go.Lib

/-- how many of the first numbers are not negative -/
def arr (zs : List Int) (k : Nat) : Nat := ((zs.take k).filter (fun z => decide (0 ≤ z))).length
theorem arr_zero (zs : List Int) : arr zs 0 = 0 := by simp [arr]
theorem arr_yes {zs : List Int} {k : Nat} {z : Int} (h : zs[k]? = some z) (hz : 0 ≤ z) : arr zs (k + 1) = arr zs k + 1 := by
  unfold arr
  rw [take_int h, List.filter_append, List.length_append]
  simp [hz]
theorem arr_no {zs : List Int} {k : Nat} {z : Int} (h : zs[k]? = some z) (hz : ¬ 0 ≤ z) : arr zs (k + 1) = arr zs k := by
  unfold arr
  rw [take_int h, List.filter_append, List.length_append]
  simp [hz]
theorem arr_le (zs : List Int) (k : Nat) : arr zs k ≤ k := by
  unfold arr
  refine Nat.le_trans (List.length_filter_le _ _) ?_
  rw [List.length_take]; omega
/-- all arrows of one letter -/
theorem arr_all {zs : List Int} {n : Nat} (h : zs.length = n) (hr : ∀ z ∈ zs, -1 ≤ z) : arr zs n = n ↔ (-1 : Int) ∉ zs := by
  unfold arr
  rw [List.take_of_length_le (by omega)]
  constructor
  · intro e hm
    have h2 : (zs.filter (fun z => decide (0 ≤ z))).length = zs.length := by omega
    have h3 := List.length_filter_eq_length_iff.1 h2 _ hm
    simp at h3
  · intro hn
    rw [← h, List.length_filter_eq_length_iff]
    intro z hz
    have h1 := hr z hz
    have h2 : z ≠ -1 := fun e => hn (by rw [← e]; exact hz)
    simp; omega
set_option maxHeartbeats 2000000 in
theorem l5Arrows_any (a b : Option Addr) (n c d : Nat) (zs ys : List Int) (w : World) (h : RI w a n zs) (h' : RI w b n ys) (hn : n ≤ 1600) :
    Calls Try.prog 30 #[.agg #[.int .i64 (n : Int), .slice a n c, .slice b n d]] w fun e w' => e = .returned (.int .i64 ((arr zs n + arr ys n : Nat) : Int)) ∧ Below w.heap.size w w' := by
  have hB0 : Below w.heap.size w (w.alloc (.cells #[.int .i64 (n : Int), .slice a n c, .slice b n d] 27)) := (Below.refl _ w).alloc (Nat.le_refl _) _
  have hA0 : Blk (w.alloc (.cells #[.int .i64 (n : Int), .slice a n c, .slice b n d] 27)) w.heap.size 27 #[.int .i64 (n : Int), .slice a n c, .slice b n d] := Blk.new w _ _
  have HRI := Lib.hid (And.intro (h.below hB0) (h'.below hB0))
  have HB0 := Lib.hid hB0
  have HA0 := Lib.hid hA0
  clear h h' hB0 hA0
  go_enter Try.func30, Try.ntmps30
  go_wp2
  generalize w.alloc (.cells #[.int .i64 (n : Int), .slice a n c, .slice b n d] 27) = w1 at *
  go_loopg [3, 4] n (fun g0 s0 s1 wr => ∃ k : Nat, k + g0 = n ∧ s1 = .int .i64 (k : Int) ∧ s0 = .int .i64 ((arr zs k + arr ys k : Nat) : Int) ∧ wr = w1)
  case atStart => exact ⟨0, by omega, rfl, by rw [arr_zero, arr_zero]; rfl, rfl⟩
  case round =>
    obtain ⟨k, hkg, rfl, rfl, rfl⟩ := hrel
    have g0 : wr.cell? ⟨w.heap.size, 0, none⟩ = some (.int .i64 (n : Int)) := HA0.out.cell 0
    have g1 : wr.cell? ⟨w.heap.size, 1, none⟩ = some (.slice a n c) := HA0.out.cell 1
    have g2 : wr.cell? ⟨w.heap.size, 2, none⟩ = some (.slice b n d) := HA0.out.cell 2
    by_cases hlt : k < n
    · have hki : (k : Int) < (n : Int) := by omega
      obtain ⟨ad, z, rfl, _, hz, hc⟩ := HRI.out.1.get hlt
      obtain ⟨ad', y, rfl, _, hy, hc'⟩ := HRI.out.2.get hlt
      have h1 := arr_le zs k
      have h2 := arr_le ys k
      obtain ⟨t, HT⟩ : ∃ t, Hid (arr zs k + arr ys k = t) := ⟨_, rfl⟩
      have ht : t ≤ 3200 := by rw [← HT.out]; omega
      rw [HT.out]
      by_cases hz0 : 0 ≤ z
      · by_cases hy0 : 0 ≤ y
        · have HE : Hid (arr zs (k + 1) + arr ys (k + 1) = t + 2) := by show _ = _; rw [arr_yes hz hz0, arr_yes hy hy0, ← HT.out]; omega
          clear hz hy h1 h2 HT
          go_wp2
          go_roundg (n - (k + 1))
          case measure => omega
          case rel => exact ⟨k + 1, by omega, by go_num, by rw [HE.out]; go_num, rfl⟩
        · have HE : Hid (arr zs (k + 1) + arr ys (k + 1) = t + 1) := by show _ = _; rw [arr_yes hz hz0, arr_no hy hy0, ← HT.out]; omega
          clear hz hy h1 h2 HT
          go_wp2
          go_roundg (n - (k + 1))
          case measure => omega
          case rel => exact ⟨k + 1, by omega, by go_num, by rw [HE.out]; go_num, rfl⟩
      · by_cases hy0 : 0 ≤ y
        · have HE : Hid (arr zs (k + 1) + arr ys (k + 1) = t + 1) := by show _ = _; rw [arr_no hz hz0, arr_yes hy hy0, ← HT.out]; omega
          clear hz hy h1 h2 HT
          go_wp2
          go_roundg (n - (k + 1))
          case measure => omega
          case rel => exact ⟨k + 1, by omega, by go_num, by rw [HE.out]; go_num, rfl⟩
        · have HE : Hid (arr zs (k + 1) + arr ys (k + 1) = t) := by show _ = _; rw [arr_no hz hz0, arr_no hy hy0, ← HT.out]
          clear hz hy h1 h2 HT
          go_wp2
          go_roundg (n - (k + 1))
          case measure => omega
          case rel => exact ⟨k + 1, by omega, by go_num, by rw [HE.out], rfl⟩
    · obtain rfl : k = n := by omega
      have hki : ¬ (k : Int) < (k : Int) := by omega
      go_wp2
      go_ret
      exact ⟨rfl, HB0.out⟩
/-- a graph as told that has all its arrows -/
def FullG (k : Int) (zs ys : List Int) : Prop := GT k zs ys ∧ (-1 : Int) ∉ zs ∧ (-1 : Int) ∉ ys
theorem full_iff {n : Nat} {zs ys : List Int} (h : GT (n : Int) zs ys) : arr zs n + arr ys n = 2 * n ↔ FullG (n : Int) zs ys := by
  obtain ⟨l1, l2, _⟩ := gt_n h
  have a1 := arr_all l1.1 (fun z hz => (l1.2.1 z hz).1)
  have a2 := arr_all l2.1 (fun z hz => (l2.2.1 z hz).1)
  have b1 := arr_le zs n
  have b2 := arr_le ys n
  constructor
  · intro e; exact ⟨h, a1.1 (by omega), a2.1 (by omega)⟩
  · rintro ⟨_, h1, h2⟩; rw [a1.2 h1, a2.2 h2]; omega
/-- what GraphIndex answers -/
def IdxPost (k : Int) (zs ys : List Int) (w : World) (e : Ending) (w' : World) : Prop := ∃ (r : Int) (ok : Bool), e = .returned (.tuple #[.int .i64 r, .bool ok]) ∧ ((ok = true ∧ r = k ∧ FullG k zs ys) ∨ (ok = false ∧ r = 0 ∧ ¬ FullG k zs ys)) ∧ Below w.heap.size w w'
/-- what GraphRank answers -/
def RnkPost (k : Int) (zs ys : List Int) (w : World) (e : Ending) (w' : World) : Prop := ∃ (r : Int) (ok : Bool), e = .returned (.tuple #[.int .i64 r, .bool ok]) ∧ ((ok = true ∧ r = ((arr zs k.toNat + arr ys k.toNat : Nat) : Int) - k + 1 ∧ GT k zs ys) ∨ (ok = false ∧ r = 0 ∧ ¬ GT k zs ys)) ∧ Below w.heap.size w w'
theorem two_eq {P : Prop} {r s x : Int} {o u : Bool} (h : (o = true ∧ r = x ∧ P) ∨ (o = false ∧ r = 0 ∧ ¬ P)) (h' : (u = true ∧ s = x ∧ P) ∨ (u = false ∧ s = 0 ∧ ¬ P)) : r = s ∧ o = u := by
  rcases h with ⟨rfl, rfl, a⟩ | ⟨rfl, rfl, a⟩ <;> rcases h' with ⟨rfl, rfl, b⟩ | ⟨rfl, rfl, b⟩
  · exact ⟨rfl, rfl⟩
  · exact absurd a b
  · exact absurd b a
  · exact ⟨rfl, rfl⟩
set_option maxHeartbeats 2000000 in
theorem specRank_any (k : Int) (a b : Option Addr) (p m c d : Nat) (zs ys : List Int) (w : World) (h : RI w a p zs) (h' : RI w b m ys) (hp : p ≤ 1048576) (hm : m ≤ 1048576) :
    Calls Try.prog 13 #[.agg #[.int .i64 k, .slice a p c, .slice b m d]] w (RnkPost k zs ys w) := by
  have hB0 : Below w.heap.size w (w.alloc (.cells #[.int .i64 k, .slice a p c, .slice b m d] 27)) := (Below.refl _ w).alloc (Nat.le_refl _) _
  have hA0 : Blk (w.alloc (.cells #[.int .i64 k, .slice a p c, .slice b m d] 27)) w.heap.size 27 #[.int .i64 k, .slice a p c, .slice b m d] := Blk.new w _ _
  have HIN := Lib.hid (specGraphIn_any k a b p m c d zs ys _ (h.below hB0) (h'.below hB0) hp hm)
  have HRI : Hid (∀ W : World, Below w.heap.size w W → RI W a p zs ∧ RI W b m ys) := fun W hW => ⟨h.below hW, h'.below hW⟩
  have HPL : Hid (zs.length = p ∧ ys.length = m) := ⟨h.len, h'.len⟩
  have HB0 := Lib.hid hB0
  have HA0 := Lib.hid hA0
  unfold RnkPost
  clear h h' hB0 hA0
  go_enter Try.func13, Try.ntmps13
  go_wp2_with fail
  refine HIN.out.mono ?_
  rintro e w1 ⟨r1, rfl, hr1, hb⟩
  have HA1 := Lib.hid (HA0.out.below hb HA0.out.lt)
  have HB1 := Lib.hid (HB0.out.trans (hb.mono HB0.out.size))
  have HR1 := Lib.hid hr1
  clear hb hr1 HIN HA0 HB0
  cases r1 with
  | false =>
    have HNO : Hid (¬ GT k zs ys) := fun h => Bool.noConfusion (HR1.out.2 h)
    go_wp2
    go_ret2
    exact ⟨0, false, rfl, .inr ⟨rfl, rfl, HNO.out⟩, HB1.out⟩
  | true =>
    have HG := Lib.hid (HR1.out.1 rfl)
    clear HR1
    obtain ⟨n, rfl, hn1, hn2, _⟩ := HG.out
    obtain ⟨l1, l2, _⟩ := gt_n HG.out
    obtain rfl : p = n := by rw [← HPL.out.1]; exact l1.1
    obtain rfl : m = p := by rw [← HPL.out.2]; exact l2.1
    clear l1 l2
    have hm40 : m ≤ 40 := hn2
    have b1 := arr_le zs m
    have b2 := arr_le ys m
    have HT : Hid ((m : Int).toNat = m) := by show _ = _; omega
    obtain ⟨t, HTT⟩ : ∃ t, Hid (arr zs m + arr ys m = t) := ⟨_, rfl⟩
    have ht : t ≤ 80 := by rw [← HTT.out]; omega
    have HAR : Hid (∀ W : World, Below w.heap.size w W → Calls Try.prog 30 #[.agg #[.int .i64 (m : Int), .slice a m c, .slice b m d]] W fun e w' => e = .returned (.int .i64 (t : Int)) ∧ Below W.heap.size W w') := fun W hW => by
      rw [← HTT.out]
      exact l5Arrows_any a b m c d zs ys W (HRI.out W hW).1 (HRI.out W hW).2 (by omega)
    have HCK : Hid (∀ w' : World, Below w1.heap.size w1 w' → w'.cell? ⟨w.heap.size, 0, none⟩ = some (.int .i64 (m : Int)) ∧ w'.cell? ⟨w.heap.size, 1, none⟩ = some (.slice a m c) ∧ w'.cell? ⟨w.heap.size, 2, none⟩ = some (.slice b m d)) := fun w' hW => ⟨(HA1.out.below hW HA1.out.lt).cell 0, (HA1.out.below hW HA1.out.lt).cell 1, (HA1.out.below hW HA1.out.lt).cell 2⟩
    have HBc : Below w1.heap.size w1 w1.drew := (Below.refl _ _).drew
    have hle : w1.heap.size ≤ w1.heap.size := Nat.le_refl _
    go_wp2_with fail
    go_region_held3 (fun w' => w'.cell? ⟨w.heap.size, 0, none⟩ = some (.int .i64 (m : Int)) ∧ w'.cell? ⟨w.heap.size, 1, none⟩ = some (.slice a m c) ∧ w'.cell? ⟨w.heap.size, 2, none⟩ = some (.slice b m d)) (exact HCK.out _ (by first | exact HBc | exact HBc.alloc (by have := HBc.size; omega) _))
      (first
        | (go_at_call 30
           refine (HAR.out _ (HB1.out.trans (HBc.mono HB1.out.size))).mono ?_
           rintro e w2 ⟨rfl, hb2⟩
           have HBc := bel5 HBc hb2 hle
           clear hb2))
    have HB2 := Lib.hid (HB1.out.trans (HBc.mono HB1.out.size))
    clear HBc hle HCK HAR HA1 HB1
    go_wp2
    go_ret2
    exact ⟨_, true, rfl, .inl ⟨rfl, by rw [HT.out, HTT.out, IntKind.wrap_i64, IntKind.wrap_i64]; omega, HG.out⟩, HB2.out⟩
set_option maxHeartbeats 1000000 in
theorem slIndexI_any (A : Option Addr) (n c : Nat) (zs : List Int) (x : Int) (w : World) (h : RI w A n zs) (hn : n ≤ 1048576) :
    Calls Try.prog 47 #[.slice A n c, .int .i64 x] w fun e w' => (∃ i : Int, e = .returned (.int .i64 i) ∧ (decide (0 ≤ i) = decide (x ∈ zs))) ∧ w' = w := by
  have HL := Lib.hid h.len
  obtain ⟨q, HQ⟩ : ∃ q, Hid (decide (x ∈ zs) = q) := ⟨_, rfl⟩
  rw [HQ.out]
  go_enter Try.func47, Try.ntmps47
  go_wp2
  go_loopw [8] (fun i wr => ∃ k : Nat, k ≤ n ∧ i = .int .i64 (k : Int) ∧ wr = w ∧ Hid (x ∉ zs.take k)) (fun i _ => n - (intOf i).toNat)
  case atStart => exact ⟨0, Nat.zero_le _, rfl, rfl, Lib.hid (by simp)⟩
  case round =>
    obtain ⟨k, hk, rfl, rfl, HX⟩ := hrel
    by_cases hlt : k < n
    · obtain ⟨ad, t, rfl, hab, hs, hc⟩ := h.get hlt
      have HS := Lib.hid hs
      have hki : (k : Int) < (n : Int) := by omega
      clear hs h
      by_cases he : x = t
      · have hb : (x == t) = true := by rw [beq_iff_eq]; exact he
        have hb2 : (t == x) = true := by rw [beq_iff_eq]; exact he.symm
        have HD : Hid (q = true) := HQ.out.symm.trans (decide_eq_true (by rw [he]; exact List.mem_of_getElem? HS.out))
        clear he
        go_wp2
        go_ret
        exact ⟨⟨(k : Int), rfl, by rw [HD.out]; exact decide_eq_true (by omega)⟩, rfl⟩
      · have hb : (x == t) = false := by rw [beq_eq_false_iff_ne]; exact he
        have hb2 : (t == x) = false := by rw [beq_eq_false_iff_ne]; exact fun e => he e.symm
        have HX2 : Hid (x ∉ zs.take (k + 1)) := fun hm => by
          rw [take_int HS.out] at hm
          rcases List.mem_append.1 hm with h' | h'
          · exact HX.out h'
          · exact he (List.mem_singleton.1 h')
        clear he
        go_wp2
        go_roundw
        case rel => exact ⟨k + 1, by omega, by go_num, trivial, HX2⟩
        case measure => simp [intOf]; omega
    · obtain rfl : k = n := by omega
      have hki : ¬ (k : Int) < (k : Int) := by omega
      have HD : Hid (q = false) := HQ.out.symm.trans (decide_eq_false (fun hm => HX.out (by rw [List.take_of_length_le (by have := HL.out; omega)]; exact hm)))
      clear h
      go_wp2
      go_ret
      exact ⟨⟨-1, rfl, by rw [HD.out]; rfl⟩, rfl⟩
theorem slContainsI_any (A : Option Addr) (n c : Nat) (zs : List Int) (x : Int) (w : World) (h : RI w A n zs) (hn : n ≤ 1048576) :
    Calls Try.prog 32 #[.slice A n c, .int .i64 x] w fun e w' => e = .returned (.bool (decide (x ∈ zs))) ∧ w' = w := by
  have HI := Lib.hid (slIndexI_any A n c zs x w h hn)
  clear h
  go_enter Try.func32, Try.ntmps32
  go_wp2_with fail
  refine HI.out.mono ?_
  rintro e w1 ⟨⟨i, rfl, hi⟩, rfl⟩
  have HD := Lib.hid hi
  clear hi
  go_wp2
  go_ret
  exact ⟨by rw [← HD.out]; rfl, rfl⟩
set_option maxHeartbeats 2000000 in
theorem implIndex5_any (k : Int) (a b : Option Addr) (p m c d : Nat) (zs ys : List Int) (w : World) (h : RI w a p zs) (h' : RI w b m ys) (hp : p ≤ 1048576) (hm : m ≤ 1048576) :
    Calls Try.prog 16 #[.agg #[.int .i64 k, .slice a p c, .slice b m d]] w (IdxPost k zs ys w) := by
  have hB0 : Below w.heap.size w (w.alloc (.cells #[.int .i64 k, .slice a p c, .slice b m d] 27)) := (Below.refl _ w).alloc (Nat.le_refl _) _
  have hA0 : Blk (w.alloc (.cells #[.int .i64 k, .slice a p c, .slice b m d] 27)) w.heap.size 27 #[.int .i64 k, .slice a p c, .slice b m d] := Blk.new w _ _
  have HIN := Lib.hid (implGraphIn_any k a b p m c d zs ys _ (h.below hB0) (h'.below hB0) hp hm)
  have HC1 : Hid (∀ W : World, Below w.heap.size w W → Calls Try.prog 32 #[.slice a p c, .int .i64 (-1)] W fun e w' => e = .returned (.bool (decide ((-1 : Int) ∈ zs))) ∧ w' = W) := fun W hW => slContainsI_any a p c zs (-1) W (h.below hW) hp
  have HC2 : Hid (∀ W : World, Below w.heap.size w W → Calls Try.prog 32 #[.slice b m d, .int .i64 (-1)] W fun e w' => e = .returned (.bool (decide ((-1 : Int) ∈ ys))) ∧ w' = W) := fun W hW => slContainsI_any b m d ys (-1) W (h'.below hW) hm
  have HB0 := Lib.hid hB0
  have HA0 := Lib.hid hA0
  have HQ : Hid (FullG k zs ys ↔ GT k zs ys ∧ decide ((-1 : Int) ∈ zs) = false ∧ decide ((-1 : Int) ∈ ys) = false) := by
    show _ ↔ _
    unfold FullG
    rw [decide_eq_false_iff_not, decide_eq_false_iff_not]
  unfold IdxPost
  clear h h' hB0 hA0
  generalize FullG k zs ys = FG at *
  generalize decide ((-1 : Int) ∈ zs) = q1 at *
  generalize decide ((-1 : Int) ∈ ys) = q2 at *
  go_enter Try.func16, Try.ntmps16
  go_wp2_with fail
  refine HIN.out.mono ?_
  rintro e w1 ⟨r1, rfl, hr1, hb⟩
  have HA1 := Lib.hid (HA0.out.below hb HA0.out.lt)
  have HB1 := Lib.hid (HB0.out.trans (hb.mono HB0.out.size))
  have HR1 := Lib.hid hr1
  have g0 : w1.cell? ⟨w.heap.size, 0, none⟩ = some (.int .i64 k) := HA1.out.cell 0
  have g1 : w1.cell? ⟨w.heap.size, 1, none⟩ = some (.slice a p c) := HA1.out.cell 1
  have g2 : w1.cell? ⟨w.heap.size, 2, none⟩ = some (.slice b m d) := HA1.out.cell 2
  clear hb hr1 HIN HA0 HB0
  cases r1 with
  | false =>
    have HNO : Hid (¬ FG) := fun h => Bool.noConfusion (HR1.out.2 (HQ.out.1 h).1)
    clear HR1 HQ
    go_wp2
    go_ret2
    exact ⟨0, false, rfl, .inr ⟨rfl, rfl, HNO.out⟩, HB1.out⟩
  | true =>
    have HG := Lib.hid (HR1.out.1 rfl)
    clear HR1
    go_wp2_with fail
    refine (HC1.out _ HB1.out).mono ?_
    rintro e w2 ⟨rfl, hw2⟩
    subst hw2
    cases q1 with
    | true =>
      have HNO : Hid (¬ FG) := fun h => Bool.noConfusion (HQ.out.1 h).2.1
      clear HQ
      go_wp2
      go_ret2
      exact ⟨0, false, rfl, .inr ⟨rfl, rfl, HNO.out⟩, HB1.out⟩
    | false =>
      have HQ2 : Hid (FG ↔ q2 = false) := ⟨fun h => (HQ.out.1 h).2.2, fun h => HQ.out.2 ⟨HG.out, rfl, h⟩⟩
      clear HQ
      go_wp2_with fail
      refine (HC2.out _ HB1.out).mono ?_
      rintro e w3 ⟨rfl, hw3⟩
      subst hw3
      cases q2 with
      | true =>
        have HNO : Hid (¬ FG) := fun h => Bool.noConfusion (HQ2.out.1 h)
        clear HQ2
        go_wp2
        go_ret2
        exact ⟨0, false, rfl, .inr ⟨rfl, rfl, HNO.out⟩, HB1.out⟩
      | false =>
        have HF : Hid FG := HQ2.out.2 rfl
        clear HQ2
        go_wp2
        go_ret2
        exact ⟨k, true, rfl, .inl ⟨rfl, rfl, HF.out⟩, HB1.out⟩
set_option maxHeartbeats 2000000 in
theorem specIndex5_any (k : Int) (a b : Option Addr) (p m c d : Nat) (zs ys : List Int) (w : World) (h : RI w a p zs) (h' : RI w b m ys) (hp : p ≤ 1048576) (hm : m ≤ 1048576) :
    Calls Try.prog 15 #[.agg #[.int .i64 k, .slice a p c, .slice b m d]] w (IdxPost k zs ys w) := by
  have hB0 : Below w.heap.size w (w.alloc (.cells #[.int .i64 k, .slice a p c, .slice b m d] 27)) := (Below.refl _ w).alloc (Nat.le_refl _) _
  have hA0 : Blk (w.alloc (.cells #[.int .i64 k, .slice a p c, .slice b m d] 27)) w.heap.size 27 #[.int .i64 k, .slice a p c, .slice b m d] := Blk.new w _ _
  have HRI : Hid (∀ W : World, Below w.heap.size w W → RI W a p zs ∧ RI W b m ys) := fun W hW => ⟨h.below hW, h'.below hW⟩
  have HPL : Hid (zs.length = p ∧ ys.length = m) := ⟨h.len, h'.len⟩
  have HB0 := Lib.hid hB0
  have HA0 := Lib.hid hA0
  unfold IdxPost
  clear h h' hB0 hA0
  generalize hV0 : w.alloc (.cells #[.int .i64 k, .slice a p c, .slice b m d] 27) = V0 at *
  have HV0 := Lib.hid hV0
  clear hV0
  by_cases hg : GT k zs ys
  · obtain ⟨n, rfl, hn1, hn2, _⟩ := id hg
    obtain ⟨l1, l2, _⟩ := gt_n hg
    obtain rfl : p = n := by rw [← HPL.out.1]; exact l1.1
    obtain rfl : m = p := by rw [← HPL.out.2]; exact l2.1
    have HF := Lib.hid (full_iff hg)
    have b1 := arr_le zs m
    have b2 := arr_le ys m
    have HIN : Hid (∀ W : World, Below w.heap.size w W → Calls Try.prog 9 #[.agg #[.int .i64 (m : Int), .slice a m c, .slice b m d]] W fun e w' => e = .returned (.bool true) ∧ Below W.heap.size W w') := fun W hW => by
      refine (specGraphIn_any (m : Int) a b m m c d zs ys W (HRI.out W hW).1 (HRI.out W hW).2 hp hm).mono ?_
      rintro e w' ⟨r, rfl, hr, hb⟩
      rw [hr.2 hg]
      exact ⟨rfl, hb⟩
    have HAR : Hid (∀ W : World, Below w.heap.size w W → Calls Try.prog 30 #[.agg #[.int .i64 (m : Int), .slice a m c, .slice b m d]] W fun e w' => e = .returned (.int .i64 ((arr zs m + arr ys m : Nat) : Int)) ∧ Below W.heap.size W w') := fun W hW => l5Arrows_any a b m c d zs ys W (HRI.out W hW).1 (HRI.out W hW).2 (by omega)
    have HCK : Hid (∀ w' : World, Below V0.heap.size V0 w' → w'.cell? ⟨w.heap.size, 0, none⟩ = some (.int .i64 (m : Int)) ∧ w'.cell? ⟨w.heap.size, 1, none⟩ = some (.slice a m c) ∧ w'.cell? ⟨w.heap.size, 2, none⟩ = some (.slice b m d)) := fun w' hW => ⟨(HA0.out.below hW HA0.out.lt).cell 0, (HA0.out.below hW HA0.out.lt).cell 1, (HA0.out.below hW HA0.out.lt).cell 2⟩
    have HBc : Below V0.heap.size V0 V0.drew := (Below.refl _ _).drew
    have hle : V0.heap.size ≤ V0.heap.size := Nat.le_refl _
    clear hg l1 l2
    generalize FullG (m : Int) zs ys = FG at *
    generalize arr zs m + arr ys m = t at *
    have hmm : (m : Int) ≤ 40 := by omega
    by_cases he : t = 2 * m
    · have hbn : ((t : Int) != IntKind.i64.wrap (2 * (m : Int))) = false := by rw [show IntKind.i64.wrap (2 * (m : Int)) = 2 * (m : Int) by rw [IntKind.wrap_i64]; omega, bne_eq_false_iff_eq]; omega
      have HY : Hid FG := HF.out.1 he
      clear he HF
      go_enter Try.func15, Try.ntmps15
      go_wp2_with fail
      rw [HV0.out]
      go_region_held3 (fun w' => w'.cell? ⟨w.heap.size, 0, none⟩ = some (.int .i64 (m : Int)) ∧ w'.cell? ⟨w.heap.size, 1, none⟩ = some (.slice a m c) ∧ w'.cell? ⟨w.heap.size, 2, none⟩ = some (.slice b m d)) (exact HCK.out _ (by first | exact HBc | exact HBc.alloc (by have := HBc.size; omega) _))
        (first
          | (go_at_call 9
             refine (HIN.out _ (HB0.out.trans (HBc.mono HB0.out.size))).mono ?_
             rintro e q1 ⟨rfl, hb2⟩
             have HBc := bel5 HBc hb2 hle
             clear hb2)
          | (go_at_call 30
             refine (HAR.out _ (HB0.out.trans (HBc.mono HB0.out.size))).mono ?_
             rintro e w2 ⟨rfl, hb2⟩
             have HBc := bel5 HBc hb2 hle
             clear hb2))
      have HB2 := Lib.hid (HB0.out.trans (HBc.mono HB0.out.size))
      have g0 := (HCK.out _ HBc).1
      clear HBc hle HCK HAR HIN HA0 HB0
      go_wp2
      go_ret2
      exact ⟨_, true, rfl, .inl ⟨rfl, rfl, HY.out⟩, HB2.out⟩
    · have hbn : ((t : Int) != IntKind.i64.wrap (2 * (m : Int))) = true := by rw [show IntKind.i64.wrap (2 * (m : Int)) = 2 * (m : Int) by rw [IntKind.wrap_i64]; omega, bne_iff_ne]; omega
      have HNO : Hid (¬ FG) := fun h => he (HF.out.2 h)
      clear he HF
      go_enter Try.func15, Try.ntmps15
      go_wp2_with fail
      rw [HV0.out]
      go_region_held3 (fun w' => w'.cell? ⟨w.heap.size, 0, none⟩ = some (.int .i64 (m : Int)) ∧ w'.cell? ⟨w.heap.size, 1, none⟩ = some (.slice a m c) ∧ w'.cell? ⟨w.heap.size, 2, none⟩ = some (.slice b m d)) (exact HCK.out _ (by first | exact HBc | exact HBc.alloc (by have := HBc.size; omega) _))
        (first
          | (go_at_call 9
             refine (HIN.out _ (HB0.out.trans (HBc.mono HB0.out.size))).mono ?_
             rintro e q1 ⟨rfl, hb2⟩
             have HBc := bel5 HBc hb2 hle
             clear hb2)
          | (go_at_call 30
             refine (HAR.out _ (HB0.out.trans (HBc.mono HB0.out.size))).mono ?_
             rintro e w2 ⟨rfl, hb2⟩
             have HBc := bel5 HBc hb2 hle
             clear hb2))
      have HB2 := Lib.hid (HB0.out.trans (HBc.mono HB0.out.size))
      clear HBc hle HCK HAR HIN HA0 HB0
      go_wp2
      go_ret2
      exact ⟨0, false, rfl, .inr ⟨rfl, rfl, HNO.out⟩, HB2.out⟩
  · have HIN : Hid (∀ W : World, Below w.heap.size w W → Calls Try.prog 9 #[.agg #[.int .i64 k, .slice a p c, .slice b m d]] W fun e w' => e = .returned (.bool false) ∧ Below W.heap.size W w') := fun W hW => by
      refine (specGraphIn_any k a b p m c d zs ys W (HRI.out W hW).1 (HRI.out W hW).2 hp hm).mono ?_
      rintro e w' ⟨r, rfl, hr, hb⟩
      cases r with
      | false => exact ⟨rfl, hb⟩
      | true => exact absurd (hr.1 rfl) hg
    have HNO : Hid (¬ FullG k zs ys) := fun h => hg h.1
    have HCK : Hid (∀ w' : World, Below V0.heap.size V0 w' → w'.cell? ⟨w.heap.size, 0, none⟩ = some (.int .i64 k) ∧ w'.cell? ⟨w.heap.size, 1, none⟩ = some (.slice a p c) ∧ w'.cell? ⟨w.heap.size, 2, none⟩ = some (.slice b m d)) := fun w' hW => ⟨(HA0.out.below hW HA0.out.lt).cell 0, (HA0.out.below hW HA0.out.lt).cell 1, (HA0.out.below hW HA0.out.lt).cell 2⟩
    have HBc : Below V0.heap.size V0 V0.drew := (Below.refl _ _).drew
    have hle : V0.heap.size ≤ V0.heap.size := Nat.le_refl _
    clear hg
    go_enter Try.func15, Try.ntmps15
    go_wp2_with fail
    rw [HV0.out]
    have g0 : V0.cell? ⟨w.heap.size, 0, none⟩ = some (.int .i64 k) := HA0.out.cell 0
    have g1 : V0.cell? ⟨w.heap.size, 1, none⟩ = some (.slice a p c) := HA0.out.cell 1
    have g2 : V0.cell? ⟨w.heap.size, 2, none⟩ = some (.slice b m d) := HA0.out.cell 2
    first
      | go_region_with (go_at_call 9; refine (HIN.out _ (HB0.out.trans (HBc.mono HB0.out.size))).mono ?_; rintro e q1 ⟨rfl, hb2⟩; have HBc := bel5 HBc hb2 hle; clear hb2)
      | fail
    all_goals
      have HB2 := Lib.hid (HB0.out.trans (HBc.mono HB0.out.size))
      clear HBc hle HCK HIN HA0 HB0
      go_wp2
      go_ret2
      exact ⟨0, false, rfl, .inr ⟨rfl, rfl, HNO.out⟩, HB2.out⟩
end Go.Proofs.Ythliifgjolgmgaa
