/-
  ChartJoin of both.
-/
import Derived.Test.YtdmobfjcbjengabCompB
import Derived.Deep.AppendLies
namespace Go.Proofs.Ytdmobfjcbjengab
open Go.RowKit

set_option maxHeartbeats 400000 in
theorem implJoin_any (A B : Option Addr) (n m c d : Nat) (zs ys : List Int) (w : World) (h : RI w A n zs) (h' : RI w B m ys) :
    Calls Try.prog 16 #[.slice A n c, .slice B m d] w fun e w' => ∃ v, e = .returned (.tuple #[v, .bool (coB zs ys)]) ∧ NewL w (joL zs ys) v w' := by
  go_enter Try.func16, Try.ntmps16
  go_wp2_with fail
  refine (chartPair_any _ _ _ _ _ _ _ _ _ h h').mono ?_
  rintro e w1 ⟨k, T, G, rfl, rfl, hT, hG, hb⟩
  have hk := pk_le zs ys
  have hB : Below w.heap.size w ((w1.alloc (.cells #[.int .i64 (((pk zs ys : Nat) : Int)), .int .i64 (T 0), .int .i64 (T 1), .int .i64 (T 2), .int .i64 (T 3), .int .i64 (T 4), .int .i64 (T 5)] 45)).alloc (.cells #[.int .i64 (((pk zs ys : Nat) : Int)), .int .i64 (G 0), .int .i64 (G 1), .int .i64 (G 2), .int .i64 (G 3), .int .i64 (G 4), .int .i64 (G 5)] 45)) := (hb.alloc hb.size _).alloc (by have := hb.size; simp; omega) _
  have hET : En (pk zs ys) T := en_congr (pF_en zs ys) (fun j hj => hT j (by omega))
  have hEG : En (pk zs ys) G := en_congr (pG_en zs ys) (fun j hj => hG j (by omega))
  cases hP : isP zs ys
  · have HT := Lib.hid (coB_no hP)
    have HL : Hid (joL zs ys = []) := by show _ = _; simp [joL, HT.out]
    clear hP hT hG h h' hb
    go_wp2
    go_ret2
    refine ⟨_, by rw [HT.out]; rfl, ?_, hB⟩
    rw [HL.out]; exact World.ownsRow_nil _ _ _ _
  · have hco : coF (pk zs ys) T G = coB zs ys := by rw [coF_congr hk hET hEG (fun j hj => hT j (by omega)) (fun j hj => hG j (by omega))]; simp [coB, hP]
    have HT := Lib.hid hco
    cases hC : coB zs ys
    · have HC := Lib.hid hC
      have HL : Hid (joL zs ys = []) := by show _ = _; simp [joL, hC]
      clear hP hT hG h h' hb hco hC
      generalize pk zs ys = k at *
      go_wp2_with fail
      refine (compat_any k hk T G hET hEG _).mono ?_
      rintro e w2 ⟨rfl, hb2⟩
      rw [HT.out, HC.out]
      have hB2 := hB.trans (hb2.mono hB.size)
      clear hb2
      go_wp2
      go_ret2
      refine ⟨_, by rw [HC.out]; rfl, ?_, hB2⟩
      rw [HL.out]; exact World.ownsRow_nil _ _ _ _
    · have HC := Lib.hid hC
      have HL : Hid (LT (pk zs ys) (joinL T (mv G (pk zs ys))) = joL zs ys) := by
        show _ = _
        rw [show joL zs ys = LT zs.length (joinL (ofL zs) (mv (ofL ys) zs.length)) by simp [joL, hC]]
        rw [pk_yes hP] at hk ⊢
        refine LT_congr (fun j hj => ?_)
        rw [join_closed _ _ j _ hk, join_closed _ _ j _ hk, hT j (by omega), hG j (by omega), pF_yes hP, pG_yes hP]
      clear hP hT hG h h' hb hco hC
      generalize pk zs ys = k at *
      go_wp2_with fail
      refine (compat_any k hk T G hET hEG _).mono ?_
      rintro e w2 ⟨rfl, hb2⟩
      rw [HT.out, HC.out]
      have hB2 := hB.trans (hb2.mono hB.size)
      have hc0 := ((Cb.new w1 k T).alloc (.cells #[.int .i64 ((k : Int)), .int .i64 (G 0), .int .i64 (G 1), .int .i64 (G 2), .int .i64 (G 3), .int .i64 (G 4), .int .i64 (G 5)] 45)).below hb2 (by simp; omega)
      have hd0 := (Cb.new (w1.alloc (.cells #[.int .i64 ((k : Int)), .int .i64 (T 0), .int .i64 (T 1), .int .i64 (T 2), .int .i64 (T 3), .int .i64 (T 4), .int .i64 (T 5)] 45)) k G).below hb2 (by simp)
      rw [World.size_alloc] at hd0
      obtain ⟨a0, a1, a2, a3, a4, a5, a6⟩ := hc0.all
      obtain ⟨c0, c1, c2, c3, c4, c5, c6⟩ := hd0.all
      clear hb2 hc0 hd0
      go_wp2_with fail
      refine (join_any k hk T G (en_ok hk hEG) _).mono ?_
      rintro e w3 ⟨T', rfl, HT', hb3⟩
      go_wp2_with fail
      refine (list_any k hk T' _).mono ?_
      rintro e w4 ⟨B', rfl, hown, hb4⟩
      have hB3 := hB2.trans (hb3.mono hB2.size)
      have hB4 := hB3.trans (hb4.mono hB3.size)
      have hN := newL_oB hown hB3.size hB4 ((LT_congr (fun j hj => HT'.out j (by omega))).trans HL.out)
      clear hown hb3 hb4
      go_wp2
      go_ret2
      exact ⟨_, by rw [HC.out]; rfl, hN⟩

theorem app_cell {w wr w1 X : World} {o : Obj} {v u : Value} {n k : Nat} {xs : List Value} {ad : Addr} (hg : X.grownBy w1 v.ownBlock) (hown : wr.ownsRow w.heap.size 3 1 v n xs) (hc : wr.cell? (ad.add k) = some u) (hab : ad.block < w.heap.size) (hX : X.heap = (wr.alloc o).heap := by rfl) : w1.cell? (ad.add k) = some u := by
  have hX' : X.cell? (ad.add k) = some u := by
    have hlt : (ad.add k).block < wr.heap.size := block_lt_of_cell hc
    rw [← hc, ← World.cell?_alloc_lt wr o (ad.add k) hlt]
    exact World.cell?_of_block (by rw [hX])
  refine hg.cell hX' (fun e => ?_)
  have := (hown.lt _ e.symm).1
  rw [block_of_add] at this
  omega

set_option maxRecDepth 100000 in
set_option maxHeartbeats 1000000 in
theorem specJoin_any (A B : Option Addr) (n m c d : Nat) (zs ys : List Int) (w : World) (h : RI w A n zs) (h' : RI w B m ys) (hn : n ≤ 1048576) (hm : m ≤ 1048576) :
    Calls Try.prog 17 #[.slice A n c, .slice B m d] w fun e w' => ∃ v, e = .returned (.tuple #[v, .bool (coB zs ys)]) ∧ NewL w (joL zs ys) v w' := by
  cases hC : coB zs ys
  · have HC := Lib.hid hC
    have HL : Hid (joL zs ys = []) := by show _ = _; simp [joL, hC]
    clear hC
    go_enter Try.func17, Try.ntmps17
    go_wp2_with fail
    refine (specComp_any _ _ _ _ _ _ _ _ _ h h' hn hm).mono ?_
    rintro e w1 ⟨rfl, hb1⟩
    rw [HC.out]
    go_wp2
    go_ret2
    refine ⟨_, rfl, ?_, hb1.alloc hb1.size _⟩
    rw [HL.out]
    have := own_lit0 w1
    exact ⟨this.1, this.2.imp id fun ⟨g, cap, cur, a, b, c⟩ => ⟨g, cap, cur, a, Nat.le_trans hb1.size b, c⟩⟩
  · obtain ⟨i0, hi, hz0, hz1, hz2⟩ := info_parts info_int
    have hP : isP zs ys = true := by unfold coB at hC; rw [Bool.and_eq_true] at hC; exact hC.1
    obtain ⟨hf, hg, hfg⟩ := isP_yes hP
    have hcF := hC
    rw [coB_yes hP] at hcF
    have hL := h.len
    have hL' := h'.len
    obtain rfl : n = m := by omega
    have hE := isC_ent hf
    have hE' := isC_ent hg
    have hIn := isC_in hf
    have h6 := (isC_len hf).2
    have HT : Hid (LT n (mxF zs ys) = joL zs ys) := by
      show _ = _
      rw [hL] at hE hIn hcF h6
      rw [hL'] at hE'
      rw [mxF_closed h6 hE hIn hE' hcF]
      simp [joL, hC, hL]
    rw [hL] at h6
    have HC := Lib.hid hC
    clear hC hP hf hg hfg hcF hL hL' hE hE' hIn hm
    go_enter Try.func17, Try.ntmps17
    go_wp2_with fail
    refine (specComp_any _ _ _ _ _ _ _ _ _ h h' hn hn).mono ?_
    rintro e w0 ⟨rfl, hb0⟩
    rw [HC.out]
    have hBs := hb0.alloc hb0.size (.cells #[] 3)
    have hos : (w0.alloc (.cells #[] 3)).ownsRow w.heap.size 3 1 (.slice (some ⟨w0.heap.size, 0, none⟩) 0 0) 0 (ivs (LT 0 (mxF zs ys))) := by
      have := own_lit0 w0
      exact ⟨this.1, this.2.imp id fun ⟨g, cap, cur, a, b, c⟩ => ⟨g, cap, cur, a, Nat.le_trans hb0.size b, c⟩⟩
    go_wp2
    go_loopw [6, 7] (fun v i wr => ∃ k : Nat, k ≤ n ∧ i = .int .i64 k ∧ wr.ownsRow w.heap.size 3 1 v k (ivs (LT k (mxF zs ys))) ∧ Below w.heap.size w wr) (fun _ i _ => n - (intOf i).toNat)
    case atStart => exact ⟨0, Nat.zero_le _, rfl, hos, hBs⟩
    case round =>
      clear hos hBs
      obtain ⟨k, hk, rfl, hown, hB⟩ := hrel
      by_cases hlt : k < n
      · obtain ⟨ad, rfl, hab, hc⟩ := h.at_ hlt
        obtain ⟨ad', rfl, hab', hc'⟩ := h'.at_ hlt
        have g := (hB.cell (p := ad.add k) (by rw [block_of_add]; exact hab)).trans hc
        have g' := (hB.cell (p := ad'.add k) (by rw [block_of_add]; exact hab')).trans hc'
        have hof : ofL zs k = zs[k]?.getD 0 := rfl
        have hof' : ofL ys k = ys[k]?.getD 0 := rfl
        have HL := Lib.hid (show LT k (mxF zs ys) ++ [if zs[k]?.getD 0 < ys[k]?.getD 0 then ys[k]?.getD 0 else zs[k]?.getD 0] = LT (k + 1) (mxF zs ys) by
          rw [LT_succ]; congr 2; show _ = max (zs[k]?.getD 0) (ys[k]?.getD 0); split <;> omega)
        generalize zs[k]?.getD 0 = z at g HL
        generalize ys[k]?.getD 0 = y at g' HL
        have hbl : (ad.add k).block < wr.heap.size := by rw [block_of_add]; have := hB.size; omega
        have hbl' : (ad'.add k).block < wr.heap.size := by rw [block_of_add]; have := hB.size; omega
        clear hc hc' h h' hof hof'
        have h1 : k + 1 ≤ maxLen := by unfold maxLen; omega
        have h2 : (k + 1) * 8 ≤ 140737488355328 := by omega
        go_wp2
        go_region_held3 (fun w' => w'.cell? (ad.add k) = some (.int .i64 z) ∧ w'.cell? (ad'.add k) = some (.int .i64 y))
          (first | go_keep | ((refine ⟨?_, ?_⟩) <;> assumption))
          ((refine step_append_lies _ (by rfl) _ _ _ (by rfl) w.heap.size 3 i0 _ 1 8 Try.underlying23 hi hz0 hz1 hz2 rfl (by omega) u6 k (ivs (LT k (mxF zs ys))) (by rfl) ((hown.alloc _).drew)
              ⟨wr.heap.size, 0, none⟩ 1 1 [.int .i64 (if z < y then y else z)] (by rfl) (by rfl) (World.news_of_block (cs := #[.int .i64 (if z < y then y else z)]) (t := 3) (fr := (0, 0)) (heap_alloc_new wr _)) (by simp [Value.oneCell'])
              (by omega) h1 h2 (by have := hB.size; simp; omega) (wr.heap.size + 1) (by simp) ?_; intro gg cap w1 hown1 hgrow hat hlt1; have q1 := app_cell hgrow hown g hab; have q2 := app_cell hgrow hown g' hab'))
        have hR := app_step hB hown hown1 ⟨hgrow.os, hgrow.tape, hgrow.output, hgrow.size, hgrow.block⟩ HL.out
        clear hown hown1 hgrow hat hlt1
        go_wp2
        exact ⟨⟨k + 1, by omega, by go_num, hR.1, hR.2⟩, by simp [intOf]; omega⟩
      · obtain rfl : k = n := by omega
        have HN : Hid (NewL w (joL zs ys) u6 wr) := by rw [HT.out] at hown; show NewL _ _ _ _; refine ⟨?_, hB⟩; rw [← HT.out, LT_length, HT.out]; exact hown
        clear hown
        go_wp2
        go_ret2
        exact ⟨_, rfl, HN.out⟩
end Go.Proofs.Ytdmobfjcbjengab
