/-
  Ds.
-/
import Derived.Test.YtlfbocmcbkcfhaaDoorUT
import Derived.Test.YtlfbocmcbkcfhaaDoorUW
namespace Go.Proofs.YtlfbocmcbkcfhaaDoor
set_option maxRecDepth 100000
set_option linter.unusedVariables false
set_option linter.unusedSimpArgs false
set_option linter.unusedSectionVars false

/-! spec.DrawTreeSame: two words; the tree of a word and of another behind it. -/
section
open Go.RowKit Go.Lib Go.Sort

theorem words_law {a b : ByteArray} (h : SameQ a b) {R1 R2 R3 : TR} (h1 : OfOk a R1) (h2 : TimesOk (resL R1) (resL R1) (resE R1) (resE R1) R2) (h3 : OfOk (a ++ b) R3) (ha : a.size ≤ 12) (hb : b.size ≤ 12) :
    R1.isSome = true ∧ R3.isSome = true ∧ (R2.isSome = true → resL R2 = resL R3 ∧ resE R2 = resE R3) := by
  obtain ⟨R, k1, k2, hR⟩ := h
  obtain rfl := k1.same h1
  obtain ⟨wa, S, rfl, la, hX, rfl, hT⟩ := of_tin k1 hR
  obtain ⟨wb, S', rfl, lb, hX', eR, _⟩ := of_tin k2 hR
  injection eR with eR
  injection eR with eS er
  subst eS
  have za : (txt wa).size = wa.length := by unfold txt; simp [ByteArray.size]
  have zb : (txt wb).size = wb.length := by unfold txt; simp [ByteArray.size]
  rw [txt_app] at h3
  have hw : wordB (txt (wa ++ wb)) = true := txt_word (by rw [List.length_append]; omega)
  have s3 : R3.isSome = true := by
    rcases h3 with ⟨hn, _⟩ | ⟨_, _, _, _, _, _, rfl⟩
    · rw [hw] at hn; cases hn
    · rfl
  refine ⟨rfl, s3, fun s2 => ?_⟩
  obtain ⟨L, hL, e2, t2⟩ := times_at hT hT h2 s2
  obtain ⟨ww, S3, ew, _, hX3, e3, t3⟩ := of_tin h3 s3
  have := txt_inj ew
  subst this
  have hr : Rdc (redS wa) := goW_rdc rdc_nil
  have hmul : ∀ v : List (Fin 4), goW (redS wa) v = mulW (redS wa) (goW [] v) := fun v => by rw [mulW_go hr, mulW_nil]
  refine tin_eq t2 t3 (fun x => ?_) (by
    have : redS (wa ++ wb) = goW (redS wa) wb := goW_app _ _ _
    rw [this, hmul wb]
    show mulW (redS wa) (redS wa) = mulW (redS wa) (redS wb)
    rw [← er])
  rw [hL x, hX3 x]
  constructor
  · rintro (hx | ⟨v, hv, rfl⟩)
    · obtain ⟨u, hu, t, ht, rfl⟩ := (hX x).1 hx
      rw [List.mem_singleton.1 hu] at ht ⊢
      exact ⟨_, List.mem_singleton.2 rfl, t, by rw [List.length_append]; omega, by rw [List.take_append_of_le_length ht]⟩
    · obtain ⟨u, hu, t, ht, rfl⟩ := (hX' v).1 hv
      rw [List.mem_singleton.1 hu] at ht ⊢
      refine ⟨_, List.mem_singleton.2 rfl, wa.length + t, by rw [List.length_append]; omega, ?_⟩
      rw [List.take_length_add_append, goW_app, ← hmul]; rfl
  · rintro ⟨u, hu, t, ht, rfl⟩
    rw [List.mem_singleton.1 hu] at ht ⊢
    rcases Nat.lt_or_ge t wa.length with h | h
    · exact .inl ((hX _).2 ⟨wa, List.mem_singleton.2 rfl, t, by omega, by rw [List.take_append_of_le_length (by omega)]⟩)
    · obtain ⟨k, rfl⟩ : ∃ k, t = wa.length + k := ⟨t - wa.length, by omega⟩
      rw [List.take_length_add_append, goW_app]
      exact .inr ⟨goW [] (wb.take k), (hX' _).2 ⟨wb, List.mem_singleton.2 rfl, k, by rw [List.length_append] at ht; omega, rfl⟩, hmul _⟩
/-- two drawn words -/
def TwoW (w : World) (e' : Ending) (w' : World) : Prop := ∃ a b : ByteArray, e' = .returned (.tuple #[.string a, .string b]) ∧ a.size ≤ 1048576 ∧ b.size ≤ 1048576 ∧ Below w.heap.size w w'
set_option maxHeartbeats 4000000 in
theorem drawSame_any (A : Option Addr) (n c : Nat) (bs : Nat → Nat) (w : World) (h : Src w w.heap.size A n bs) (hnc : n ≤ c) (hn : n ≤ 1048576) :
    Calls Tryd.prog 26 #[.slice A n c] w (TwoW w) := by
  go_enter Tryd.func26, Tryd.ntmps26
  go_wp2_with fail
  refine (open_any _ _ _ _ _ h hnc hn).mono ?_
  rintro e w1 ⟨R, rfl, hR, hRl, hRd, hb⟩
  clear h
  have HB := Lib.hid hb
  have HC := Lib.hid (l91Word_any R 0 6 w1 hRd (by omega) (by omega))
  clear hb hRd
  go_wp2_with fail
  refine HC.out.mono ?_
  rintro e w2 ⟨a, q, rfl, ha, hq, hRd, hg⟩
  have hs2 := hg.size
  have HB := Lib.hid (gb_bel HB.out hg hR)
  have HRd := Lib.hid hRd
  have HC := Lib.hid (specOfT_any a (by omega) w2)
  clear hg hRd
  go_wp2_with fail
  refine HC.out.mono ?_
  rintro e w3 ⟨R1, hk, hb, At, nt, ct, rfl, ho⟩
  have hs3 := hb.size
  have HB := Lib.hid ((HB.out.trans (hb.mono HB.out.size)).alloc (by have := HB.out.size; omega) (.cells #[.slice At nt ct, .string (resE R1)] 25))
  have HRd := Lib.hid ((HRd.out.below hb (by omega)).grown (row := none) (World.grownBy_alloc _ (.cells #[.slice At nt ct, .string (resE R1)] 25) _) (fun _ e => by cases e))
  have HSZ := Lib.hid hk.szs
  have hnt := hk.szs.n ho
  have HR := Lib.hid (ho.alloc (.cells #[.slice At nt ct, .string (resE R1)] 25))
  have hsa : (w3.alloc (.cells #[.slice At nt ct, .string (resE R1)] 25)).heap.size = w3.heap.size + 1 := by simp
  have HC := Lib.hid (specWord_any At nt ct (resL R1) (resE R1) _ (RS.of_own HR.out) (by omega) HSZ.out.big.1)
  clear hb ho hk
  go_wp2_with fail
  refine HC.out.mono ?_
  rintro e w4 ⟨s, b, rfl, hk, hb⟩
  have hs4 := hb.size
  have HB := Lib.hid (HB.out.trans (hb.mono HB.out.size))
  have HRd := Lib.hid (HRd.out.below hb (by omega))
  have HK := Lib.hid hk
  clear hb hk HC HR HSZ
  have HEND : Hid (∀ (V : World) (p : Nat), p ≤ q + 1 → Below w.heap.size w V → Rd V R p → Calls Tryd.prog 54 #[.pointer (some ⟨R, 0, none⟩), .int .i64 6] V fun e w' => ∃ s2 : ByteArray, e = .returned (.string s2) ∧ s2.size ≤ 1048576 ∧ Below w.heap.size w w') := fun V p hp hB hRd =>
    (l91Word_any R p 6 V hRd (by omega) (by omega)).mono fun e w' ⟨s2, q2, h1, h2, _, _, hg⟩ => ⟨s2, h1, by omega, gb_bel hB hg hR⟩
  cases s1 : R1.isSome with
  | false =>
    have HC := Lib.hid (HEND.out w4 q (by omega) HB.out HRd.out)
    go_wp2_with fail
    refine HC.out.mono ?_
    rintro e w5 ⟨s2, rfl, hs, hb⟩
    go_wp2
    exact bodyPost_ret (v := .tuple #[.string a, .string s2]) (by simp [results, Tryd.results26, go_sem]) rfl ⟨a, s2, rfl, by omega, hs, hb⟩
  | true =>
    cases b with
    | false =>
      have HC := Lib.hid (HEND.out w4 q (by omega) HB.out HRd.out)
      go_wp2_with fail
      refine HC.out.mono ?_
      rintro e w5 ⟨s2, rfl, hs, hb⟩
      go_wp2
      exact bodyPost_ret (v := .tuple #[.string a, .string s2]) (by simp [results, Tryd.results26, go_sem]) rfl ⟨a, s2, rfl, by omega, hs, hb⟩
    | true =>
      have hsw := word_size HK.out
      have HC := Lib.hid (pick_any R q 3 w4 HRd.out (by omega) (by omega) (by omega))
      go_wp2_with fail
      refine HC.out.mono ?_
      rintro e w5 ⟨x, rfl, hx, hRd, hg⟩
      have HB := Lib.hid (gb_bel HB.out hg hR)
      have HRd := Lib.hid hRd
      clear hg hRd HC
      by_cases hx0 : 0 < x
      · have hxi : (0 : Int) < (x : Int) := by omega
        go_wp2
        exact bodyPost_ret (v := .tuple #[.string a, .string s]) (by simp [results, Tryd.results26, go_sem]) rfl ⟨a, s, rfl, by omega, hsw, HB.out⟩
      · have hxi : ¬ (0 : Int) < (x : Int) := by omega
        have HC := Lib.hid (HEND.out w5 (q + 1) (by omega) HB.out HRd.out)
        go_wp2_with fail
        refine HC.out.mono ?_
        rintro e w6 ⟨s2, rfl, hs, hb⟩
        go_wp2
        exact bodyPost_ret (v := .tuple #[.string a, .string s2]) (by simp [results, Tryd.results26, go_sem]) rfl ⟨a, s2, rfl, by omega, hs, hb⟩
end

end Go.Proofs.YtlfbocmcbkcfhaaDoor
