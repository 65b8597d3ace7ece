/-
  Lw.
-/
import Derived.Test.YtlcjgppclclkoaaDoorTH
import Derived.Test.YtlcjgppclclkoaaDoorUC
import Derived.Test.YtlcjgppclclkoaaDoorUD
namespace Go.Proofs.YtlcjgppclclkoaaDoor
set_option maxRecDepth 100000
set_option linter.unusedVariables false
set_option linter.unusedSimpArgs false
set_option linter.unusedSectionVars false

/-! The specification's walk: spec.l4Walk, spec.TreeWalk; the program's: impl.TreeWalk. -/
section
open Go.RowKit Go.Lib Go.Sort

theorem kid_tin {S : List (List (Fin 4))} (h : Tin S) (u : List (Fin 4)) (c : Fin 4) : kidB S u c = decide (c :: u ∈ S) := by
  rw [Bool.eq_iff_iff, kid_iff, decide_eq_true_eq]
  exact ⟨fun h => h.2, fun hm => ⟨rdc_cons (h.rd _ hm), hm⟩⟩
theorem kid_same {N S : List (List (Fin 4))} (h : ∀ x, x ∈ N ↔ x ∈ S) : kidB N = kidB S := by
  funext u c
  rw [Bool.eq_iff_iff, kid_iff, kid_iff, h]
theorem preT_same {N S : List (List (Fin 4))} (h : ∀ x, x ∈ N ↔ x ∈ S) : ∀ (k : Nat) (u : List (Fin 4)), preT N k u = preT S k u
  | 0, _ => rfl
  | k + 1, u => by
    unfold preT
    rw [kid_same h]
    congr 1
    funext c
    rw [preT_same h k]
/-- a walk that has rounds enough goes no further with more -/
theorem preT_more {S : List (List (Fin 4))} (h : Tre S) : ∀ (k j : Nat) (u : List (Fin 4)), S.length ≤ u.length + k → S.length ≤ u.length + j → u ∈ S → preT S k u = preT S j u
  | 0, 0, _, _, _, _ => rfl
  | 0, j + 1, u, h1, _, hu => by have := h.len hu; omega
  | k + 1, 0, u, _, h1, hu => by have := h.len hu; omega
  | k + 1, j + 1, u, h1, h2, hu => by
    unfold preT
    congr 1
    funext c
    by_cases hk : kidB S u c = true
    · rw [if_pos hk, if_pos hk, preT_more h k j (c :: u) (by simp; omega) (by simp; omega) (kid_iff.1 hk).2]
    · rw [if_neg hk, if_neg hk]
theorem txt_app (u v : List (Fin 4)) : txt u ++ txt v = txt (u ++ v) := by
  apply ByteArray.ext
  apply Array.ext'
  rw [ByteArray.data_append, Array.toList_append, txt_list, txt_list, txt_list, List.map_append]
theorem txt_nil : txt [] = ⟨#[]⟩ := rfl
theorem preT_len0 {S : List (List (Fin 4))} (T : Tre S) (k : Nat) (u : List (Fin 4)) (hu : u ∈ S) (hk : S.length ≤ u.length + k) : (preT S k u).length ≤ 2 * S.length := by
  have h1 := preT_len T k u hu hk
  have h2 := (pre_nodup k u (N := S)).length_le_of_subset (fun x hx => pre_mem k u x hu hx)
  omega
theorem has_tin {S : List (List (Fin 4))} (u : List (Fin 4)) : hasB (S.map strOf) (strOf u) = decide (u ∈ S) := by
  rw [Bool.eq_iff_iff, hasB_iff, decide_eq_true_eq, List.mem_map]
  exact ⟨fun ⟨v, hv, e⟩ => by rw [← strOf_inj e]; exact hv, fun h => ⟨u, h, rfl⟩⟩
theorem slc_let (c : Fin 4) (W : World) : (Instr.slice 9 (.string ⟨#[65, 66, 97, 98]⟩) (some (.int .i64 (c.val : Int))) (some (.int .i64 ((c.val : Int) + 1))) none).run Tryd.prog W = .ok (.string (txt [c])) W := by
  rcases fin4 c with rfl | rfl | rfl | rfl <;> kernel_rfl
set_option maxHeartbeats 4000000 in
theorem l4Walk_any (A : Option Addr) (n cp : Nat) (S : List (List (Fin 4))) (hT : Tin S) (hn : S.length = n) : ∀ (k : Nat) (u : List (Fin 4)) (w : World), u ∈ S → 60 ≤ u.length + k → RS w A n (S.map strOf) →
    Calls Tryd.prog 61 #[.slice A n cp, .string (strOf u)] w fun e w' => e = .returned (.string (txt (preT S k u))) ∧ RowKit.Below w.heap.size w w' := by
  have hn60 : n ≤ 60 := by rw [← hn]; exact hT.len
  intro k
  induction k with
  | zero => intro u w hu hk _; have := hT.sh u hu; omega
  | succ k ih =>
  intro u w hu hk hrs
  have HPL : Hid (∀ t, (prT S k u t).length ≤ 120) := fun t => by
    have h1 := prT_le S k u t
    have h2 := preT_len0 hT.tre (k + 1) u hu (by omega)
    omega
  have HIH : Hid (∀ (c : Fin 4) (W : World), RowKit.Below w.heap.size w W → kidB S u c = true → Calls Tryd.prog 61 #[.slice A n cp, .string (strOf (c :: u))] W fun e w' => e = .returned (.string (txt (preT S k (c :: u)))) ∧ RowKit.Below W.heap.size W w') := fun c W hW hc => ih (c :: u) W (kid_iff.1 hc).2 (by simp; omega) (hrs.below hW)
  have HBK := Lib.hid (fun (c : Fin 4) (W : World) => l4Back_any [c] (by simp) W)
  have HHS : Hid (∀ (c : Fin 4) (W : World), RowKit.Below w.heap.size w W → Calls Tryd.prog 56 #[.slice A n cp, .string (strOf (c :: u))] W fun e' w' => e' = .returned (.bool (kidB S u c)) ∧ w' = W) := fun c W hW => by
    have := l4Has_any A n cp _ (strOf (c :: u)) W (hrs.below hW) (by omega)
    rwa [has_tin, ← kid_tin hT] at this
  have HSL := Lib.hid (fun (c : Fin 4) => slc_let c)
  have hus : (strOf u).size ≤ 24 := by rw [strOf_size]; exact hT.sh u hu
  have HST : Hid (∀ c : Fin 4, strOf u ++ txt [c] = strOf (c :: u)) := fun c => by rw [strOf_txt, strOf_txt, txt_app, List.reverse_cons]
  have HPK : Hid (∀ c, kidB S u c = true → (preT S k (c :: u)).length ≤ 120) := fun c hc => by
    have h2 := preT_len0 hT.tre k (c :: u) (kid_iff.1 hc).2 (by simp; omega)
    omega
  clear ih hT hk hrs
  generalize hsu : strOf u = su at *
  have HSU := Lib.hid hsu
  clear hsu
  go_enter Tryd.func61, Tryd.ntmps61
  go_wp2
  go_loopw [5, 7] (fun o i wr => ∃ t : Nat, t ≤ 4 ∧ i = .int .i64 (t : Int) ∧ o = .string (txt (prT S k u t)) ∧ RowKit.Below w.heap.size w wr) (fun _ i _ => 4 - (intOf i).toNat)
  case atStart => exact ⟨0, Nat.zero_le _, rfl, rfl, RowKit.Below.refl _ _⟩
  case round =>
    obtain ⟨t, ht, rfl, rfl, hB⟩ := hrel
    by_cases hlt : t < 4
    · obtain ⟨c, rfl⟩ : ∃ c : Fin 4, t = c.val := ⟨⟨t, hlt⟩, rfl⟩
      have hsl := fun W : World => HSL.out c W
      have hci : (c.val : Int) < 4 := by omega
      have hst := HST.out c
      have hs1 : (txt [c]).size = 1 := rfl
      have HS2 := Lib.hid (prT_succ S k u c)
      have hps := HPL.out c.val
      have hpz := txt_size (prT S k u c.val)
      cases hb : kidB S u c with
      | false =>
        have HP2 : Hid (txt (prT S k u c.val) = txt (prT S k u (c.val + 1))) := by show _ = _; rw [HS2.out, hb]; simp
        have HH := HHS.out c wr hB
        rw [hb] at HH
        have HH := Lib.hid HH
        clear hb HS2 hps
        generalize txt (prT S k u c.val) = ot at *
        generalize strOf (c :: u) = s2 at *
        generalize txt [c] = tc at *
        go_wp2_with fail
        refine HH.out.mono ?_
        rintro e w1 ⟨rfl, rfl⟩
        go_wp2
        go_roundw
        case rel => exact ⟨c.val + 1, by omega, by go_num, by rw [HP2.out], hB⟩
        case measure => simp [intOf]; omega
      | true =>
        have HP2 : Hid (((txt (prT S k u c.val) ++ txt [c]) ++ txt (preT S k (c :: u))) ++ txt [ivL c] = txt (prT S k u (c.val + 1))) := by
          show _ = _
          rw [HS2.out, hb, if_pos rfl, txt_app, txt_app, txt_app]; simp
        have HH := HHS.out c wr hB
        have HW := HIH.out c wr hB hb
        have hpk := HPK.out c hb
        have hpz2 := txt_size (preT S k (c :: u))
        have hp1 : (txt (prT S k u c.val) ++ txt [c]).size = (prT S k u c.val).length + 1 := by rw [ByteArray.size_append, hpz, hs1]
        have hp2 : ((txt (prT S k u c.val) ++ txt [c]) ++ txt (preT S k (c :: u))).size = (prT S k u c.val).length + 1 + (preT S k (c :: u)).length := by rw [ByteArray.size_append, hp1, hpz2]
        have hs2 : (txt [ivL c]).size = 1 := rfl
        have HB1 : Hid (∀ W : World, Calls Tryd.prog 64 #[.string (txt [c])] W fun e w' => e = .returned (.string (txt [ivL c])) ∧ RowKit.Below W.heap.size W w') := fun W => HBK.out c W
        rw [hb] at HH
        have HH := Lib.hid HH
        have HW := Lib.hid HW
        clear hb HS2
        generalize (preT S k (c :: u)).length = l2 at *
        generalize (prT S k u c.val).length = l1 at *
        generalize txt (preT S k (c :: u)) = tw at *
        generalize txt (prT S k u c.val) = ot at *
        generalize strOf (c :: u) = s2 at *
        generalize txt [c] = tc at *
        generalize txt [ivL c] = ti at *
        have HP1 := Lib.hid hp1
        go_wp2_with fail
        refine HH.out.mono ?_
        rintro e w1 ⟨rfl, rfl⟩
        go_wp2_with fail
        refine HW.out.mono ?_
        rintro e w2 ⟨rfl, hb2⟩
        have hB2 := hB.trans (hb2.mono hB.size)
        clear hb2
        go_wp2_with fail
        refine (HB1.out _).mono ?_
        rintro e w3 ⟨rfl, hb3⟩
        have hB3 := hB2.trans (hb3.mono hB2.size)
        clear hb3
        go_wp2
        go_roundw
        case rel => exact ⟨c.val + 1, by omega, by go_num, by rw [HP2.out], hB3⟩
        case measure => simp [intOf]; omega
    · obtain rfl : t = 4 := by omega
      have HF : Hid (txt (prT S k u 4) = txt (preT S (k + 1) u)) := by show _ = _; rw [prT_all]
      go_wp2
      go_ret
      exact ⟨by rw [HF.out]; rfl, hB⟩

/-- what TreeWalk answers -/
def TreeWalkOk (ss : List ByteArray) (e t : ByteArray) (b : Bool) : Prop := (b = true ∧ ∃ S u, TinS ss e S u ∧ t = txt (preT S S.length [])) ∨ (b = false ∧ ¬ TinQ ss e ∧ t = ⟨#[]⟩)
theorem TreeWalkOk.same {ss : List ByteArray} {e t t' : ByteArray} {b b' : Bool} (h : TreeWalkOk ss e t b) (h' : TreeWalkOk ss e t' b') : t = t' ∧ b = b' := by
  rcases h with ⟨rfl, S, u, hT, rfl⟩ | ⟨rfl, hn, rfl⟩ <;> rcases h' with ⟨rfl, S', u', hT', rfl⟩ | ⟨rfl, hn', rfl⟩
  · obtain ⟨rfl, _⟩ := hT.uniq hT'; exact ⟨rfl, rfl⟩
  · exact absurd ⟨S, u, hT⟩ hn'
  · exact absurd ⟨S', u', hT'⟩ hn
  · exact ⟨rfl, rfl⟩
def TreeWalkPost (ss : List ByteArray) (e : ByteArray) (w : World) (e' : Ending) (w' : World) : Prop := ∃ (t : ByteArray) (b : Bool), e' = .returned (.tuple #[.string t, .bool b]) ∧ TreeWalkOk ss e t b ∧ RowKit.Below w.heap.size w w'
set_option maxHeartbeats 1000000 in
theorem specWalk_any (A : Option Addr) (n c : Nat) (ss : List ByteArray) (e : ByteArray) (w : World) (h : RS w A n ss) (hn : n ≤ 1048576) (hl : ∀ s ∈ ss, s.size ≤ 1048576) :
    Calls Tryd.prog 31 #[.agg #[.slice A n c, .string e]] w (TreeWalkPost ss e w) := by
  have hB0 : RowKit.Below w.heap.size w (w.alloc (.cells #[.slice A n c, .string e] 29)) := (RowKit.Below.refl _ w).alloc (Nat.le_refl _) _
  have hA0 : Blk (w.alloc (.cells #[.slice A n c, .string e] 29)) w.heap.size 29 #[.slice A n c, .string e] := Blk.new w _ _
  have HF := Lib.hid (specIn_any A n c ss e _ (h.below hB0) hn hl)
  have HRS := Lib.hid (h.below hB0)
  have HB0 := Lib.hid hB0
  have HA0 := Lib.hid hA0
  have hz : w.heap.size < (w.alloc (.cells #[.slice A n c, .string e] 29)).heap.size := by simp
  clear h hB0 hl hA0
  go_enter Tryd.func31, Tryd.ntmps31
  go_wp2_with fail
  refine HF.out.mono ?_
  rintro e' w1 ⟨b, rfl, hb, hB⟩
  have hB1 := HB0.out.trans (hB.mono (Nat.le_of_lt hz))
  cases b with
  | false =>
    have HNO : Hid (¬ TinQ ss e) := fun h => Bool.noConfusion (hb.2 h)
    have HB1 := Lib.hid hB1
    clear hb hB hB1
    go_wp2
    go_ret2
    exact ⟨_, _, rfl, .inr ⟨rfl, HNO.out, rfl⟩, HB1.out⟩
  | true =>
    obtain ⟨S, u, hT⟩ := hb.1 rfl
    have hA1 := HA0.out.below hB hz
    have c0 : w1.cell? ⟨w.heap.size, 0, none⟩ = some (.slice A n c) := hA1.cell 0
    have hrs := HRS.out.below hB
    have hsn : S.length = n := by have := hrs.1; rw [hT.1, List.length_map] at this; exact this
    have HW := Lib.hid (l4Walk_any A n c S hT.2.2.2 hsn 60 [] w1 hT.2.2.2.nil (by simp) (by rw [← hT.1]; exact hrs))
    have HE : Hid (txt (preT S 60 []) = txt (preT S S.length [])) := by
      show _ = _
      rw [preT_more hT.2.2.2.tre 60 S.length [] (by have := hT.2.2.2.len; simp; omega) (by simp) hT.2.2.2.nil]
    have HT := Lib.hid hT
    have HB1 := Lib.hid hB1
    clear hT hrs hsn hA1 hB hB1 hb HF HRS
    go_wp2_with fail
    refine HW.out.mono ?_
    rintro e' w2 ⟨rfl, hb2⟩
    have HB2 := Lib.hid (HB1.out.trans (hb2.mono HB1.out.size))
    clear hb2
    go_wp2
    go_ret2
    exact ⟨_, _, rfl, .inl ⟨rfl, S, u, HT.out, HE.out⟩, HB2.out⟩
theorem conv_own {w : World} {base n : Nat} {v : Value} {bs : List (Fin 4)} (h : w.ownsRow base 5 1 v n (bvL bs)) : (convert 22 9 v).run Tryd.prog w = .ok (.string (txt bs)) w := by
  have hl : bs.length = n := by have := h.1; simpa [bvL] using this
  rcases h.2 with ⟨rfl, hn⟩ | ⟨g, cap, cur, rfl, _⟩
  · obtain rfl : bs = [] := List.eq_nil_of_length_eq_zero (by rw [hl]; exact hn)
    rw [run_convert_bytes_string w 22 9 5 none 0 0 Tryd.underlying22 Tryd.underlying5 Tryd.underlying9]
    rfl
  · have hll : (bs.map ltB).length = n := by rw [List.length_map]; exact hl
    have hcv := run_convert_bytes_back (P := Tryd.prog) w 22 9 5 ⟨g, 0, none⟩ cap (bs.map ltB) Tryd.underlying22 Tryd.underlying5 Tryd.underlying9 (fun j hj => h.cells rfl j _ (by
      unfold bvL
      rw [List.length_map] at hj
      rw [List.getElem?_map, List.getElem?_eq_getElem hj]
      simp))
    rw [hll] at hcv
    exact hcv
theorem fld_walk (a b c : Value) (W : World) : (Instr.field 65 (.agg #[a, b, c]) 0).run Tryd.prog W = .ok a W := by kernel_rfl
set_option maxHeartbeats 2000000 in
theorem implWalk_any (A : Option Addr) (n c : Nat) (ss : List ByteArray) (e : ByteArray) (w : World) (h : RS w A n ss) (hn : n ≤ 1048576) (hl : ∀ s ∈ ss, s.size ≤ 1048576) (hle : e.size ≤ 1048576) :
    Calls Tryd.prog 32 #[.agg #[.slice A n c, .string e]] w (TreeWalkPost ss e w) := by
  have hB0 : RowKit.Below w.heap.size w (w.alloc (.cells #[.slice A n c, .string e] 29)) := (RowKit.Below.refl _ w).alloc (Nat.le_refl _) _
  have HF := Lib.hid (treeFrom_any A n c ss e _ (h.below hB0) hn hl hle)
  have HB0 := Lib.hid hB0
  have hz := hB0.size
  clear h hB0 hl
  go_enter Tryd.func32, Tryd.ntmps32
  go_wp2_with fail
  refine HF.out.mono ?_
  rintro e' w1 ⟨hb, ⟨S, u, N, m, hT, rfl, hG, hX⟩ | ⟨hno, p, q, rfl⟩⟩
  · have hB1 := HB0.out.trans (hb.mono hz)
    have hBa : RowKit.Below w1.heap.size w1 (w1.alloc (.cells #[.pointer (some ⟨m [], 0, none⟩), .pointer (some ⟨m u, 0, none⟩)] 54)) := (RowKit.Below.refl _ _).alloc (Nat.le_refl _) _
    have HB1 : Hid (RowKit.Below w.heap.size w (w1.alloc (.cells #[.pointer (some ⟨m [], 0, none⟩), .pointer (some ⟨m u, 0, none⟩)] 54))) := hB1.alloc hB1.size _
    have huN : u ∈ N := (hX u).2 hT.2.2.1
    have hp : N.Perm S := (List.perm_ext_iff_of_nodup hG.tre.nd hT.2.2.2.tre.nd).2 hX
    have hlen := hp.length_eq
    have h60 := hT.2.2.2.len
    have HW := Lib.hid (walked_any _ N m u huN _ (hG.below hBa) (by omega))
    have HE : Hid (txt (preT N N.length []) = txt (preT S S.length [])) := by show _ = _; rw [hlen, preT_same hX]
    have HT := Lib.hid hT
    have hz2 : w.heap.size ≤ (w1.alloc (.cells #[.pointer (some ⟨m [], 0, none⟩), .pointer (some ⟨m u, 0, none⟩)] 54)).heap.size := HB1.out.size
    have HZ2 := Lib.hid hz2
    clear hb hT hG hX hB1 hBa huN hp hlen h60 hz2 HF
    go_wp2_with fail
    refine HW.out.mono ?_
    rintro e' w2 ⟨vt, vw, rfl, hown, _, hb2⟩
    have hcv := conv_own hown
    have hfl := fun a : Value => fld_walk a vw (.string (strOf u)) w2
    obtain ⟨A2, c2, rfl⟩ := own_shape4 hown
    have HB2 := Lib.hid (HB1.out.trans (hb2.mono HZ2.out))
    clear hb2 hown
    generalize (preT N N.length []).length = l2 at *
    go_wp2
    go_ret2
    exact ⟨_, _, rfl, .inl ⟨rfl, S, u, HT.out, HE.out⟩, HB2.out⟩
  · have hB1 := HB0.out.trans (hb.mono hz)
    have HB1 : Hid (RowKit.Below w.heap.size w (w1.alloc (.cells #[.pointer p, .pointer q] 54))) := hB1.alloc hB1.size _
    have HNO := Lib.hid hno
    clear hb hno hB1
    go_wp2
    go_ret2
    exact ⟨_, _, rfl, .inr ⟨rfl, HNO.out, rfl⟩, HB1.out⟩
end

end Go.Proofs.YtlcjgppclclkoaaDoor
