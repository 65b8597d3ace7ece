/-
  spec: all charts of some points.
-/
import Derived.Test.YtckppfgooflooaaL2F
namespace Go.Proofs.Ytckppfgooflooaa
set_option maxRecDepth 100000
open Go.RowKit

/-- blocks below lo and blocks of ints stay -/
structure Fr (lo : Nat) (w w' : World) : Prop where
  os : w'.os = w.os
  tape : w'.tape = w.tape
  output : w'.output = w.output
  size : w.heap.size ≤ w'.heap.size
  block : ∀ k, k < w.heap.size → (k < lo ∨ ∃ cs, w.heap[k]? = some (.cells cs 3 (0, 0))) → w'.heap[k]? = w.heap[k]?
/-- a list of lists, its inner values told -/
structure OV (w : World) (lo : Nat) (v : Value) (vs : List Value) (Ls : List (List Int)) : Prop where
  row : w.ownsRow lo 27 1 v Ls.length vs
  inn : Inn w lo w.heap.size vs Ls
/-- block g is an inner list's -/
def InB (vs : List Value) (g : Nat) : Prop := ∃ u ∈ vs, u.ownBlock = some g
section
variable {w w' w'' : World} {lo : Nat} {v v' u : Value} {vs : List Value} {Ls : List (List Int)}
theorem Fr.refl (lo : Nat) (w : World) : Fr lo w w := ⟨rfl, rfl, rfl, Nat.le_refl _, fun _ _ _ => rfl⟩
theorem Fr.trans (h : Fr lo w w') (k : Fr lo w' w'') : Fr lo w w'' :=
  ⟨k.os.trans h.os, k.tape.trans h.tape, k.output.trans h.output, Nat.le_trans h.size k.size, fun i hi ho => by
    have h1 := h.block i hi ho
    refine (k.block i (Nat.lt_of_lt_of_le hi h.size) ?_).trans h1
    rcases ho with ho | ⟨cs, ho⟩
    · exact .inl ho
    · exact .inr ⟨cs, by rw [h1]; exact ho⟩⟩
theorem Fr.of (hb : Below w.heap.size w w') : Fr lo w w' := ⟨hb.os, hb.tape, hb.output, hb.size, fun k hk _ => hb.block k hk⟩
theorem Fr.below (h : Fr lo w w') (hl : lo ≤ w.heap.size) : Below lo w w' := ⟨h.os, h.tape, h.output, h.size, fun k hk => h.block k (by omega) (.inl hk)⟩
theorem Fr.int {base : Nat} {zs : List Int} (h : Fr lo w w') (ho : w.ownsRow base 3 1 v zs.length (ivs zs)) : w'.ownsRow base 3 1 v zs.length (ivs zs) :=
  own_same ho fun g hg => h.block g (ho.lt g hg).2 (.inr (by
    rcases ho.2 with ⟨rfl, _⟩ | ⟨g', cap, cur, rfl, _, hh, _⟩
    · simp [Value.ownBlock] at hg
    · have : g' = g := by simpa [Value.ownBlock] using hg
      subst this; exact ⟨cur, hh⟩))
theorem OV.below (h : OV w lo v vs Ls) (hb : Below w.heap.size w w') : OV w' lo v vs Ls := ⟨own_below h.row hb, (h.inn.below hb).more (Nat.le_refl _) hb.size⟩
theorem OV.oss (h : OV w lo v vs Ls) : OSS w lo w.heap.size v Ls := ⟨vs, h.row, fun g hg => (h.row.lt g hg).2, h.inn⟩
end

/-- all charts that begin so -/
def allL (n : Nat) : Nat → List Int → List (List Int)
  | 0, b => if isC b = true then [b] else []
  | d + 1, b => (List.range (n + 1)).flatMap (fun (i : Nat) => allL n d (b ++ [(i : Int) - 1]))
def preL (n d : Nat) (b : List Int) (t : Nat) : List (List Int) := (List.range t).flatMap (fun (i : Nat) => allL n d (b ++ [(i : Int) - 1]))
theorem preL_succ (n d : Nat) (b : List Int) (t : Nat) : preL n d b (t + 1) = preL n d b t ++ allL n d (b ++ [(t : Int) - 1]) := by
  unfold preL; rw [List.range_succ, List.flatMap_append]; simp
theorem allL_le (n : Nat) : ∀ (d : Nat) (b : List Int), (allL n d b).length ≤ (n + 1) ^ d
  | 0, b => by unfold allL; split <;> simp
  | d + 1, b => by
    have : ∀ t, (preL n d b t).length ≤ t * (n + 1) ^ d := fun t => by
      induction t with
      | zero => simp [preL]
      | succ t ih => rw [preL_succ, List.length_append, Nat.succ_mul]; have := allL_le n d (b ++ [(t : Int) - 1]); omega
    have := this (n + 1)
    unfold preL at this
    unfold allL
    rw [Nat.pow_succ, Nat.mul_comm]; exact this
theorem preL_le (n d : Nat) (b : List Int) : ∀ t, (preL n d b t).length ≤ t * (n + 1) ^ d
  | 0 => by simp [preL]
  | t + 1 => by rw [preL_succ, List.length_append, Nat.succ_mul]; have := allL_le n d (b ++ [(t : Int) - 1]); have := preL_le n d b t; omega

set_option maxHeartbeats 2000000 in
theorem l2All_any (n : Nat) (hn : n ≤ 3) : ∀ (d : Nat) (g c lo : Nat) (v : Value) (vs : List Value) (b : List Int) (Ls : List (List Int)) (w : World), b.length + d = n → lo ≤ w.heap.size →
    w.ownsRow lo 3 1 (.slice (some ⟨g, 0, none⟩) b.length c) b.length (ivs b) → OV w lo v vs Ls → ¬ InB vs g → Ls.length + (n + 1) ^ d ≤ 1000000 →
    Calls Try.prog 78 #[.int .i64 (n : Int), .slice (some ⟨g, 0, none⟩) b.length c, v] w fun e w' => ∃ v' vs', e = .returned v' ∧ OV w' lo v' vs' (Ls ++ allL n d b) ∧ Fr lo w w' ∧ ∀ q, InB vs' q → InB vs q ∨ q = g ∨ w.heap.size ≤ q
  | 0, g, c, lo, v, vs, b, Ls, w, hd, hlo, hb, hv, hg, hsz => by
    obtain ⟨i1, hj, hj0, hj1, hj2⟩ := info_parts info_partsS
    have hbl : b.length = n := by omega
    have hr : RI w (some ⟨g, 0, none⟩) b.length b := RI.of_own hb
    have hnn : ((b.length : Int) == (n : Int)) = true := by rw [hbl]; simp
    have hb3 : b.length ≤ 3 := by omega
    clear hbl hd
    cases hC : isC b
    · have HA : Hid (allL n 0 b = []) := by show _ = _; unfold allL; rw [hC]; rfl
      have HC := Lib.hid hC
      clear hC
      go_enter Try.func78, Try.ntmps78
      go_wp2_with fail
      refine (specIn_any _ _ _ _ _ hr (by omega)).mono ?_
      rintro e w1 ⟨rfl, rfl⟩
      rw [HC.out]
      go_wp2
      go_ret
      exact ⟨v, vs, rfl, by rw [HA.out, List.append_nil]; exact hv, Fr.refl _ _, fun q h => .inl h⟩
    · have HA : Hid (allL n 0 b = [b]) := by show _ = _; unfold allL; rw [hC]; rfl
      have HC := Lib.hid hC
      clear hC
      have hou : OI w lo w.heap.size (.slice (some ⟨g, 0, none⟩) b.length c) b := OI.of hb
      have hap : ∀ (i : Nat) (u' : Value), vs[i]? = some u' → ∀ q : Nat, u'.ownBlock = some q → (Value.slice (some ⟨g, 0, none⟩) b.length c).ownBlock = some q → False := fun i u' hi q e1 e2 => by
        have : g = q := by simpa [Value.ownBlock] using e2
        subst this
        exact hg ⟨u', List.mem_of_getElem? hi, e1⟩
      have p2 : Ls.length + 1 ≤ maxLen := by unfold maxLen; omega
      have p3 : (Ls.length + 1) * 24 ≤ 140737488355328 := by omega
      have p4 : ∀ o : Obj, lo ≤ (w.alloc o).heap.size := fun o => by simp; omega
      go_enter Try.func78, Try.ntmps78
      go_wp2_with fail
      refine (specIn_any _ _ _ _ _ hr (by omega)).mono ?_
      rintro e w1 ⟨rfl, rfl⟩
      rw [HC.out]
      go_wp2_with (at_builtin; refine wpList_append_own_at _ rfl _ _ 28 rfl lo 27 i1 (.slice none 0 0) 1 24 Try.underlying28 hj hj0 hj1 hj2 rfl (by decide) _ _ _ rfl (hv.row.alloc _) ⟨w.heap.size, 0, none⟩ 1 1 [.slice (some ⟨g, 0, none⟩) b.length c] rfl rfl (cell_one_new _ _ _) (by simp [Value.oneCell']) p2 p3 (p4 _) ?_; intro v' w4 hown' hgrow _ hat)
      have hin := inn_app hv.row hv.inn hou hap hgrow
      have hfr : Fr lo w w4 := by
        refine ⟨hgrow.os, hgrow.tape, hgrow.output, by have := hgrow.size; simp at this; omega, fun k hk ho => (hgrow.block k (by simp; omega) (fun e => ?_)).trans (Below.heap_alloc w _ k hk)⟩
        rcases ho with ho | ⟨cs, ho⟩
        · have := (hv.row.lt k e.symm).1; omega
        · exact own_blk_ne hv.row ho (by decide) e.symm
      have HO : Hid (OV w4 lo v' (vs ++ [.slice (some ⟨g, 0, none⟩) b.length c]) (Ls ++ [b])) := ⟨by rw [List.length_append]; exact hown', hin⟩
      have HF := Lib.hid hfr
      clear hin hfr hown' hgrow hat hap hou
      try go_wp2
      go_ret
      refine ⟨v', vs ++ [.slice (some ⟨g, 0, none⟩) b.length c], rfl, by rw [HA.out]; exact HO.out, HF.out, fun q ⟨u, hu, e⟩ => ?_⟩
      rcases List.mem_append.1 hu with hu | hu
      · exact .inl ⟨u, hu, e⟩
      · rw [List.mem_singleton.1 hu] at e
        exact .inr (.inl (by simpa [Value.ownBlock] using e.symm))
  | d + 1, g, c, lo, v, vs, b, Ls, w, hd, hlo, hb, hv, hg, hsz => by
    obtain ⟨i0, hi, hz0, hz1, hz2⟩ := info_parts info_int
    have hnn : ((b.length : Int) == (n : Int)) = false := by simp; omega
    have hgs := (hb.lt g rfl).2
    have HA : Hid (preL n d b (n + 1) = allL n (d + 1) b) := rfl
    have hpow : (n + 1) ^ (d + 1) = (n + 1) * (n + 1) ^ d := by rw [Nat.pow_succ, Nat.mul_comm]
    rw [hpow] at hsz
    have hpos : 0 < (n + 1) ^ d := Nat.pow_pos (by omega)
    clear hpow
    go_enter Try.func78, Try.ntmps78
    go_wp2
    go_loopw [2, 7] (fun lv i wr => ∃ (t : Nat) (us : List Value), t ≤ n + 1 ∧ i = .int .i64 ((t : Int) - 1) ∧ OV wr lo lv us (Ls ++ preL n d b t) ∧ Fr lo w wr ∧ ∀ q, InB us q → InB vs q ∨ w.heap.size ≤ q) (fun _ i _ => n + 1 - (intOf i + 1).toNat)
    case atStart => exact ⟨0, vs, Nat.zero_le _, rfl, by simpa [preL] using hv, Fr.refl _ _, fun q h => .inl h⟩
    case round =>
      obtain ⟨t, us, ht, rfl, hov, hfr, hiq⟩ := hrel
      by_cases hlt : t ≤ n
      · have hb' := hfr.int hb
        have hws := hfr.size
        have hL0 := own_lit0 wr
        have hcl := (hb'.alloc (.cells #[] 3)).cells (g := g) rfl
        have hone : ∀ u ∈ ivs b, u.oneCell' = true := fun u hu => by
          simp only [ivs, List.mem_map] at hu
          obtain ⟨z, _, rfl⟩ := hu
          simp [Value.oneCell']
        have q1 : 0 + b.length ≤ maxLen := by unfold maxLen; omega
        have q2 : (0 + b.length) * 8 ≤ 140737488355328 := by omega
        have q3 : wr.heap.size ≤ (wr.alloc (.cells #[] 3)).heap.size := by simp
        have q4 : 0 + b.length + 1 ≤ maxLen := by unfold maxLen; omega
        have q5 : (0 + b.length + 1) * 8 ≤ 140737488355328 := by omega
        have HPR := Lib.hid (preL_succ n d b t)
        have HSZ : Hid ((Ls ++ preL n d b t).length + (n + 1) ^ d ≤ 1000000) := by
          show _ ≤ _
          have h1 := preL_le n d b t
          have h2 : t * (n + 1) ^ d ≤ n * (n + 1) ^ d := Nat.mul_le_mul_right _ hlt
          rw [Nat.succ_mul] at hsz
          rw [List.length_append]; omega
        have hbl : (b ++ [(t : Int) - 1]).length = b.length + 1 := by simp
        have hbi : ivs b ++ [Value.int .i64 ((t : Int) - 1)] = ivs (b ++ [(t : Int) - 1]) := ivs_snoc _ _
        generalize b ++ [(t : Int) - 1] = b2 at hbl hbi HPR
        have HBL := Lib.hid hbl
        have HBI := Lib.hid hbi
        clear hbl hbi
        go_wp2_with (at_builtin
                     first
                     | (refine wpList_append_own _ rfl _ _ 27 rfl wr.heap.size 3 i0 (.int .i64 0) 1 8 Try.underlying27 hi hz0 hz1 hz2 rfl (by decide) _ _ _ rfl hL0 ⟨g, 0, none⟩ b.length c (ivs b) rfl (by simp [ivs]) hcl hone q1 q2 q3 ?_
                        intro v1 w1 hown1 hgrow1 _
                        have hB1 : Below wr.heap.size wr w1 := ((Below.refl _ wr).alloc (Nat.le_refl _) _).grown hgrow1 q3 (fun k e => (hL0.lt k e).1)
                        have q6 : ∀ o : Obj, wr.heap.size ≤ (w1.alloc o).heap.size := fun o => by have := hB1.size; simp; omega)
                     | (refine wpList_append_own _ rfl _ _ 27 rfl wr.heap.size 3 i0 (.int .i64 0) 1 8 Try.underlying27 hi hz0 hz1 hz2 rfl (by decide) _ _ _ rfl (hown1.alloc _) ⟨w1.heap.size, 0, none⟩ 1 1 [.int .i64 ((t : Int) - 1)] rfl rfl (cell_one_new _ _ _) (by simp [Value.oneCell']) q4 q5 (q6 _) ?_
                        intro v2 w2 hown2 hgrow2 _))
        have hB2 : Below wr.heap.size wr w2 := (hB1.alloc hB1.size _).grown hgrow2 (q6 _) (fun k e => (hown1.lt k e).1)
        have hown3 : w2.ownsRow wr.heap.size 3 1 v2 b2.length (ivs b2) := by rw [HBL.out, ← HBI.out]; simpa [ivs] using hown2
        obtain ⟨g2, c2, rfl, hge, hlt2⟩ := hown3.form (by rw [HBL.out]; omega)
        have hnot : ¬ InB us g2 := fun ⟨u, hu, e⟩ => by
          obtain ⟨i, hi', e'⟩ := List.getElem_of_mem hu
          have := (hov.inn.lt (i := i) (u := u) (by rw [List.getElem?_eq_getElem hi', e']) e).2.2
          omega
        have hs2 := hB2.size
        refine (l2All_any n hn d g2 c2 lo _ us b2 (Ls ++ preL n d b t) w2 (by rw [HBL.out]; omega) (by omega) (own_base hown3 (by omega)) (hov.below hB2) hnot HSZ.out).mono ?_
        rintro e w3 ⟨lv, us', rfl, hov3, hfr3, hiq3⟩
        rw [List.append_assoc, ← HPR.out] at hov3
        have HO := Lib.hid hov3
        have HF := Lib.hid (hfr.trans ((Fr.of hB2).trans hfr3))
        have HQ : Hid (∀ q, InB us' q → InB vs q ∨ w.heap.size ≤ q) := fun q h => by
          rcases hiq3 q h with h | h | h
          · exact hiq q h
          · right; omega
          · right; omega
        clear hov3 hfr3 hiq3 hiq hfr hov hown1 hown2 hown3 hgrow1 hgrow2 hcl hone hL0
        go_wp2
        go_roundw
        case rel => exact ⟨t + 1, us', by omega, by go_num, HO.out, HF.out, HQ.out⟩
        case measure => simp [intOf]; omega
      · obtain rfl : t = n + 1 := by omega
        rw [HA.out] at hov
        go_wp2
        go_ret
        refine ⟨_, us, rfl, hov, hfr, fun q h => ?_⟩
        rcases hiq q h with h | h
        · exact .inl h
        · exact .inr (.inr h)

def allCL (n : Int) : List (List Int) := if inB n 1 3 = true then allL n.toNat n.toNat [] else []

set_option maxHeartbeats 600000 in
theorem specAll_any (n : Int) (w : World) : Calls Try.prog 43 #[.int .i64 n] w fun e w' => ∃ v, e = .returned (.tuple #[v, .bool (inB n 1 3)]) ∧ OSS w' w.heap.size w'.heap.size v (allCL n) ∧ Below w.heap.size w w' := by
  cases hS : inB n 1 3
  · have HL : Hid (allCL n = []) := by show _ = _; unfold allCL; rw [hS]; rfl
    have HS := Lib.hid hS
    clear hS
    go_enter Try.func43, Try.ntmps43
    go_wp2_with fail
    refine (l6In_any _ _ _ _).mono ?_
    rintro e w' ⟨rfl, rfl⟩
    rw [HS.out]
    go_wp2
    go_ret2
    refine ⟨_, rfl, ?_, (Below.refl _ _).alloc (Nat.le_refl _) _⟩
    rw [HL.out]; exact (OSS.lit0 _).more (Nat.le_refl _) (by simp)
  · have hk : 1 ≤ n ∧ n ≤ 3 := of_decide_eq_true hS
    obtain ⟨N, rfl⟩ := Int.eq_ofNat_of_zero_le (show 0 ≤ n by omega)
    have hN : N ≤ 3 := by omega
    have HL : Hid (allL N N [] = allCL (N : Int)) := by show _ = _; unfold allCL; rw [hS]; rfl
    have HS := Lib.hid hS
    clear hS hk
    have hL1 : ((w.alloc (.cells #[] 3)).alloc (.cells #[] 27)).ownsRow w.heap.size 3 1 (.slice (some ⟨w.heap.size, 0, none⟩) 0 0) 0 (ivs []) := (own_lit0 w).alloc _
    have hL2 : OV ((w.alloc (.cells #[] 3)).alloc (.cells #[] 27)) w.heap.size (.slice (some ⟨w.heap.size + 1, 0, none⟩) 0 0) [] [] := by
      have := World.ownsRow_lit (base := w.heap.size) (e := 27) (size := 1) (w.alloc (.cells #[] 3)) #[] 0 (by simp) (by simp [maxLen]) rfl
      exact ⟨by simpa using this, Inn.nil⟩
    have hB0 : Below w.heap.size w ((w.alloc (.cells #[] 3)).alloc (.cells #[] 27)) := ((Below.refl _ _).alloc (Nat.le_refl _) _).alloc (by simp) _
    have hpw : (N + 1) ^ N ≤ 1000000 := by
      have : N = 0 ∨ N = 1 ∨ N = 2 ∨ N = 3 := by omega
      rcases this with rfl | rfl | rfl | rfl <;> decide
    have hc := l2All_any N hN N w.heap.size 0 w.heap.size _ [] [] [] ((w.alloc (.cells #[] 3)).alloc (.cells #[] 27)) (by simp) hB0.size hL1 hL2 (fun ⟨u, hu, _⟩ => by cases hu) (by simpa using hpw)
    have HCA := Lib.hid hc
    have HB0 := Lib.hid hB0
    clear hc hL1 hL2 hB0 hpw
    go_enter Try.func43, Try.ntmps43
    go_wp2_with fail
    refine (l6In_any _ _ _ _).mono ?_
    rintro e w' ⟨rfl, rfl⟩
    rw [HS.out]
    go_wp2_with fail
    refine HCA.out.mono ?_
    rintro e w1 ⟨v, vs, rfl, hov, hfr, _⟩
    rw [List.nil_append, HL.out] at hov
    have hB := HB0.out.trans (hfr.below HB0.out.size)
    have HO := Lib.hid (hov.oss)
    clear hov hfr
    go_wp2
    go_ret2
    exact ⟨v, rfl, HO.out, hB⟩
end Go.Proofs.Ytckppfgooflooaa
