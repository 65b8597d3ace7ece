/-
  RegB L2S Shp.
-/
import Derived.Maps.AppendAt
import Derived.Deep.RegionLaw
import Derived.Test.YtckppfgooflooabMA
import Derived.Test.YtckppfgooflooabME
import Derived.Test.YtckppfgooflooabMJ
namespace Go.Proofs.Ytckppfgooflooab
set_option maxRecDepth 100000
set_option linter.unusedVariables false
set_option linter.unusedSimpArgs false
set_option linter.unusedSectionVars false

/-! An append to a slice of the call's own, as one step of a region that draws its order, saying where the new slice lies. -/
section
open Go.RowKit

theorem step_append_own_at {P : Program} (w : World) {ops : Array Oper} {o : Oper} {a : Act} {K : Act → World → Prop} {Q : Exit → Act → World → Prop} {E : Prop}
    (hg : o.guard = none) (s x : Operand) (t : TypeId) (hop : o.op = Op.call { callee := Callee.builtin Builtin.append, args := #[s, x], argTypes := #[t, t] })
    (base : Nat) (e : TypeId) (i : TypeInfo) (z : Value) (size bytes : Nat) (h1 : P.underlying t = some (.slice e)) (h2 : P.info? e = some i) (h3 : i.zero = some z) (h4 : i.size = size) (h5 : i.bytes = bytes) (h6 : z.cells.size = size) (h7 : 0 < size)
    (v : Value) (k : Nat) (xs : List Value) (hs : a.eval s = v) (hown : w.ownsRow base e size v k xs) (ad : Addr) (m c : Nat) (news : List Value) (hx : a.eval x = .slice (some ad) m c) (hn : news.length = m * size)
    (hc : ∀ j u, news[j]? = some u → w.cell? (ad.add j) = some u) (h1c : ∀ u ∈ news, u.oneCell' = true) (b1 : k + m ≤ maxLen) (b2 : (k + m) * bytes ≤ 140737488355328) (b3 : base ≤ w.heap.size)
    (hK : ∀ v' w', w'.ownsRow base e size v' (k + m) (xs ++ news) → w.grownBy w' v.ownBlock → (v' = .slice none 0 0 ↔ v = .slice none 0 0 ∧ m = 0) → (v'.ownBlock = v.ownBlock ∨ v'.ownBlock = some w.heap.size) → K (a.put o.dst v') w') :
    if Region.wanted o (yielded ops a.tmps) = true then Oper.wp P o a w K Q else E := by
  have hw : Region.wanted o (yielded ops a.tmps) = true := by simp [Region.wanted, hg]
  rw [if_pos hw]
  obtain ⟨v', w', hrun, r1, r2, r3, r4⟩ := run_append_own_at (P := P) w base t o.type e i z size bytes h1 h2 h3 h4 h5 h6 h7 v k xs hown ad m c news hn hc h1c b1 b2 b3
  unfold Oper.wp
  simp [execOp, hop, resolve, invoke, builtin, hs, hx, hrun, Result.andThen]
  exact hK v' w' r1 r2 r3 r4
end

/-! spec: lengths, sorted. -/
section
open Go.RowKit

/-- the lengths of the first t lists, sorted -/
def srT (Ls : List (List Int)) (t : Nat) : List Int := (lens (Ls.take t)).foldl (fun a x => insI x a) []
theorem insI_len (x : Int) : ∀ L, (insI x L).length = L.length + 1
  | [] => rfl
  | y :: L => by unfold insI; split <;> simp [insI_len x L]
theorem srT_succ {Ls : List (List Int)} {t : Nat} (ht : t < Ls.length) : srT Ls (t + 1) = insI ((Ls[t]?.getD []).length : Int) (srT Ls t) := by
  unfold srT; rw [take_snoc_list Ls ht, lens_append, List.foldl_append]; rfl
theorem srT_len {Ls : List (List Int)} : ∀ t, t ≤ Ls.length → (srT Ls t).length = t
  | 0, _ => rfl
  | t + 1, h => by rw [srT_succ (by omega), insI_len, srT_len t (by omega)]
theorem srT_sorted (Ls : List (List Int)) (t : Nat) : (srT Ls t).Pairwise (· ≤ ·) := (srt_go _ [] List.Pairwise.nil).1
theorem insI_at {x : Int} : ∀ {S : List Int} {q : Nat}, (∀ y ∈ S.take q, y ≤ x) → (∀ y ∈ S.drop q, x < y) → insI x S = S.take q ++ x :: S.drop q
  | [], q, _, _ => by simp [insI]
  | y :: S, 0, _, h => by unfold insI; rw [if_pos (h y (by simp))]; simp
  | y :: S, q + 1, h1, h2 => by
    unfold insI
    rw [if_neg (by have := h1 y (by simp); omega), insI_at (q := q) (fun z hz => h1 z (by simp [hz])) (fun z hz => h2 z (by simpa using hz))]
    simp
theorem sorted_below {S : List Int} {q : Nat} {x : Int} (hs : S.Pairwise (· ≤ ·)) (hq : q < S.length) (hx : S[q]?.getD 0 ≤ x) : ∀ y ∈ S.take (q + 1), y ≤ x := fun y hy => by
  obtain ⟨i, hi, rfl⟩ := List.mem_take_iff_getElem.1 hy
  rw [List.getElem?_eq_getElem hq] at hx
  simp at hx
  by_cases e : i = q
  · subst e; exact hx
  · have := List.pairwise_iff_getElem.1 hs i q (by omega) hq (by omega)
    omega

/-- what lies behind the first append of the line: the taken part in a slice of its own, S as it lay -/
structure Ins (w W : World) (g t cp : Nat) (S : List Int) (v : Value) (L : List Int) : Prop where
  own : W.ownsRow w.heap.size 3 1 v L.length (ivs L)
  src : W.ownsRow w.heap.size 3 1 (.slice (some ⟨g, 0, none⟩) t cp) t (ivs S)
  ne : v.ownBlock ≠ some g
  bel : Below w.heap.size w W
theorem Ins.app {w W W0 w1 : World} {g t cp m : Nat} {S L M : List Int} {v v' : Value} (h : Ins w W g t cp S v L) (ha : Below W.heap.size W W0)
    (hown' : w1.ownsRow w.heap.size 3 1 v' (L.length + m) (ivs L ++ ivs M)) (hM : M.length = m) (hgrow : W0.grownBy w1 v.ownBlock) (hat : v'.ownBlock = v.ownBlock ∨ v'.ownBlock = some W0.heap.size) : Ins w w1 g t cp S v' (L ++ M) := by
  have hs0 := (own_below h.src ha)
  have hB0 := h.bel.trans (ha.mono h.bel.size)
  refine ⟨?_, hs0.kept hgrow (.inr (fun e => h.ne e.symm)), ?_, hB0.grown hgrow hB0.size (fun k e => ((own_below h.own ha).lt k e).1)⟩
  · have e1 : ivs (L ++ M) = ivs L ++ ivs M := by simp [ivs]
    rw [List.length_append, hM, e1]; exact hown'
  · rcases hat with e | e
    · rw [e]; exact h.ne
    · rw [e]; intro h2
      have h3 : W0.heap.size = g := by simpa using h2
      have := (hs0.lt g rfl).2
      omega
theorem Ins.mono {w W W' : World} {g t cp : Nat} {S L : List Int} {v : Value} (h : Ins w W g t cp S v L) (ha : Below W.heap.size W W') : Ins w W' g t cp S v L :=
  ⟨own_below h.own ha, own_below h.src ha, h.ne, h.bel.trans (ha.mono h.bel.size)⟩
theorem ins_lit {w W : World} {g t cp : Nat} {S : List Int} (h : W.ownsRow w.heap.size 3 1 (.slice (some ⟨g, 0, none⟩) t cp) t (ivs S)) (hB : Below w.heap.size w W) : Ins w (W.alloc (.cells #[] 3)) g t cp S (.slice (some ⟨W.heap.size, 0, none⟩) 0 0) [] :=
  ⟨own_le (own_lit0 W) hB.size, h.alloc _, by have := (h.lt g rfl).2; simp [Value.ownBlock]; omega, hB.alloc hB.size _⟩
theorem one_at {W : World} {B : Nat} {u : Value} (h : W.cell? ⟨B, 0, none⟩ = some u) : ∀ (j : Nat) (x : Value), [u][j]? = some x → W.cell? ((⟨B, 0, none⟩ : Addr).add j) = some x := fun j x hx => by
  match j, hx with
  | 0, hx =>
    simp at hx; subst hx
    have hadd : (⟨B, 0, none⟩ : Addr).add 0 = ⟨B, 0, none⟩ := by unfold Addr.add; split <;> simp_all
    rw [hadd]; exact h
  | j + 1, hx => simp at hx
theorem ocap {w : World} {base size n N c : Nat} {e : TypeId} {a : Addr} {xs : List Value} (h : w.ownsRow base e size (.slice (some a) N c) n xs) : N = n ∧ n ≤ c ∧ c ≤ maxLen := by
  rcases h.2 with ⟨h1, _⟩ | ⟨g, cap, cur, h1, _, _, h2, h3, _⟩
  · cases h1
  · cases h1; exact ⟨rfl, h2, h3⟩
theorem ins_news {W : World} {base g t cp : Nat} {S : List Int} (h : W.ownsRow base 3 1 (.slice (some ⟨g, 0, none⟩) t cp) t (ivs S)) (q k : Nat) (hk : q + k ≤ S.length) :
    ∀ j u, (ivs ((S.drop q).take k))[j]? = some u → W.cell? ((⟨g, q, none⟩ : Addr).add j) = some u := fun j u hu => by
  have hj : j < k := by
    have := (List.getElem?_eq_some_iff.1 hu).1
    simp [ivs] at this; omega
  have hadd : (⟨g, q, none⟩ : Addr).add j = (⟨g, 0, none⟩ : Addr).add (q + j) := by unfold Addr.add; split <;> split <;> simp_all <;> omega
  rw [hadd]
  refine h.cells rfl (q + j) u ?_
  simp only [ivs, List.getElem?_map, List.getElem?_take, List.getElem?_drop] at hu ⊢
  rw [if_pos hj] at hu
  exact hu
theorem ivs_one (L : List Int) : ∀ u ∈ ivs L, u.oneCell' = true := fun u hu => by
  obtain ⟨z, _, rfl⟩ := List.mem_map.1 hu; rfl

set_option maxHeartbeats 16000000 in
theorem l2Sorted_any (A : Option Addr) (n c : Nat) (Ls : List (List Int)) (w : World) (h : RSS w A n Ls) (hn : n ≤ 12) (hl : ∀ L ∈ Ls, L.length ≤ 1048576) :
    Calls Try.prog 58 #[.slice A n c] w fun e w' => ∃ v, e = .returned v ∧ NewL w (srt (lens Ls)) v w' := by
  obtain ⟨i0, hi, hz0, hz1, hz2⟩ := info_parts info_int
  have HL := Lib.hid h.len
  have HN := Lib.hid hl
  clear hl
  go_enter Try.func58, Try.ntmps58
  go_wp2
  go_loopw [3, 4] (fun v i wr => ∃ t : Nat, t ≤ n ∧ i = .int .i64 t ∧ wr.ownsRow w.heap.size 3 1 v t (ivs (srT Ls t)) ∧ v ≠ .slice none 0 0 ∧ Below w.heap.size w wr) (fun _ i _ => n - (intOf i).toNat)
  case atStart => exact ⟨0, Nat.zero_le _, rfl, own_lit0 w, by simp, (Below.refl _ _).alloc (Nat.le_refl _) _⟩
  case round =>
    obtain ⟨t, ht, rfl, hown, hv, hB⟩ := hrel
    by_cases hlt : t < n
    · obtain ⟨ad, Ai, ci, rfl, hab, hc0, hri⟩ := h.at_ hlt
      have hc := (hB.cell (p := ad.add t) (by rw [block_of_add]; exact hab)).trans hc0
      clear hc0
      have hLl := get_len Ls (k := t) HN.out
      have HSU := Lib.hid (srT_succ (Ls := Ls) (t := t) (by rw [HL.out]; exact hlt))
      have HSL := Lib.hid (srT_len (Ls := Ls) t (by rw [HL.out]; exact ht))
      have HSO := Lib.hid (srT_sorted Ls t)
      generalize (Ls[t]?.getD []).length = x at hc hLl HSU
      generalize srT Ls t = S at hown HSU HSL HSO
      obtain ⟨g, cp, rfl⟩ := own_two_slice hown hv
      clear hri hv
      go_wp2
      go_loopw [5] (fun k wr => ∃ q : Nat, q ≤ t ∧ k = .int .i64 q ∧ Hid (∀ y ∈ S.drop q, (x : Int) < y) ∧ wr.ownsRow w.heap.size 3 1 (.slice (some ⟨g, 0, none⟩) t cp) t (ivs S) ∧ wr.cell? (ad.add t) = some (.slice Ai x ci) ∧ Below w.heap.size w wr) (fun k _ => (intOf k).toNat)
      case atStart => exact ⟨t, Nat.le_refl _, rfl, (fun y hy => by rw [List.drop_eq_nil_of_le (by rw [HSL.out]; exact Nat.le_refl _)] at hy; cases hy), hown, hc, hB⟩
      case round =>
        clear hown hc hB
        obtain ⟨q, hq, rfl, HD, hown, hc, hB⟩ := hrel
        by_cases hq0 : 0 < q
        · obtain ⟨p, hpq⟩ : ∃ p, p + 1 = q := ⟨q - 1, by omega⟩
          have hqp : (q : Int) - 1 = (p : Int) := by omega
          have ho := hown.cellAt p (by omega)
          have hSp : p < S.length := by rw [HSL.out]; omega
          rw [ivs_get, List.getElem?_eq_getElem hSp] at ho
          simp only [Option.map_some] at ho
          have HSP : Hid (S[p]?.getD 0 = S[p]) := by show _ = _; rw [List.getElem?_eq_getElem hSp]; rfl
          generalize hy : S[p] = y at ho HSP
          have HY := Lib.hid hy
          have hp6 : p ≤ 1048576 := by omega
          have hg1 : decide ((0 : Int) < (q : Int)) = true := decide_eq_true (by omega)
          have hpt : (p : Int) < (t : Int) := by omega
          have HLE : Hid (p ≤ t) := by show _ ≤ _; omega
          have HLQ : Hid (p < q) := by show _ < _; omega
          have HDN : Hid ((x : Int) < y → ∀ z ∈ S.drop p, (x : Int) < z) := fun hx z hz => by
            rw [List.drop_eq_getElem_cons hSp] at hz
            rcases List.mem_cons.1 hz with e | hz
            · rw [e, hy]; exact hx
            · rw [hpq] at hz; exact HD.out z hz
          have HPQ := Lib.hid hpq
          clear hy hpq
          by_cases hxy : (x : Int) < y
          · have hd : decide ((x : Int) < y) = true := decide_eq_true hxy
            have HD2 := Lib.hid (HDN.out hxy)
            have hw1 := (wrap_small hp6).1
            have hw2 := (wrap_small hp6).2
            go_wp2_with fail
            go_quiet (fail)
            go_wp2
            clear hw1 hw2
            go_round
            case rel => exact ⟨p, HLE.out, rfl, HD2, hown, hc, ⟨hB.os, hB.tape, hB.output, hB.size, hB.block⟩⟩
            case measure => have := HLQ.out; simp [intOf]; omega
          · have hd : decide ((x : Int) < y) = false := decide_eq_false hxy
            have HTK : Hid (∀ z ∈ S.take q, z ≤ (x : Int)) := by
              show ∀ z ∈ S.take q, z ≤ (x : Int)
              have := sorted_below (q := p) (x := (x : Int)) HSO.out hSp (by rw [HSP.out]; omega)
              rwa [HPQ.out] at this
            have HRES := Lib.hid (insI_at HTK.out HD.out)
            have hw1 := (wrap_small hp6).1
            have hw2 := (wrap_small hp6).2
            go_wp2_with fail
            go_quiet (fail)
            clear hw1 hw2
            go_wp2_with fail
            have hqt : q ≤ t := hq
            have HLEN : Hid ((srT Ls (t + 1)).length = t + 1) := srT_len (t + 1) (by rw [HL.out]; omega)
            have HLST : Hid ((([] ++ (S.drop 0).take q) ++ [(x : Int)]) ++ (S.drop q).take (t - q) = srT Ls (t + 1)) := by
              show _ = _
              rw [HSU.out, HRES.out, List.take_of_length_le (show (S.drop q).length ≤ t - q by rw [List.length_drop, HSL.out]; omega)]
              simp
            have hownD : (wr.drewN nq).ownsRow w.heap.size 3 1 (.slice (some ⟨g, 0, none⟩) t cp) t (ivs S) := hown
            have hcD : (wr.drewN nq).cell? (ad.add t) = some (.slice Ai x ci) := hc
            have hBD : Below w.heap.size w (wr.drewN nq) := ⟨hB.os, hB.tape, hB.output, hB.size, hB.block⟩
            clear hown hc hB
            generalize wr.drewN nq = wr at hownD hcD hBD ⊢
            have hown := hownD
            have hc := hcD
            have hB := hBD
            clear hownD hcD hBD
            have hcap := (ocap hown).2
            have hqc : q ≤ cp := by omega
            have hgl := (hown.lt g rfl)
            have hwr := hB.size
            have hS0 : S.length = t := HSL.out
            have hownd : wr.drew.ownsRow w.heap.size 3 1 (.slice (some ⟨g, 0, none⟩) t cp) t (ivs S) := hown
            have hBd : Below w.heap.size w wr.drew := ⟨hB.os, hB.tape, hB.output, hB.size, hB.block⟩
            have hI0 : Ins w (wr.drew.alloc (.cells #[] 3)) g t cp S (.slice (some ⟨wr.heap.size, 0, none⟩) 0 0) [] := ins_lit hownd hBd
            have hIb := hI0.mono ((Below.refl _ _).alloc (Nat.le_refl _) (.cells #[.int .i64 (x : Int)] 3))
            have hIc : Ins w ((wr.drew.alloc (.cells #[.int .i64 (x : Int)] 3)).alloc (.cells #[] 3)) g t cp S (.slice (some ⟨wr.heap.size + 1, 0, none⟩) 0 0) [] := by
              have := ins_lit (hownd.alloc (.cells #[.int .i64 (x : Int)] 3)) (hBd.alloc hBd.size _)
              rwa [World.size_alloc] at this
            have hXb : ((wr.drew.alloc (.cells #[] 3)).alloc (.cells #[.int .i64 (x : Int)] 3)).cell? ⟨wr.heap.size + 1, 0, none⟩ = some (.int .i64 (x : Int)) := by
              have := cell_one_new (wr.drew.alloc (.cells #[] 3)) (.int .i64 (x : Int)) 3 0 _ rfl
              rw [World.size_alloc] at this
              exact this
            have hXc : ((wr.drew.alloc (.cells #[.int .i64 (x : Int)] 3)).alloc (.cells #[] 3)).cell? ⟨wr.heap.size, 0, none⟩ = some (.int .i64 (x : Int)) := (World.cell?_alloc_lt _ _ ⟨wr.heap.size, 0, none⟩ (by show wr.heap.size < (wr.drew.alloc _).heap.size; simp)).trans (cell_one_new wr.drew (.int .i64 (x : Int)) 3 0 _ rfl)
            have hnb := ins_news hIb.src 0 q (by omega)
            have hnc := ins_news hIc.src 0 q (by omega)
            have hneb : some wr.heap.size.succ ≠ (Value.slice (some ⟨wr.heap.size, 0, none⟩) 0 0).ownBlock := by simp [Value.ownBlock]
            have hnec : some wr.heap.size ≠ (Value.slice (some ⟨wr.heap.size + 1, 0, none⟩) 0 0).ownBlock := by simp [Value.ownBlock]
            have hE0 : (wr.drew.alloc (.cells #[] 3)).ownsRow w.heap.size 3 1 (.slice (some ⟨wr.heap.size, 0, none⟩) 0 0) 0 [] := hI0.own
            have hM1 : ((S.drop 0).take q).length = q := by simp; omega
            have hL1 : ([] ++ (S.drop 0).take q).length = q := by simp; omega
            have hL2 : (([] ++ (S.drop 0).take q) ++ [(x : Int)]).length = q + 1 := by rw [List.length_append, hL1]; rfl
            have hl1 : (ivs ((S.drop 0).take q)).length = q * 1 := by simp [ivs]; omega
            have hn1 := ins_news hI0.src 0 q (by omega)
            have b1 : 0 + q ≤ maxLen := by unfold maxLen; omega
            have b2 : (0 + q) * 8 ≤ 140737488355328 := by omega
            have b3 : w.heap.size ≤ (wr.drew.alloc (.cells #[] 3)).heap.size := by simp; omega
            have b4 : q + 1 ≤ maxLen := by unfold maxLen; omega
            have b5 : (q + 1) * 8 ≤ 140737488355328 := by omega
            have b6 : q + 1 + (t - q) ≤ maxLen := by unfold maxLen; omega
            have b7 : (q + 1 + (t - q)) * 8 ≤ 140737488355328 := by omega
            have hcE : (wr.drew.alloc (.cells #[] 3)).cell? (ad.add t) = some (.slice Ai x ci) := (World.cell?_alloc_lt wr.drew _ (ad.add t) (by rw [block_of_add]; show ad.block < wr.heap.size; omega)).trans hc
            have hcA : (wr.alloc (.cells #[] 3)).cell? (ad.add t) = some (.slice Ai x ci) := (World.cell?_alloc_lt wr _ (ad.add t) (by rw [block_of_add]; omega)).trans hc
            have hneE : some (ad.add t).block ≠ (Value.slice (some ⟨wr.heap.size, 0, none⟩) 0 0).ownBlock := by rw [block_of_add]; simp [Value.ownBlock]; omega
            have hM3 : ((S.drop q).take (t - q)).length = t - q := by simp; omega
            have hl3 : (ivs ((S.drop q).take (t - q))).length = (t - q) * 1 := by simp [ivs]; omega
            have htt : (t : Int) < (n : Int) := by omega
            obtain ⟨AD, hAD, hn3⟩ : ∃ AD : Addr, (if cp = q then some (⟨g, 0, none⟩ : Addr) else some ⟨g, q, none⟩) = some AD ∧ (∀ W : World, W.ownsRow w.heap.size 3 1 (.slice (some ⟨g, 0, none⟩) t cp) t (ivs S) → ∀ j u, (ivs ((S.drop q).take (t - q)))[j]? = some u → W.cell? (AD.add j) = some u) := by
              by_cases e : cp = q
              · refine ⟨⟨g, 0, none⟩, if_pos e, fun W _ j u hu => ?_⟩
                have : t - q = 0 := by omega
                rw [this] at hu; simp [ivs] at hu
              · exact ⟨⟨g, q, none⟩, if_neg e, fun W hW => ins_news hW q (t - q) (by omega)⟩
            have hadc : ad.block < w.heap.size := hab
            go_region_law (first
                          | (refine step_append_own_at _ rfl _ _ 23 rfl w.heap.size 3 i0 (.int .i64 0) 1 8 Try.underlying23 hi hz0 hz1 hz2 rfl (by decide) (.slice (some ⟨wr.heap.size, 0, none⟩) 0 0) 0 [] rfl hE0 ⟨g, 0, none⟩ q cp (ivs ((S.drop 0).take q)) rfl hl1 hn1 (ivs_one _) b1 b2 b3 ?_
                             intro v1 w1 hown1 hgrow1 _ hat1
                             have hI1 := Ins.app hI0 (Below.refl _ _) hown1 hM1 hgrow1 hat1
                             have hcw1 := (hgrow1.cell hcE hneE)
                             have hE1 := hI1.own.alloc (.cells #[.int .i64 (x : Int)] 3)
                             obtain ⟨A1, c1, hv1⟩ := own_slice hI1.own
                             rw [hL1] at hv1
                             subst hv1
                             clear hown1 hgrow1 hat1)
                          | (refine step_append_own_at _ rfl _ _ 23 rfl w.heap.size 3 i0 (.int .i64 0) 1 8 Try.underlying23 hi hz0 hz1 hz2 rfl (by decide) (.slice (some ⟨wr.heap.size, 0, none⟩) 0 0) 0 [] rfl hIb.own ⟨g, 0, none⟩ q cp (ivs ((S.drop 0).take q)) rfl hl1 hnb (ivs_one _) b1 b2 hIb.bel.size ?_
                             intro v1 w1 hown1 hgrow1 _ hat1
                             have hI1 := Ins.app hIb (Below.refl _ _) hown1 hM1 hgrow1 hat1
                             have hX1 := (hgrow1.cell hXb hneb)
                             obtain ⟨A1, c1, hv1⟩ := own_slice hI1.own
                             rw [hL1] at hv1
                             subst hv1
                             clear hown1 hgrow1 hat1)
                          | (refine step_append_own_at _ rfl _ _ 23 rfl w.heap.size 3 i0 (.int .i64 0) 1 8 Try.underlying23 hi hz0 hz1 hz2 rfl (by decide) (.slice (some ⟨wr.heap.size + 1, 0, none⟩) 0 0) 0 [] rfl hIc.own ⟨g, 0, none⟩ q cp (ivs ((S.drop 0).take q)) rfl hl1 hnc (ivs_one _) b1 b2 hIc.bel.size ?_
                             intro v1 w1 hown1 hgrow1 _ hat1
                             have hI1 := Ins.app hIc (Below.refl _ _) hown1 hM1 hgrow1 hat1
                             have hX1 := (hgrow1.cell hXc hnec)
                             obtain ⟨A1, c1, hv1⟩ := own_slice hI1.own
                             rw [hL1] at hv1
                             subst hv1
                             clear hown1 hgrow1 hat1)
                          | (refine step_append_own_at _ rfl _ _ 23 rfl w.heap.size 3 i0 (.int .i64 0) 1 8 Try.underlying23 hi hz0 hz1 hz2 rfl (by decide) _ _ _ rfl hE1 ⟨w1.heap.size, 0, none⟩ 1 1 (ivs [(x : Int)]) rfl rfl (cell_one_new _ _ _) (ivs_one _) (by rw [hL1]; exact b4) (by rw [hL1]; exact b5) (by have := hI1.bel.size; simp; omega) ?_
                             intro v2 w2 hown2 hgrow2 _ hat2
                             have hI2 := Ins.app hI1 ((Below.refl _ _).alloc (Nat.le_refl _) _) hown2 rfl hgrow2 hat2
                             obtain ⟨A2, c2, hv2⟩ := own_slice hI2.own
                             rw [hL2] at hv2
                             subst hv2
                             clear hown2 hgrow2 hat2 hE1)
                          | (refine step_append_own_at _ rfl _ _ 23 rfl w.heap.size 3 i0 (.int .i64 0) 1 8 Try.underlying23 hi hz0 hz1 hz2 rfl (by decide) _ _ _ rfl hI1.own ⟨wr.heap.size + 1, 0, none⟩ 1 1 (ivs [(x : Int)]) rfl rfl (one_at hX1) (ivs_one _) (by rw [hL1]; exact b4) (by rw [hL1]; exact b5) hI1.bel.size ?_
                             intro v2 w2 hown2 hgrow2 _ hat2
                             have hI2 := Ins.app hI1 (Below.refl _ _) hown2 rfl hgrow2 hat2
                             obtain ⟨A2, c2, hv2⟩ := own_slice hI2.own
                             rw [hL2] at hv2
                             subst hv2
                             clear hown2 hgrow2 hat2)
                          | (refine step_append_own_at _ rfl _ _ 23 rfl w.heap.size 3 i0 (.int .i64 0) 1 8 Try.underlying23 hi hz0 hz1 hz2 rfl (by decide) _ _ _ rfl hI1.own ⟨wr.heap.size, 0, none⟩ 1 1 (ivs [(x : Int)]) rfl rfl (one_at hX1) (ivs_one _) (by rw [hL1]; exact b4) (by rw [hL1]; exact b5) hI1.bel.size ?_
                             intro v2 w2 hown2 hgrow2 _ hat2
                             have hI2 := Ins.app hI1 (Below.refl _ _) hown2 rfl hgrow2 hat2
                             obtain ⟨A2, c2, hv2⟩ := own_slice hI2.own
                             rw [hL2] at hv2
                             subst hv2
                             clear hown2 hgrow2 hat2)
                          | (refine step_append_own_at _ rfl _ _ 23 rfl w.heap.size 3 i0 (.int .i64 0) 1 8 Try.underlying23 hi hz0 hz1 hz2 rfl (by decide) _ _ _ rfl hI2.own AD (t - q) (cp - q) (ivs ((S.drop q).take (t - q))) rfl hl3 (hn3 _ hI2.src) (ivs_one _) (by rw [List.length_append, hL1]; exact b6) (by rw [List.length_append, hL1]; exact b7) hI2.bel.size ?_
                             intro v3 w3 hown3 hgrow3 _ hat3
                             have hI3 := Ins.app hI2 (Below.refl _ _) hown3 hM3 hgrow3 hat3
                             have hfin := hI3.own
                             rw [HLST.out, HLEN.out] at hfin
                             have hne3 : v3 ≠ .slice none 0 0 := fun e => by
                               rcases hfin.2 with ⟨_, h0⟩ | ⟨_, _, _, h1, _⟩
                               · omega
                               · rw [e] at h1; cases h1
                             clear hown3 hgrow3 hat3))
            all_goals go_simp
            all_goals go_wp2
            all_goals go_roundw
            all_goals first
              | exact ⟨t + 1, by omega, by go_num, hfin, hne3, hI3.bel⟩
              | (simp [intOf]; omega)
        · have hqz : q = 0 := by omega
          have hg1 : decide ((0 : Int) < (q : Int)) = false := decide_eq_false (by omega)
          have hg2 : decide (0 < q) = false := decide_eq_false (by omega)
          have HTK : Hid (∀ z ∈ S.take q, z ≤ (x : Int)) := fun z hz => by rw [hqz] at hz; simp at hz
          have HRES := Lib.hid (insI_at HTK.out HD.out)
          clear hqz hq0
          go_wp2_with fail
          go_quiet (fail)
          go_wp2_with fail
          have hqt : q ≤ t := hq
          have HLEN : Hid ((srT Ls (t + 1)).length = t + 1) := srT_len (t + 1) (by rw [HL.out]; omega)
          have HLST : Hid ((([] ++ (S.drop 0).take q) ++ [(x : Int)]) ++ (S.drop q).take (t - q) = srT Ls (t + 1)) := by
            show _ = _
            rw [HSU.out, HRES.out, List.take_of_length_le (show (S.drop q).length ≤ t - q by rw [List.length_drop, HSL.out]; omega)]
            simp
          have hownD : (wr.drewN nq).ownsRow w.heap.size 3 1 (.slice (some ⟨g, 0, none⟩) t cp) t (ivs S) := hown
          have hcD : (wr.drewN nq).cell? (ad.add t) = some (.slice Ai x ci) := hc
          have hBD : Below w.heap.size w (wr.drewN nq) := ⟨hB.os, hB.tape, hB.output, hB.size, hB.block⟩
          clear hown hc hB
          generalize wr.drewN nq = wr at hownD hcD hBD ⊢
          have hown := hownD
          have hc := hcD
          have hB := hBD
          clear hownD hcD hBD
          have hcap := (ocap hown).2
          have hqc : q ≤ cp := by omega
          have hgl := (hown.lt g rfl)
          have hwr := hB.size
          have hS0 : S.length = t := HSL.out
          have hownd : wr.drew.ownsRow w.heap.size 3 1 (.slice (some ⟨g, 0, none⟩) t cp) t (ivs S) := hown
          have hBd : Below w.heap.size w wr.drew := ⟨hB.os, hB.tape, hB.output, hB.size, hB.block⟩
          have hI0 : Ins w (wr.drew.alloc (.cells #[] 3)) g t cp S (.slice (some ⟨wr.heap.size, 0, none⟩) 0 0) [] := ins_lit hownd hBd
          have hIb := hI0.mono ((Below.refl _ _).alloc (Nat.le_refl _) (.cells #[.int .i64 (x : Int)] 3))
          have hIc : Ins w ((wr.drew.alloc (.cells #[.int .i64 (x : Int)] 3)).alloc (.cells #[] 3)) g t cp S (.slice (some ⟨wr.heap.size + 1, 0, none⟩) 0 0) [] := by
            have := ins_lit (hownd.alloc (.cells #[.int .i64 (x : Int)] 3)) (hBd.alloc hBd.size _)
            rwa [World.size_alloc] at this
          have hXb : ((wr.drew.alloc (.cells #[] 3)).alloc (.cells #[.int .i64 (x : Int)] 3)).cell? ⟨wr.heap.size + 1, 0, none⟩ = some (.int .i64 (x : Int)) := by
            have := cell_one_new (wr.drew.alloc (.cells #[] 3)) (.int .i64 (x : Int)) 3 0 _ rfl
            rw [World.size_alloc] at this
            exact this
          have hXc : ((wr.drew.alloc (.cells #[.int .i64 (x : Int)] 3)).alloc (.cells #[] 3)).cell? ⟨wr.heap.size, 0, none⟩ = some (.int .i64 (x : Int)) := (World.cell?_alloc_lt _ _ ⟨wr.heap.size, 0, none⟩ (by show wr.heap.size < (wr.drew.alloc _).heap.size; simp)).trans (cell_one_new wr.drew (.int .i64 (x : Int)) 3 0 _ rfl)
          have hnb := ins_news hIb.src 0 q (by omega)
          have hnc := ins_news hIc.src 0 q (by omega)
          have hneb : some wr.heap.size.succ ≠ (Value.slice (some ⟨wr.heap.size, 0, none⟩) 0 0).ownBlock := by simp [Value.ownBlock]
          have hnec : some wr.heap.size ≠ (Value.slice (some ⟨wr.heap.size + 1, 0, none⟩) 0 0).ownBlock := by simp [Value.ownBlock]
          have hE0 : (wr.drew.alloc (.cells #[] 3)).ownsRow w.heap.size 3 1 (.slice (some ⟨wr.heap.size, 0, none⟩) 0 0) 0 [] := hI0.own
          have hM1 : ((S.drop 0).take q).length = q := by simp; omega
          have hL1 : ([] ++ (S.drop 0).take q).length = q := by simp; omega
          have hL2 : (([] ++ (S.drop 0).take q) ++ [(x : Int)]).length = q + 1 := by rw [List.length_append, hL1]; rfl
          have hl1 : (ivs ((S.drop 0).take q)).length = q * 1 := by simp [ivs]; omega
          have hn1 := ins_news hI0.src 0 q (by omega)
          have b1 : 0 + q ≤ maxLen := by unfold maxLen; omega
          have b2 : (0 + q) * 8 ≤ 140737488355328 := by omega
          have b3 : w.heap.size ≤ (wr.drew.alloc (.cells #[] 3)).heap.size := by simp; omega
          have b4 : q + 1 ≤ maxLen := by unfold maxLen; omega
          have b5 : (q + 1) * 8 ≤ 140737488355328 := by omega
          have b6 : q + 1 + (t - q) ≤ maxLen := by unfold maxLen; omega
          have b7 : (q + 1 + (t - q)) * 8 ≤ 140737488355328 := by omega
          have hcE : (wr.drew.alloc (.cells #[] 3)).cell? (ad.add t) = some (.slice Ai x ci) := (World.cell?_alloc_lt wr.drew _ (ad.add t) (by rw [block_of_add]; show ad.block < wr.heap.size; omega)).trans hc
          have hcA : (wr.alloc (.cells #[] 3)).cell? (ad.add t) = some (.slice Ai x ci) := (World.cell?_alloc_lt wr _ (ad.add t) (by rw [block_of_add]; omega)).trans hc
          have hneE : some (ad.add t).block ≠ (Value.slice (some ⟨wr.heap.size, 0, none⟩) 0 0).ownBlock := by rw [block_of_add]; simp [Value.ownBlock]; omega
          have hM3 : ((S.drop q).take (t - q)).length = t - q := by simp; omega
          have hl3 : (ivs ((S.drop q).take (t - q))).length = (t - q) * 1 := by simp [ivs]; omega
          have htt : (t : Int) < (n : Int) := by omega
          obtain ⟨AD, hAD, hn3⟩ : ∃ AD : Addr, (if cp = q then some (⟨g, 0, none⟩ : Addr) else some ⟨g, q, none⟩) = some AD ∧ (∀ W : World, W.ownsRow w.heap.size 3 1 (.slice (some ⟨g, 0, none⟩) t cp) t (ivs S) → ∀ j u, (ivs ((S.drop q).take (t - q)))[j]? = some u → W.cell? (AD.add j) = some u) := by
            by_cases e : cp = q
            · refine ⟨⟨g, 0, none⟩, if_pos e, fun W _ j u hu => ?_⟩
              have : t - q = 0 := by omega
              rw [this] at hu; simp [ivs] at hu
            · exact ⟨⟨g, q, none⟩, if_neg e, fun W hW => ins_news hW q (t - q) (by omega)⟩
          have hadc : ad.block < w.heap.size := hab
          go_region_law (first
                        | (refine step_append_own_at _ rfl _ _ 23 rfl w.heap.size 3 i0 (.int .i64 0) 1 8 Try.underlying23 hi hz0 hz1 hz2 rfl (by decide) (.slice (some ⟨wr.heap.size, 0, none⟩) 0 0) 0 [] rfl hE0 ⟨g, 0, none⟩ q cp (ivs ((S.drop 0).take q)) rfl hl1 hn1 (ivs_one _) b1 b2 b3 ?_
                           intro v1 w1 hown1 hgrow1 _ hat1
                           have hI1 := Ins.app hI0 (Below.refl _ _) hown1 hM1 hgrow1 hat1
                           have hcw1 := (hgrow1.cell hcE hneE)
                           have hE1 := hI1.own.alloc (.cells #[.int .i64 (x : Int)] 3)
                           obtain ⟨A1, c1, hv1⟩ := own_slice hI1.own
                           rw [hL1] at hv1
                           subst hv1
                           clear hown1 hgrow1 hat1)
                        | (refine step_append_own_at _ rfl _ _ 23 rfl w.heap.size 3 i0 (.int .i64 0) 1 8 Try.underlying23 hi hz0 hz1 hz2 rfl (by decide) (.slice (some ⟨wr.heap.size, 0, none⟩) 0 0) 0 [] rfl hIb.own ⟨g, 0, none⟩ q cp (ivs ((S.drop 0).take q)) rfl hl1 hnb (ivs_one _) b1 b2 hIb.bel.size ?_
                           intro v1 w1 hown1 hgrow1 _ hat1
                           have hI1 := Ins.app hIb (Below.refl _ _) hown1 hM1 hgrow1 hat1
                           have hX1 := (hgrow1.cell hXb hneb)
                           obtain ⟨A1, c1, hv1⟩ := own_slice hI1.own
                           rw [hL1] at hv1
                           subst hv1
                           clear hown1 hgrow1 hat1)
                        | (refine step_append_own_at _ rfl _ _ 23 rfl w.heap.size 3 i0 (.int .i64 0) 1 8 Try.underlying23 hi hz0 hz1 hz2 rfl (by decide) (.slice (some ⟨wr.heap.size + 1, 0, none⟩) 0 0) 0 [] rfl hIc.own ⟨g, 0, none⟩ q cp (ivs ((S.drop 0).take q)) rfl hl1 hnc (ivs_one _) b1 b2 hIc.bel.size ?_
                           intro v1 w1 hown1 hgrow1 _ hat1
                           have hI1 := Ins.app hIc (Below.refl _ _) hown1 hM1 hgrow1 hat1
                           have hX1 := (hgrow1.cell hXc hnec)
                           obtain ⟨A1, c1, hv1⟩ := own_slice hI1.own
                           rw [hL1] at hv1
                           subst hv1
                           clear hown1 hgrow1 hat1)
                        | (refine step_append_own_at _ rfl _ _ 23 rfl w.heap.size 3 i0 (.int .i64 0) 1 8 Try.underlying23 hi hz0 hz1 hz2 rfl (by decide) _ _ _ rfl hE1 ⟨w1.heap.size, 0, none⟩ 1 1 (ivs [(x : Int)]) rfl rfl (cell_one_new _ _ _) (ivs_one _) (by rw [hL1]; exact b4) (by rw [hL1]; exact b5) (by have := hI1.bel.size; simp; omega) ?_
                           intro v2 w2 hown2 hgrow2 _ hat2
                           have hI2 := Ins.app hI1 ((Below.refl _ _).alloc (Nat.le_refl _) _) hown2 rfl hgrow2 hat2
                           obtain ⟨A2, c2, hv2⟩ := own_slice hI2.own
                           rw [hL2] at hv2
                           subst hv2
                           clear hown2 hgrow2 hat2 hE1)
                        | (refine step_append_own_at _ rfl _ _ 23 rfl w.heap.size 3 i0 (.int .i64 0) 1 8 Try.underlying23 hi hz0 hz1 hz2 rfl (by decide) _ _ _ rfl hI1.own ⟨wr.heap.size + 1, 0, none⟩ 1 1 (ivs [(x : Int)]) rfl rfl (one_at hX1) (ivs_one _) (by rw [hL1]; exact b4) (by rw [hL1]; exact b5) hI1.bel.size ?_
                           intro v2 w2 hown2 hgrow2 _ hat2
                           have hI2 := Ins.app hI1 (Below.refl _ _) hown2 rfl hgrow2 hat2
                           obtain ⟨A2, c2, hv2⟩ := own_slice hI2.own
                           rw [hL2] at hv2
                           subst hv2
                           clear hown2 hgrow2 hat2)
                        | (refine step_append_own_at _ rfl _ _ 23 rfl w.heap.size 3 i0 (.int .i64 0) 1 8 Try.underlying23 hi hz0 hz1 hz2 rfl (by decide) _ _ _ rfl hI1.own ⟨wr.heap.size, 0, none⟩ 1 1 (ivs [(x : Int)]) rfl rfl (one_at hX1) (ivs_one _) (by rw [hL1]; exact b4) (by rw [hL1]; exact b5) hI1.bel.size ?_
                           intro v2 w2 hown2 hgrow2 _ hat2
                           have hI2 := Ins.app hI1 (Below.refl _ _) hown2 rfl hgrow2 hat2
                           obtain ⟨A2, c2, hv2⟩ := own_slice hI2.own
                           rw [hL2] at hv2
                           subst hv2
                           clear hown2 hgrow2 hat2)
                        | (refine step_append_own_at _ rfl _ _ 23 rfl w.heap.size 3 i0 (.int .i64 0) 1 8 Try.underlying23 hi hz0 hz1 hz2 rfl (by decide) _ _ _ rfl hI2.own AD (t - q) (cp - q) (ivs ((S.drop q).take (t - q))) rfl hl3 (hn3 _ hI2.src) (ivs_one _) (by rw [List.length_append, hL1]; exact b6) (by rw [List.length_append, hL1]; exact b7) hI2.bel.size ?_
                           intro v3 w3 hown3 hgrow3 _ hat3
                           have hI3 := Ins.app hI2 (Below.refl _ _) hown3 hM3 hgrow3 hat3
                           have hfin := hI3.own
                           rw [HLST.out, HLEN.out] at hfin
                           have hne3 : v3 ≠ .slice none 0 0 := fun e => by
                             rcases hfin.2 with ⟨_, h0⟩ | ⟨_, _, _, h1, _⟩
                             · omega
                             · rw [e] at h1; cases h1
                           clear hown3 hgrow3 hat3))
          all_goals go_simp
          all_goals go_wp2
          all_goals go_roundw
          all_goals first
            | exact ⟨t + 1, by omega, by go_num, hfin, hne3, hI3.bel⟩
            | (simp [intOf]; omega)
    · obtain rfl : t = n := by omega
      have HE : Hid (srT Ls t = srt (lens Ls)) := by show _ = _; unfold srT srt; rw [List.take_of_length_le (by rw [HL.out]; exact Nat.le_refl _)]
      have HSL := Lib.hid (srT_len (Ls := Ls) t (by rw [HL.out]; exact ht))
      go_wp2
      go_ret
      refine ⟨_, rfl, ?_, hB⟩
      rw [← HE.out, HSL.out]; exact hown
end

/-! WaysShape on both sides; spec.WaysAlike. -/
section
open Go.RowKit

theorem lens_le (Ls : List (List Int)) : (lens Ls).length = Ls.length := by simp [lens]
theorem srt_len : ∀ (L : List Int), (srt L).length = L.length := fun L => by
  have key : ∀ (L a : List Int), (L.foldl (fun a x => insI x a) a).length = a.length + L.length := fun L => by
    induction L with
    | nil => intro a; rfl
    | cons x L ih => intro a; simp only [List.foldl_cons, ih, insI_len, List.length_cons]; omega
  have := key L []
  simpa [srt] using this
theorem shCL_le (zs : List Int) : (shCL zs).length ≤ 12 := by
  have := (waysL_le zs).1
  unfold waysL at this; rw [List.length_append] at this
  unfold shCL; rw [srt_len, lens_le]; omega
theorem shYL_le (zs : List Int) : (shYL zs).length ≤ 12 := by
  have := (waysL_le zs).1
  unfold waysL at this; rw [List.length_append] at this
  unfold shYL; rw [srt_len, lens_le]; omega
theorem sh_no {zs : List Int} (h : isC zs = false) : shCL zs = [] ∧ shYL zs = [] := by simp [shCL, shYL, chainsL, cyclesL, h, lens, srt]

theorem sb14 {W : World} {b : Nat} {c : Nat → Int} (h : Sb W b c) : W.cell? ⟨b, 0, none⟩ = some (.int .i64 (c 0)) ∧ W.cell? ⟨b, 1, none⟩ = some (.int .i64 (c 1)) ∧ W.cell? ⟨b, 2, none⟩ = some (.int .i64 (c 2)) ∧ W.cell? ⟨b, 3, none⟩ = some (.int .i64 (c 3)) ∧ W.cell? ⟨b, 4, none⟩ = some (.int .i64 (c 4)) ∧ W.cell? ⟨b, 5, none⟩ = some (.int .i64 (c 5)) ∧ W.cell? ⟨b, 6, none⟩ = some (.int .i64 (c 6)) ∧ W.cell? ⟨b, 7, none⟩ = some (.int .i64 (c 7)) ∧ W.cell? ⟨b, 8, none⟩ = some (.int .i64 (c 8)) ∧ W.cell? ⟨b, 9, none⟩ = some (.int .i64 (c 9)) ∧ W.cell? ⟨b, 10, none⟩ = some (.int .i64 (c 10)) ∧ W.cell? ⟨b, 11, none⟩ = some (.int .i64 (c 11)) ∧ W.cell? ⟨b, 12, none⟩ = some (.int .i64 (c 12)) ∧ W.cell? ⟨b, 13, none⟩ = some (.int .i64 (c 13)) :=
  ⟨h.at_ (k := 0) (by omega), h.at_ (k := 1) (by omega), h.at_ (k := 2) (by omega), h.at_ (k := 3) (by omega), h.at_ (k := 4) (by omega), h.at_ (k := 5) (by omega), h.at_ (k := 6) (by omega), h.at_ (k := 7) (by omega), h.at_ (k := 8) (by omega), h.at_ (k := 9) (by omega), h.at_ (k := 10) (by omega), h.at_ (k := 11) (by omega), h.at_ (k := 12) (by omega), h.at_ (k := 13) (by omega)⟩
theorem sb_keep {W W0 W1 : World} {b : Nat} {c : Nat → Int} (hb : Below W0.heap.size W0 W1) (h : Sb W b c) (e : W0.heap = W.heap) : Sb W1 b c := by
  have h0 : Sb W0 b c := World.rowIs.of_block h (by rw [e])
  exact h0.below hb h0.lt
theorem oi_keep {W W0 W1 : World} {lo hi : Nat} {v : Value} {L : List Int} (hb : Below W0.heap.size W0 W1) (h : OI W lo hi v L) (e : W0.heap = W.heap) : OI W1 lo hi v L := by
  have h0 : OI W0 lo hi v L := h.same (fun g _ => by rw [e])
  exact h0.below hb

def ShapePost (zs : List Int) (w : World) (e : Ending) (w' : World) : Prop :=
  ∃ v1 v2 mid, e = .returned (.tuple #[v1, v2, .bool (isC zs)]) ∧ w.heap.size ≤ mid ∧ mid ≤ w'.heap.size ∧ OI w' w.heap.size mid v1 (shCL zs) ∧ OI w' mid w'.heap.size v2 (shYL zs) ∧ Below w.heap.size w w'

set_option maxHeartbeats 4000000 in
theorem implShape_any (A : Option Addr) (n c : Nat) (zs : List Int) (w : World) (h : RI w A n zs) (hn : n ≤ 1048576) : Calls Try.prog 21 #[.slice A n c] w (ShapePost zs w) := by
  have HS : Hid (lnC (cnF (accL zs) 0) 7 = shCL zs ∧ lnC (cnF (accL zs) 1) 7 = shYL zs) := by
    show _ ∧ _
    cases hC : isC zs
    · rw [accL_no hC, acc_none, acc_none, (sh_no hC).1, (sh_no hC).2]; exact ⟨rfl, rfl⟩
    · rw [(acc_C hC).1, (acc_C hC).2, (shL hC).1, (shL hC).2]; exact ⟨rfl, rfl⟩
  go_enter Try.func21, Try.ntmps21
  go_wp2_with fail
  refine (chartOf_any _ _ _ _ _ h).mono ?_
  rintro e w1 ⟨m, T, rfl, hy, hno, hb⟩
  obtain ⟨rfl, hT⟩ := of_facts hy hno
  have hW := Lib.hid (ways_say zs T hT)
  have hB := hb.alloc hb.size (.cells #[.int .i64 ((fk zs : Int)), .int .i64 (T 0), .int .i64 (T 1), .int .i64 (T 2), .int .i64 (T 3), .int .i64 (T 4), .int .i64 (T 5)] 49)
  obtain ⟨a0, a1, a2, a3, a4, a5, a6⟩ := (Cb.new w1 (fk zs : Int) T).all
  clear hy hno hb hT h
  generalize fk zs = m at *
  go_wp2_with fail
  refine (shape_any m T (accL zs) (accL_in zs) (accL_len zs) hW.out _).mono ?_
  rintro e w2 ⟨rfl, hb2⟩
  have hB2 := hB.trans (hb2.mono hB.size)
  have hSb := Sb.new w2 (shF (accL zs))
  have hB3 := hB2.alloc hB2.size (.cells #[.int .i64 ((shF (accL zs)) 0), .int .i64 ((shF (accL zs)) 1), .int .i64 ((shF (accL zs)) 2), .int .i64 ((shF (accL zs)) 3), .int .i64 ((shF (accL zs)) 4), .int .i64 ((shF (accL zs)) 5), .int .i64 ((shF (accL zs)) 6), .int .i64 ((shF (accL zs)) 7), .int .i64 ((shF (accL zs)) 8), .int .i64 ((shF (accL zs)) 9), .int .i64 ((shF (accL zs)) 10), .int .i64 ((shF (accL zs)) 11), .int .i64 ((shF (accL zs)) 12), .int .i64 ((shF (accL zs)) 13)] 72)
  have hz2 : w2.heap.size < (w2.alloc (.cells #[.int .i64 ((shF (accL zs)) 0), .int .i64 ((shF (accL zs)) 1), .int .i64 ((shF (accL zs)) 2), .int .i64 ((shF (accL zs)) 3), .int .i64 ((shF (accL zs)) 4), .int .i64 ((shF (accL zs)) 5), .int .i64 ((shF (accL zs)) 6), .int .i64 ((shF (accL zs)) 7), .int .i64 ((shF (accL zs)) 8), .int .i64 ((shF (accL zs)) 9), .int .i64 ((shF (accL zs)) 10), .int .i64 ((shF (accL zs)) 11), .int .i64 ((shF (accL zs)) 12), .int .i64 ((shF (accL zs)) 13)] 72)).heap.size := by simp
  have hw0 := hB3.size
  clear hB hb2 a0 a1 a2 a3 a4 a5 a6 hB2
  have hB := hB3
  clear hB3
  go_wp2_with fail
  generalize w2.alloc (.cells #[.int .i64 ((shF (accL zs)) 0), .int .i64 ((shF (accL zs)) 1), .int .i64 ((shF (accL zs)) 2), .int .i64 ((shF (accL zs)) 3), .int .i64 ((shF (accL zs)) 4), .int .i64 ((shF (accL zs)) 5), .int .i64 ((shF (accL zs)) 6), .int .i64 ((shF (accL zs)) 7), .int .i64 ((shF (accL zs)) 8), .int .i64 ((shF (accL zs)) 9), .int .i64 ((shF (accL zs)) 10), .int .i64 ((shF (accL zs)) 11), .int .i64 ((shF (accL zs)) 12), .int .i64 ((shF (accL zs)) 13)] 72) = W0 at hSb hB hz2 hw0 ⊢
  have tok1 : True := trivial
  have tok2 : True := trivial
  go_region_held3 (fun w' => w'.cell? ⟨w2.heap.size, 0, none⟩ = some (.int .i64 (shF (accL zs) 0)) ∧ w'.cell? ⟨w2.heap.size, 1, none⟩ = some (.int .i64 (shF (accL zs) 1)) ∧ w'.cell? ⟨w2.heap.size, 2, none⟩ = some (.int .i64 (shF (accL zs) 2)) ∧ w'.cell? ⟨w2.heap.size, 3, none⟩ = some (.int .i64 (shF (accL zs) 3)) ∧ w'.cell? ⟨w2.heap.size, 4, none⟩ = some (.int .i64 (shF (accL zs) 4)) ∧ w'.cell? ⟨w2.heap.size, 5, none⟩ = some (.int .i64 (shF (accL zs) 5)) ∧ w'.cell? ⟨w2.heap.size, 6, none⟩ = some (.int .i64 (shF (accL zs) 6)) ∧ w'.cell? ⟨w2.heap.size, 7, none⟩ = some (.int .i64 (shF (accL zs) 7)) ∧ w'.cell? ⟨w2.heap.size, 8, none⟩ = some (.int .i64 (shF (accL zs) 8)) ∧ w'.cell? ⟨w2.heap.size, 9, none⟩ = some (.int .i64 (shF (accL zs) 9)) ∧ w'.cell? ⟨w2.heap.size, 10, none⟩ = some (.int .i64 (shF (accL zs) 10)) ∧ w'.cell? ⟨w2.heap.size, 11, none⟩ = some (.int .i64 (shF (accL zs) 11)) ∧ w'.cell? ⟨w2.heap.size, 12, none⟩ = some (.int .i64 (shF (accL zs) 12)) ∧ w'.cell? ⟨w2.heap.size, 13, none⟩ = some (.int .i64 (shF (accL zs) 13)))
    (first | exact sb14 (by assumption) | go_keep)
    (first
      | (go_at_call 57
         have _t := tok1
         refine (lengths_any (accL zs) 0 (by omega) (accL_len zs) _).mono ?_
         rintro e w3 ⟨v1, rfl, hown1, hbx⟩
         rw [HS.out.1] at hown1
         have hSb := sb_keep hbx hSb rfl
         have hsz3 : W0.heap.size ≤ w3.heap.size := hbx.size
         have hB := bel_keep hbx hB rfl rfl rfl rfl hB.size
         have ho1 : OI w3 w.heap.size w3.heap.size v1 (shCL zs) := OI.of (own_le hown1 (by show w.heap.size ≤ W0.heap.size; omega))
         obtain ⟨A1, c1, rfl⟩ := own_slice hown1
         clear tok1 _t hbx hown1)
      | (go_at_call 57
         have _t := tok2
         refine (lengths_any (accL zs) 1 (by omega) (accL_len zs) _).mono ?_
         rintro e w4 ⟨v2, rfl, hown2, hbx⟩
         rw [HS.out.2] at hown2
         have hSb := sb_keep hbx hSb rfl
         have hsz4 : w3.heap.size ≤ w4.heap.size := hbx.size
         have hB := bel_keep hbx hB rfl rfl rfl rfl hB.size
         have ho1 := oi_keep hbx ho1 rfl
         have ho2 : OI w4 w3.heap.size w4.heap.size v2 (shYL zs) := OI.of hown2
         obtain ⟨A2, c2, rfl⟩ := own_slice hown2
         clear tok2 _t hbx hown2))
  go_wp2
  refine bodyPost_ret (v := .tuple #[.slice A1 (shCL zs).length c1, .slice A2 (shYL zs).length c2, .bool (isC zs)]) (by simp [results, Try.results21, go_sem]) rfl ?_
  exact ⟨_, _, w3.heap.size, rfl, by omega, by omega, ho1, ho2, hB⟩

set_option maxHeartbeats 4000000 in
theorem specShape_any (A : Option Addr) (n c : Nat) (zs : List Int) (w : World) (h : RI w A n zs) (hn : n ≤ 1048576) : Calls Try.prog 22 #[.slice A n c] w (ShapePost zs w) := by
  cases hC : isC zs
  · have HL := Lib.hid (sh_no hC)
    have HC := Lib.hid hC
    clear hC
    go_enter Try.func22, Try.ntmps22
    go_wp2_with fail
    refine (specIn_any _ _ _ _ _ h hn).mono ?_
    rintro e w1 ⟨rfl, rfl⟩
    rw [HC.out]
    go_wp2
    refine bodyPost_ret (v := .tuple #[.slice (some ⟨w.heap.size, 0, none⟩) 0 0, .slice (some ⟨w.heap.size + 1, 0, none⟩) 0 0, .bool false]) (by simp [results, Try.results22, go_sem]) rfl ?_
    have e2 := own_lit0 (w.alloc (.cells #[] 3))
    rw [World.size_alloc] at e2
    refine ⟨_, _, w.heap.size + 1, by rw [HC.out], by omega, by simp, ?_, ?_, ((Below.refl _ _).alloc (Nat.le_refl _) _).alloc (by simp) _⟩
    · rw [HL.out.1]; exact ⟨(own_lit0 w).alloc _, fun g hg => by simp [Value.ownBlock] at hg; omega⟩
    · rw [HL.out.2]; exact ⟨e2, fun g hg => by simp [Value.ownBlock] at hg; simp; omega⟩
  · obtain rfl := h.len
    have h6 := (isC_len hC).2
    have HL1 : Hid (chL (ofL zs) zs.length (raN zs) zs.length = chainsL zs) := by show _ = _; unfold chainsL; rw [if_pos hC]
    have HL2 : Hid (cyL (ofL zs) zs.length (orSS 0 (chL (ofL zs) zs.length (raN zs) zs.length)) zs.length = cyclesL zs) := by show _ = _; unfold cyclesL; rw [if_pos hC]
    have hle := waysL_le zs
    have hw : waysL zs = chainsL zs ++ cyclesL zs := rfl
    rw [hw, List.length_append] at hle
    have HC := Lib.hid hC
    clear hC
    go_enter Try.func22, Try.ntmps22
    go_wp2_with fail
    refine (specIn_any _ _ _ _ _ h hn).mono ?_
    rintro e w1 ⟨rfl, rfl⟩
    rw [HC.out]
    go_wp2_with fail
    refine (l2Ways_any _ _ _ _ _ h HC.out).mono ?_
    rintro e w1 ⟨v1, v2, rfl, hne, ⟨vs1, vs2, a1, a2, a3, a4, a5⟩, hB⟩
    rw [HL2.out] at a2 a5
    rw [HL1.out] at a1 a4 a5
    have o1 : OSS w1 w.heap.size w1.heap.size v1 (chainsL zs) := ⟨vs1, a1, (fun g hg => (a1.lt g hg).2), inn_left a4 a5⟩
    have o2 : OSS w1 w.heap.size w1.heap.size v2 (cyclesL zs) := ⟨vs2, a2, (fun g hg => (a2.lt g hg).2), inn_right a4 a5⟩
    have hl1 : ∀ L ∈ chainsL zs, L.length ≤ 1048576 := fun L hL => hle.2.2 L (List.mem_append.2 (.inl hL))
    have hl2 : ∀ L ∈ cyclesL zs, L.length ≤ 1048576 := fun L hL => hle.2.2 L (List.mem_append.2 (.inr hL))
    obtain ⟨A1, n1, c1, rfl, hn1⟩ := o1.form_
    obtain ⟨A2, n2, c2, rfl, hn2⟩ := o2.form_
    have hb1 : n1 ≤ 12 := by have := hle.1; omega
    have hb2 : n2 ≤ 12 := by have := hle.1; omega
    clear a1 a2 a3 a4 a5 hne hle hw h hn1 hn2
    go_wp2_with fail
    refine (l2Sorted_any A1 n1 c1 (chainsL zs) w1 (rss_oss_ o1) hb1 hl1).mono ?_
    rintro e w2 ⟨u1, rfl, hown1, hbx⟩
    have o2' := o2.below hbx
    have hB2 := hB.trans (hbx.mono hB.size)
    have ho1 : OI w2 w.heap.size w2.heap.size u1 (shCL zs) := OI.of (own_le hown1 hB.size)
    obtain ⟨A3, c3, rfl⟩ := own_slice hown1
    clear hown1 o1 o2
    go_wp2_with fail
    refine (l2Sorted_any A2 n2 c2 (cyclesL zs) w2 (rss_oss_ o2') hb2 hl2).mono ?_
    rintro e w3 ⟨u2, rfl, hown2, hby⟩
    have hB3 := hB2.trans (hby.mono hB2.size)
    have ho1' := ho1.below hby
    have ho2 : OI w3 w2.heap.size w3.heap.size u2 (shYL zs) := OI.of hown2
    obtain ⟨A4, c4, rfl⟩ := own_slice hown2
    have hs2 := hB2.size
    have hs3 := hby.size
    clear hown2 o2' ho1 hbx hby hB hB2
    go_wp2
    refine bodyPost_ret (v := .tuple #[.slice A3 (srt (lens (chainsL zs))).length c3, .slice A4 (srt (lens (cyclesL zs))).length c4, .bool true]) (by simp [results, Try.results22, go_sem]) rfl ?_
    exact ⟨_, _, w2.heap.size, by rw [HC.out], hs2, hs3, ho1', ho2, hB3⟩

set_option maxHeartbeats 4000000 in
theorem specAlike_any (A B : Option Addr) (n m c d : Nat) (zs ys : List Int) (w : World) (h : RI w A n zs) (h' : RI w B m ys) (hn : n ≤ 1048576) (hm : m ≤ 1048576) :
    Calls Try.prog 26 #[.slice A n c, .slice B m d] w fun e w' => e = .returned (.bool (alB zs ys)) ∧ Below w.heap.size w w' := by
  have hb1 := shCL_le zs
  have hb2 := shYL_le zs
  go_enter Try.func26, Try.ntmps26
  go_wp2_with fail
  refine (specShape_any _ _ _ _ _ h hn).mono ?_
  rintro e w1 ⟨v1, v2, mid, rfl, m1, m2, o1, o2, hB⟩
  obtain ⟨A1, n1, c1, rfl, hn1⟩ := o1.form_
  obtain ⟨A2, n2, c2, rfl, hn2⟩ := o2.form_
  have q1 : n1 ≤ 1048576 := by omega
  have q2 : n2 ≤ 1048576 := by omega
  clear hn1 hn2 hb1 hb2
  go_wp2_with fail
  refine (specShape_any _ _ _ _ _ (h'.below hB) hm).mono ?_
  rintro e w2 ⟨v3, v4, mid', rfl, m3, m4, o3, o4, hB'⟩
  obtain ⟨A3, n3, c3, rfl, hn3⟩ := o3.form_
  obtain ⟨A4, n4, c4, rfl, hn4⟩ := o4.form_
  clear hn3 hn4
  have o1' := o1.below hB'
  have o2' := o2.below hB'
  have hB2 := hB.trans (hB'.mono hB.size)
  clear o1 o2 hB hB' h h'
  have HA : Hid (alB zs ys = (isC zs && (isC ys && (decide (shCL zs = shCL ys) && decide (shYL zs = shYL ys))))) := by show _ = _; unfold alB; simp [Bool.and_assoc]
  generalize isC zs = bz at HA ⊢
  generalize isC ys = by_ at HA ⊢
  cases bz
  · go_wp2
    go_ret
    exact ⟨by rw [HA.out]; rfl, hB2⟩
  cases by_
  · go_wp2
    go_ret
    exact ⟨by rw [HA.out]; rfl, hB2⟩
  go_wp2_with fail
  refine (l2Same_any _ _ _ _ _ _ _ _ _ (ri_oi_ o1') (ri_oi_ o3) (by omega)).mono ?_
  rintro e w3 ⟨rfl, hb3⟩
  have hB3 := hB2.trans (hb3.mono hB2.size)
  have o2'' := o2'.below hb3
  have o4' := o4.below hb3
  clear hB2 hb3 o1' o2' o3 o4
  generalize decide (shCL zs = shCL ys) = x at HA ⊢
  cases x
  · go_wp2
    go_ret
    exact ⟨by rw [HA.out]; rfl, hB3⟩
  go_wp2_with fail
  refine (l2Same_any _ _ _ _ _ _ _ _ _ (ri_oi_ o2'') (ri_oi_ o4') (by omega)).mono ?_
  rintro e w4 ⟨rfl, hb4⟩
  have hB4 := hB3.trans (hb4.mono hB3.size)
  go_wp2
  go_ret
  exact ⟨by rw [HA.out]; rfl, hB4⟩
end

end Go.Proofs.Ytckppfgooflooab
