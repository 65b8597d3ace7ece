/-
  Put.
-/
import Derived.Maps.AppendAt
import Derived.Deep.RegionLaw
import Derived.Test.YtlcjgppclclkoaaDoorTS
import Derived.Test.YtlcjgppclclkoaaDoorTV
import Derived.Test.YtlcjgppclclkoaaDoorTX
import Derived.Test.YtlcjgppclclkoaaDoorTZ
namespace Go.Proofs.YtlcjgppclclkoaaDoor
set_option maxRecDepth 100000
set_option linter.unusedVariables false
set_option linter.unusedSimpArgs false
set_option linter.unusedSectionVars false

/-! spec.l4Put, spec.l4None. -/
section
open Go.RowKit Go.Lib Go.Sort

theorem step_app4 {P : Program} (w : World) {ops : Array Oper} {o : Oper} {a : Act} {K : Act → World → Prop} {Q : Exit → Act → World → Prop} {E : Prop}
    (hg : o.guard = none) (s x : Operand) (t : TypeId) (hop : o.op = Op.call { callee := Callee.builtin Builtin.append, args := #[s, x], argTypes := #[t, t] })
    (base : Nat) (e : TypeId) (i : TypeInfo) (z : Value) (size bytes : Nat) (h1 : P.underlying t = some (.slice e)) (h2 : P.info? e = some i) (h3 : i.zero = some z) (h4 : i.size = size) (h5 : i.bytes = bytes) (h6 : z.cells.size = size) (h7 : 0 < size)
    (v : Value) (k : Nat) (xs : List Value) (hs : a.eval s = v) (hown : w.ownsRow base e size v k xs) (ad : Addr) (m c : Nat) (news : List Value) (hx : a.eval x = .slice (some ad) m c) (hn : news.length = m * size)
    (hc : ∀ j u, news[j]? = some u → w.cell? (ad.add j) = some u) (h1c : ∀ u ∈ news, u.oneCell' = true) (b1 : k + m ≤ maxLen) (b2 : (k + m) * bytes ≤ 140737488355328) (b3 : base ≤ w.heap.size)
    (hK : ∀ v' w', w'.ownsRow base e size v' (k + m) (xs ++ news) → w.grownBy w' v.ownBlock → (v' = .slice none 0 0 ↔ v = .slice none 0 0 ∧ m = 0) → (v'.ownBlock = v.ownBlock ∨ v'.ownBlock = some w.heap.size) → K (a.put o.dst v') w') :
    if Region.wanted o (yielded ops a.tmps) = true then Oper.wp P o a w K Q else E := by
  have hw : Region.wanted o (yielded ops a.tmps) = true := by simp [Region.wanted, hg]
  rw [if_pos hw]
  obtain ⟨v', w', hrun, r1, r2, r3, r4⟩ := run_append_own_at (P := P) w base t o.type e i z size bytes h1 h2 h3 h4 h5 h6 h7 v k xs hown ad m c news hn hc h1c b1 b2 b3
  unfold Oper.wp
  simp [execOp, hop, resolve, invoke, builtin, hs, hx, hrun, Result.andThen]
  exact hK v' w' r1 r2 r3 r4
theorem wvL_app (a b : List (List (Fin 4))) : wvL (a ++ b) = wvL a ++ wvL b := by unfold wvL; rw [List.map_append]
theorem wvL_len (a : List (List (Fin 4))) : (wvL a).length = a.length := by simp [wvL]
theorem wvL_get (a : List (List (Fin 4))) (k : Nat) : (wvL a)[k]? = (a[k]?).map (fun u => Value.string (strOf u)) := by simp [wvL]
theorem wvL_one (L : List (List (Fin 4))) : ∀ u ∈ wvL L, u.oneCell' = true := fun u hu => by
  obtain ⟨z, _, rfl⟩ := List.mem_map.1 hu; rfl
theorem own_lit4 (w : World) : (w.alloc (.cells #[] 9)).ownsRow w.heap.size 9 1 (.slice (some ⟨w.heap.size, 0, none⟩) 0 0) 0 (wvL []) := ⟨rfl, .inr ⟨w.heap.size, 0, #[], rfl, Nat.le_refl _, heap_alloc_new w _, Nat.le_refl _, Nat.zero_le _, rfl, rfl⟩⟩
/-- what lies behind the first append of the line: the taken part in a slice of its own, S as it lay -/
structure InsW (lo : Nat) (w W : World) (g t cp : Nat) (S : List (List (Fin 4))) (v : Value) (L : List (List (Fin 4))) : Prop where
  own : W.ownsRow w.heap.size 9 1 v L.length (wvL L)
  src : W.ownsRow lo 9 1 (.slice (some ⟨g, 0, none⟩) t cp) t (wvL S)
  ne : v.ownBlock ≠ some g
  bel : RowKit.Below w.heap.size w W
theorem InsW.app {lo : Nat} {w W W0 w1 : World} {g t cp m : Nat} {S L M : List (List (Fin 4))} {v v' : Value} (h : InsW lo w W g t cp S v L) (ha : RowKit.Below W.heap.size W W0)
    (hown' : w1.ownsRow w.heap.size 9 1 v' (L.length + m) (wvL L ++ wvL M)) (hM : M.length = m) (hgrow : W0.grownBy w1 v.ownBlock) (hat : v'.ownBlock = v.ownBlock ∨ v'.ownBlock = some W0.heap.size) : InsW lo w w1 g t cp S v' (L ++ M) := by
  have hs0 := (own_below0 h.src ha)
  have hB0 := h.bel.trans (ha.mono h.bel.size)
  refine ⟨?_, hs0.kept hgrow (.inr (fun e => h.ne e.symm)), ?_, hB0.grown hgrow hB0.size (fun k e => ((own_below0 h.own ha).lt k e).1)⟩
  · rw [List.length_append, hM, wvL_app]; exact hown'
  · rcases hat with e | e
    · rw [e]; exact h.ne
    · rw [e]; intro h2
      have h3 : W0.heap.size = g := by simpa using h2
      have := (hs0.lt g rfl).2
      omega
theorem InsW.mono {lo : Nat} {w W W' : World} {g t cp : Nat} {S L : List (List (Fin 4))} {v : Value} (h : InsW lo w W g t cp S v L) (ha : RowKit.Below W.heap.size W W') : InsW lo w W' g t cp S v L :=
  ⟨own_below0 h.own ha, own_below0 h.src ha, h.ne, h.bel.trans (ha.mono h.bel.size)⟩
theorem insW_lit {lo : Nat} {w W : World} {g t cp : Nat} {S : List (List (Fin 4))} (h : W.ownsRow lo 9 1 (.slice (some ⟨g, 0, none⟩) t cp) t (wvL S)) (hB : RowKit.Below w.heap.size w W) : InsW lo w (W.alloc (.cells #[] 9)) g t cp S (.slice (some ⟨W.heap.size, 0, none⟩) 0 0) [] :=
  ⟨own_down0 (own_lit4 W) hB.size, h.alloc _, by have := (h.lt g rfl).2; simp [Value.ownBlock]; omega, hB.alloc hB.size _⟩
theorem one_at4 {W : World} {B : Nat} {u : Value} (h : W.cell? ⟨B, 0, none⟩ = some u) : ∀ (j : Nat) (x : Value), [u][j]? = some x → W.cell? ((⟨B, 0, none⟩ : Addr).add j) = some x := fun j x hx => by
  match j, hx with
  | 0, hx =>
    simp at hx; subst hx
    have hadd : (⟨B, 0, none⟩ : Addr).add 0 = ⟨B, 0, none⟩ := by unfold Addr.add; split <;> simp_all
    rw [hadd]; exact h
  | j + 1, hx => simp at hx
theorem ocap4 {w : World} {base size n N c : Nat} {e : TypeId} {a : Addr} {xs : List Value} (h : w.ownsRow base e size (.slice (some a) N c) n xs) : N = n ∧ n ≤ c ∧ c ≤ maxLen := by
  rcases h.2 with ⟨h1, _⟩ | ⟨g, cap, cur, h1, _, _, h2, h3, _⟩
  · cases h1
  · cases h1; exact ⟨rfl, h2, h3⟩
theorem insW_news {W : World} {base g t cp : Nat} {S : List (List (Fin 4))} (h : W.ownsRow base 9 1 (.slice (some ⟨g, 0, none⟩) t cp) t (wvL S)) (q k : Nat) (hk : q + k ≤ S.length) :
    ∀ j u, (wvL ((S.drop q).take k))[j]? = some u → W.cell? ((⟨g, q, none⟩ : Addr).add j) = some u := fun j u hu => by
  have hj : j < k := by
    have := (List.getElem?_eq_some_iff.1 hu).1
    simp [wvL] at this; omega
  have hadd : (⟨g, q, none⟩ : Addr).add j = (⟨g, 0, none⟩ : Addr).add (q + j) := by unfold Addr.add; split <;> split <;> simp_all <;> omega
  rw [hadd]
  refine h.cells rfl (q + j) u ?_
  rw [wvL_get, List.getElem?_take, List.getElem?_drop, if_pos hj] at hu
  rw [wvL_get]; exact hu
theorem own_two4 {w : World} {base n : Nat} {e : TypeId} {v : Value} {xs : List Value} (h : w.ownsRow base e 1 v n xs) (hne : v ≠ .slice none 0 0) : ∃ (g c : Nat), v = .slice (some ⟨g, 0, none⟩) n c := by
  rcases h.2 with ⟨rfl, rfl⟩ | ⟨g, cap, cur, rfl, _⟩
  · exact absurd rfl hne
  · exact ⟨_, _, rfl⟩
/-- a word more, in its place -/
theorem ord_put {S : List (List (Fin 4))} {u : List (Fin 4)} {q : Nat} (h : Ord S) (h1 : ∀ y ∈ S.drop q, ltW u y) (h2 : ∀ y ∈ S.take q, ltW y u) : Ord (S.take q ++ [u] ++ S.drop q) := by
  have h0 : Ord (S.take q ++ S.drop q) := by rw [List.take_append_drop]; exact h
  obtain ⟨ha, hb, hc⟩ := List.pairwise_append.1 h0
  refine List.pairwise_append.2 ⟨List.pairwise_append.2 ⟨ha, List.pairwise_singleton _ _, fun a hx b hy => by rw [List.mem_singleton.1 hy]; exact h2 a hx⟩, hb, fun a hx b hy => ?_⟩
  rcases List.mem_append.1 hx with h' | h'
  · exact hc a h' b hy
  · rw [List.mem_singleton.1 h']; exact h1 b hy
theorem mem_put {S : List (List (Fin 4))} {u : List (Fin 4)} (q : Nat) (x : List (Fin 4)) : x ∈ S.take q ++ [u] ++ S.drop q ↔ x ∈ S ∨ x = u := by
  have : x ∈ S ↔ x ∈ S.take q ++ S.drop q := by rw [List.take_append_drop]
  rw [this]
  simp only [List.mem_append, List.mem_singleton]
  constructor
  · rintro ((h | h) | h)
    · exact .inl (.inl h)
    · exact .inr h
    · exact .inl (.inr h)
  · rintro ((h | h) | h)
    · exact .inl (.inl h)
    · exact .inr h
    · exact .inl (.inr h)
theorem ord_low {S : List (List (Fin 4))} {u : List (Fin 4)} {p : Nat} {y : List (Fin 4)} (h : Ord S) (hp : S[p]? = some y) (hy : ltW y u) : ∀ z ∈ S.take (p + 1), ltW z u := fun z hz => by
  obtain ⟨i, hi, rfl⟩ := List.mem_take_iff_getElem.1 hz
  obtain ⟨hq, rfl⟩ := List.getElem?_eq_some_iff.1 hp
  by_cases e : i = p
  · subst e; exact hy
  · exact ltW_trans (List.pairwise_iff_getElem.1 h i p (by omega) hq (by omega)) hy
set_option maxHeartbeats 1000000 in
theorem l4None_any (w : World) : Calls Tryd.prog 43 #[] w fun e w' => ∃ g, e = .returned (.tuple #[.agg #[.slice (some ⟨g, 0, none⟩) 0 0, .string ⟨#[]⟩], .bool false]) ∧ w'.ownsRow w.heap.size 9 1 (.slice (some ⟨g, 0, none⟩) 0 0) 0 (wvL []) ∧ RowKit.Below w.heap.size w w' := by
  go_enter Tryd.func43, Tryd.ntmps43
  go_wp2
  have ho : ((w.alloc (.cells #[.slice (some ⟨w.heap.size + 1, 0, none⟩) 0 0, .string ⟨#[]⟩] 29)).alloc (.cells #[] 9)).ownsRow (w.heap.size + 1) 9 1 (.slice (some ⟨w.heap.size + 1, 0, none⟩) 0 0) 0 (wvL []) := by
    have := own_lit4 (w.alloc (.cells #[.slice (some ⟨w.heap.size + 1, 0, none⟩) 0 0, .string ⟨#[]⟩] 29))
    rwa [World.size_alloc] at this
  refine bodyPost_ret (v := .tuple #[.agg #[.slice (some ⟨w.heap.size + 1, 0, none⟩) 0 0, .string ⟨#[]⟩], .bool false]) (by simp [results, Tryd.results43, go_sem]) rfl ⟨w.heap.size + 1, rfl, own_down0 ho (by omega), ((RowKit.Below.refl _ w).alloc (Nat.le_refl _) _).alloc (by simp) _⟩
theorem info_strp : (Tryd.prog.info? 9).map (fun i => (i.zero, i.size, i.bytes)) = some (some (.string ⟨#[]⟩), 1, 16) := by kernel_rfl
set_option maxHeartbeats 8000000 in
theorem l4Put_any (lo : Nat) (g cp t : Nat) (S : List (List (Fin 4))) (u : List (Fin 4)) (w : World) (hown : w.ownsRow lo 9 1 (.slice (some ⟨g, 0, none⟩) t cp) t (wvL S)) (ho : Ord S) (ht : t ≤ 4096) (hlo : lo ≤ w.heap.size) :
    Calls Tryd.prog 44 #[.slice (some ⟨g, 0, none⟩) t cp, .string (strOf u)] w fun e w' => ∃ (g' cp' : Nat) (S' : List (List (Fin 4))), e = .returned (.slice (some ⟨g', 0, none⟩) S'.length cp') ∧ w'.ownsRow lo 9 1 (.slice (some ⟨g', 0, none⟩) S'.length cp') S'.length (wvL S') ∧ Ord S' ∧ (∀ x, x ∈ S' ↔ x ∈ S ∨ x = u) ∧ S'.length ≤ t + 1 ∧ RowKit.Below w.heap.size w w' := by
  obtain ⟨i0, hi, hz0, hz1, hz2⟩ := info_parts info_strp
  have hst : S.length = t := by have := hown.1; simpa [wvL] using this
  have hrs : RS w (some ⟨g, 0, none⟩) t (S.map strOf) := RS.of_own (by rw [← wvL_sv]; exact hown)
  have hH := l4Has_any (some ⟨g, 0, none⟩) t cp _ (strOf u) w hrs (by omega)
  have HLS := Lib.hid (fun (v : List (Fin 4)) (W : World) => l4Less_any u v W)
  have HST := Lib.hid hst
  have HO := Lib.hid ho
  have HOW := Lib.hid hown
  cases hb : hasB (S.map strOf) (strOf u) with
  | true =>
    rw [hb] at hH
    have HM : Hid (u ∈ S) := by
      have := hasB_iff.1 hb
      obtain ⟨v, hv, e⟩ := List.mem_map.1 this
      rw [← strOf_inj e]; exact hv
    have HH := Lib.hid hH
    clear hH hb hrs ho hown hst
    generalize strOf u = su at *
    go_enter Tryd.func44, Tryd.ntmps44
    go_wp2_with fail
    refine HH.out.mono ?_
    rintro e w1 ⟨rfl, rfl⟩
    go_wp2
    go_ret
    exact ⟨g, cp, S, by rw [HST.out]; rfl, by rw [HST.out]; exact HOW.out, HO.out, fun x => ⟨.inl, fun h => h.elim id (fun e => by rw [e]; exact HM.out)⟩, by rw [HST.out]; omega, RowKit.Below.refl _ _⟩
  | false =>
    rw [hb] at hH
    have HNM : Hid (u ∉ S) := fun h => hasB_no.1 hb (List.mem_map.2 ⟨u, h, rfl⟩)
    have HH := Lib.hid hH
    clear hH hb hrs ho hst
    go_enter Tryd.func44, Tryd.ntmps44
    go_wp2_with fail
    refine HH.out.mono ?_
    rintro e w1 ⟨rfl, rfl⟩
    go_wp2
    go_loopw [5] (fun k wr => ∃ q : Nat, q ≤ t ∧ k = .int .i64 (q : Int) ∧ wr = w1 ∧ Hid (∀ y ∈ S.drop q, ltW u y)) (fun k _ => (intOf k).toNat)
    case atStart => exact ⟨t, Nat.le_refl _, rfl, rfl, fun y hy => by rw [List.drop_eq_nil_of_le (by rw [HST.out]; exact Nat.le_refl _)] at hy; cases hy⟩
    case round =>
      obtain ⟨q, hq, rfl, rfl, HD⟩ := hrel
      by_cases hq0 : 0 < q
      · obtain ⟨p, hpq⟩ : ∃ p, q = p + 1 := ⟨q - 1, by omega⟩
        have hqp : (q : Int) - 1 = (p : Int) := by omega
        obtain ⟨y, hy⟩ : ∃ y, S[p]? = some y := ⟨_, List.getElem?_eq_getElem (by rw [HST.out]; omega)⟩
        have hoc := hown.cellAt p (by omega)
        rw [wvL_get, hy] at hoc
        simp only [Option.map_some] at hoc
        have hg1 : (0 : Int) < (q : Int) := by omega
        have hpt : (p : Int) < (t : Int) := by omega
        have HLE : Hid (p ≤ t) := by show _ ≤ _; omega
        have HLQ : Hid (p < q) := by show _ < _; omega
        have HPQ := Lib.hid hpq
        have HY := Lib.hid hy
        have hL := HLS.out y wr
        clear hy hpq
        cases hlt : ltOf leL u y with
        | true =>
          rw [hlt] at hL
          have HL := Lib.hid hL
          have HD2 : Hid (∀ z ∈ S.drop p, ltW u z) := fun z hz => by
            have hp : p < S.length := (List.getElem?_eq_some_iff.1 HY.out).1
            have hyp : S[p] = y := (List.getElem?_eq_some_iff.1 HY.out).2
            rw [List.drop_eq_getElem_cons hp] at hz
            rcases List.mem_cons.1 hz with e | hz
            · rw [e, hyp]; exact (ltOf_leL _ _).1 hlt
            · rw [← HPQ.out] at hz; exact HD.out z hz
          clear hL hlt
          go_wp2_with fail
          refine HL.out.mono ?_
          rintro e w2 ⟨rfl, rfl⟩
          go_wp2
          go_roundw
          case rel => exact ⟨p, HLE.out, rfl, trivial, HD2⟩
          case measure => have := HLQ.out; simp [intOf]; omega
        | false =>
          rw [hlt] at hL
          have HL := Lib.hid hL
          have HTK : Hid (∀ z ∈ S.take q, ltW z u) := by
            show ∀ z ∈ S.take q, ltW z u
            rw [HPQ.out]
            refine ord_low HO.out HY.out ?_
            rcases ltW_tri u y with h | h | h
            · rw [(ltOf_leL _ _).2 h] at hlt; cases hlt
            · exact absurd (by rw [h]; exact List.mem_of_getElem? HY.out) HNM.out
            · exact h
          clear hL hlt
          go_wp2_with fail
          refine HL.out.mono ?_
          rintro e wz ⟨rfl, rfl⟩
          clear hoc hqp hpt hg1 HL
          go_wp2_with fail
          have HLEN : Hid ((S.take q ++ [u] ++ S.drop q).length = t + 1) := by show _ = _; simp [List.length_take, List.length_drop, HST.out]; omega
          have HLST : Hid ((([] ++ (S.drop 0).take q) ++ [u]) ++ (S.drop q).take (t - q) = S.take q ++ [u] ++ S.drop q) := by
            show _ = _
            rw [List.take_of_length_le (show (S.drop q).length ≤ t - q by rw [List.length_drop, HST.out]; omega)]
            simp
          have HORD : Hid (Ord (S.take q ++ [u] ++ S.drop q)) := ord_put HO.out HD.out HTK.out
          have hB : RowKit.Below wz.heap.size wz wz := RowKit.Below.refl _ _
          have hqt : q ≤ t := hq
          have hown := HOW.out
          have hcap := (ocap4 hown).2
          have hqc : q ≤ cp := by omega
          have hgl := (hown.lt g rfl)
          have hwr := hB.size
          have hS0 : S.length = t := HST.out
          have hownd : wz.drew.ownsRow lo 9 1 (.slice (some ⟨g, 0, none⟩) t cp) t (wvL S) := hown
          have hBd : RowKit.Below wz.heap.size wz wz.drew := ⟨hB.os, hB.tape, hB.output, hB.size, hB.block⟩
          have hI0 : InsW lo wz (wz.drew.alloc (.cells #[] 9)) g t cp S (.slice (some ⟨wz.heap.size, 0, none⟩) 0 0) [] := insW_lit hownd hBd
          have hIb := hI0.mono ((RowKit.Below.refl _ _).alloc (Nat.le_refl _) (.cells #[.string (strOf u)] 9))
          have hIc : InsW lo wz ((wz.drew.alloc (.cells #[.string (strOf u)] 9)).alloc (.cells #[] 9)) g t cp S (.slice (some ⟨wz.heap.size + 1, 0, none⟩) 0 0) [] := by
            have := insW_lit (hownd.alloc (.cells #[.string (strOf u)] 9)) (hBd.alloc hBd.size _)
            rwa [World.size_alloc] at this
          have hXb : ((wz.drew.alloc (.cells #[] 9)).alloc (.cells #[.string (strOf u)] 9)).cell? ⟨wz.heap.size + 1, 0, none⟩ = some (.string (strOf u)) := by
            have := cell_one_new (wz.drew.alloc (.cells #[] 9)) (.string (strOf u)) 9 0 _ rfl
            rw [World.size_alloc] at this
            exact this
          have hXc : ((wz.drew.alloc (.cells #[.string (strOf u)] 9)).alloc (.cells #[] 9)).cell? ⟨wz.heap.size, 0, none⟩ = some (.string (strOf u)) := (World.cell?_alloc_lt _ _ ⟨wz.heap.size, 0, none⟩ (by show wz.heap.size < (wz.drew.alloc _).heap.size; simp)).trans (cell_one_new wz.drew (.string (strOf u)) 9 0 _ rfl)
          have hnb := insW_news hIb.src 0 q (by omega)
          have hnc := insW_news hIc.src 0 q (by omega)
          have hneb : some wz.heap.size.succ ≠ (Value.slice (some ⟨wz.heap.size, 0, none⟩) 0 0).ownBlock := by simp [Value.ownBlock]
          have hnec : some wz.heap.size ≠ (Value.slice (some ⟨wz.heap.size + 1, 0, none⟩) 0 0).ownBlock := by simp [Value.ownBlock]
          have hE0 : (wz.drew.alloc (.cells #[] 9)).ownsRow wz.heap.size 9 1 (.slice (some ⟨wz.heap.size, 0, none⟩) 0 0) 0 [] := hI0.own
          have hM1 : ((S.drop 0).take q).length = q := by simp; omega
          have hL1 : ([] ++ (S.drop 0).take q).length = q := by simp; omega
          have hL2 : (([] ++ (S.drop 0).take q) ++ [u]).length = q + 1 := by rw [List.length_append, hL1]; rfl
          have hl1 : (wvL ((S.drop 0).take q)).length = q * 1 := by simp [wvL]; omega
          have hn1 := insW_news hI0.src 0 q (by omega)
          have b1 : 0 + q ≤ maxLen := by unfold maxLen; omega
          have b2 : (0 + q) * 16 ≤ 140737488355328 := by omega
          have b3 : wz.heap.size ≤ (wz.drew.alloc (.cells #[] 9)).heap.size := by simp
          have b4 : q + 1 ≤ maxLen := by unfold maxLen; omega
          have b5 : (q + 1) * 16 ≤ 140737488355328 := by omega
          have b6 : q + 1 + (t - q) ≤ maxLen := by unfold maxLen; omega
          have b7 : (q + 1 + (t - q)) * 16 ≤ 140737488355328 := by omega
          have hM3 : ((S.drop q).take (t - q)).length = t - q := by simp; omega
          have hl3 : (wvL ((S.drop q).take (t - q))).length = (t - q) * 1 := by simp [wvL]; omega
          obtain ⟨AD, hAD, hn3⟩ : ∃ AD : Addr, (if cp = q then some (⟨g, 0, none⟩ : Addr) else some ⟨g, q, none⟩) = some AD ∧ (∀ W : World, W.ownsRow lo 9 1 (.slice (some ⟨g, 0, none⟩) t cp) t (wvL S) → ∀ j u, (wvL ((S.drop q).take (t - q)))[j]? = some u → W.cell? (AD.add j) = some u) := by
            by_cases e : cp = q
            · refine ⟨⟨g, 0, none⟩, if_pos e, fun W _ j u hu => ?_⟩
              have : t - q = 0 := by omega
              rw [this] at hu; simp [wvL] at hu
            · exact ⟨⟨g, q, none⟩, if_neg e, fun W hW => insW_news hW q (t - q) (by omega)⟩
          go_region_law (first
                        | (refine step_app4 _ rfl _ _ 27 rfl wz.heap.size 9 i0 (.string ⟨#[]⟩) 1 16 Tryd.underlying27 hi hz0 hz1 hz2 rfl (by decide) (.slice (some ⟨wz.heap.size, 0, none⟩) 0 0) 0 [] rfl hE0 ⟨g, 0, none⟩ q cp (wvL ((S.drop 0).take q)) rfl hl1 hn1 (wvL_one _) b1 b2 b3 ?_
                           intro v1 w1 hown1 hgrow1 _ hat1
                           have hI1 := InsW.app hI0 (RowKit.Below.refl _ _) hown1 hM1 hgrow1 hat1
                           have hE1 := hI1.own.alloc (.cells #[.string (strOf u)] 9)
                           obtain ⟨A1, c1, hv1⟩ := own_shape4 hI1.own
                           rw [hL1] at hv1
                           subst hv1
                           clear hown1 hgrow1 hat1)
                        | (refine step_app4 _ rfl _ _ 27 rfl wz.heap.size 9 i0 (.string ⟨#[]⟩) 1 16 Tryd.underlying27 hi hz0 hz1 hz2 rfl (by decide) (.slice (some ⟨wz.heap.size, 0, none⟩) 0 0) 0 [] rfl hIb.own ⟨g, 0, none⟩ q cp (wvL ((S.drop 0).take q)) rfl hl1 hnb (wvL_one _) b1 b2 hIb.bel.size ?_
                           intro v1 w1 hown1 hgrow1 _ hat1
                           have hI1 := InsW.app hIb (RowKit.Below.refl _ _) hown1 hM1 hgrow1 hat1
                           have hX1 := (hgrow1.cell hXb hneb)
                           obtain ⟨A1, c1, hv1⟩ := own_shape4 hI1.own
                           rw [hL1] at hv1
                           subst hv1
                           clear hown1 hgrow1 hat1)
                        | (refine step_app4 _ rfl _ _ 27 rfl wz.heap.size 9 i0 (.string ⟨#[]⟩) 1 16 Tryd.underlying27 hi hz0 hz1 hz2 rfl (by decide) (.slice (some ⟨wz.heap.size + 1, 0, none⟩) 0 0) 0 [] rfl hIc.own ⟨g, 0, none⟩ q cp (wvL ((S.drop 0).take q)) rfl hl1 hnc (wvL_one _) b1 b2 hIc.bel.size ?_
                           intro v1 w1 hown1 hgrow1 _ hat1
                           have hI1 := InsW.app hIc (RowKit.Below.refl _ _) hown1 hM1 hgrow1 hat1
                           have hX1 := (hgrow1.cell hXc hnec)
                           obtain ⟨A1, c1, hv1⟩ := own_shape4 hI1.own
                           rw [hL1] at hv1
                           subst hv1
                           clear hown1 hgrow1 hat1)
                        | (refine step_app4 _ rfl _ _ 27 rfl wz.heap.size 9 i0 (.string ⟨#[]⟩) 1 16 Tryd.underlying27 hi hz0 hz1 hz2 rfl (by decide) _ _ _ rfl hE1 ⟨w1.heap.size, 0, none⟩ 1 1 (wvL [u]) rfl rfl (cell_one_new _ _ _) (wvL_one _) (by rw [hL1]; exact b4) (by rw [hL1]; exact b5) (by have := hI1.bel.size; simp; omega) ?_
                           intro v2 w2 hown2 hgrow2 _ hat2
                           have hI2 := InsW.app hI1 ((RowKit.Below.refl _ _).alloc (Nat.le_refl _) _) hown2 rfl hgrow2 hat2
                           obtain ⟨A2, c2, hv2⟩ := own_shape4 hI2.own
                           rw [hL2] at hv2
                           subst hv2
                           clear hown2 hgrow2 hat2 hE1)
                        | (refine step_app4 _ rfl _ _ 27 rfl wz.heap.size 9 i0 (.string ⟨#[]⟩) 1 16 Tryd.underlying27 hi hz0 hz1 hz2 rfl (by decide) _ _ _ rfl hI1.own ⟨wz.heap.size + 1, 0, none⟩ 1 1 (wvL [u]) rfl rfl (one_at4 hX1) (wvL_one _) (by rw [hL1]; exact b4) (by rw [hL1]; exact b5) hI1.bel.size ?_
                           intro v2 w2 hown2 hgrow2 _ hat2
                           have hI2 := InsW.app hI1 (RowKit.Below.refl _ _) hown2 rfl hgrow2 hat2
                           obtain ⟨A2, c2, hv2⟩ := own_shape4 hI2.own
                           rw [hL2] at hv2
                           subst hv2
                           clear hown2 hgrow2 hat2)
                        | (refine step_app4 _ rfl _ _ 27 rfl wz.heap.size 9 i0 (.string ⟨#[]⟩) 1 16 Tryd.underlying27 hi hz0 hz1 hz2 rfl (by decide) _ _ _ rfl hI1.own ⟨wz.heap.size, 0, none⟩ 1 1 (wvL [u]) rfl rfl (one_at4 hX1) (wvL_one _) (by rw [hL1]; exact b4) (by rw [hL1]; exact b5) hI1.bel.size ?_
                           intro v2 w2 hown2 hgrow2 _ hat2
                           have hI2 := InsW.app hI1 (RowKit.Below.refl _ _) hown2 rfl hgrow2 hat2
                           obtain ⟨A2, c2, hv2⟩ := own_shape4 hI2.own
                           rw [hL2] at hv2
                           subst hv2
                           clear hown2 hgrow2 hat2)
                        | (refine step_app4 _ rfl _ _ 27 rfl wz.heap.size 9 i0 (.string ⟨#[]⟩) 1 16 Tryd.underlying27 hi hz0 hz1 hz2 rfl (by decide) _ _ _ rfl hI2.own AD (t - q) (cp - q) (wvL ((S.drop q).take (t - q))) rfl hl3 (hn3 _ hI2.src) (wvL_one _) (by rw [List.length_append, hL1]; exact b6) (by rw [List.length_append, hL1]; exact b7) hI2.bel.size ?_
                           intro v3 w3 hown3 hgrow3 _ hat3
                           have hI3 := InsW.app hI2 (RowKit.Below.refl _ _) hown3 hM3 hgrow3 hat3
                           have hfin := hI3.own
                           rw [HLST.out, HLEN.out] at hfin
                           have hne3 : v3 ≠ .slice none 0 0 := fun e => by
                             rcases hfin.2 with ⟨_, h0⟩ | ⟨_, _, _, h1, _⟩
                             · omega
                             · rw [e] at h1; cases h1
                           obtain ⟨g3, c3, hv3⟩ := own_two4 hfin hne3
                           subst hv3
                           clear hown3 hgrow3 hat3))
          all_goals go_simp
          all_goals go_wp2
          all_goals go_ret
          all_goals exact ⟨g3, c3, S.take q ++ [u] ++ S.drop q, by rw [HLEN.out]; rfl, by rw [HLEN.out]; exact own_down0 hfin hlo, HORD.out, mem_put q, by rw [HLEN.out]; exact Nat.le_refl _, hI3.bel⟩
      · have hqz : ¬ (0 : Int) < (q : Int) := by omega
        have HTK : Hid (∀ z ∈ S.take q, ltW z u) := fun z hz => by
          have : q = 0 := by omega
          rw [this] at hz; simp at hz
        go_wp2_with fail
        have HLEN : Hid ((S.take q ++ [u] ++ S.drop q).length = t + 1) := by show _ = _; simp [List.length_take, List.length_drop, HST.out]; omega
        have HLST : Hid ((([] ++ (S.drop 0).take q) ++ [u]) ++ (S.drop q).take (t - q) = S.take q ++ [u] ++ S.drop q) := by
          show _ = _
          rw [List.take_of_length_le (show (S.drop q).length ≤ t - q by rw [List.length_drop, HST.out]; omega)]
          simp
        have HORD : Hid (Ord (S.take q ++ [u] ++ S.drop q)) := ord_put HO.out HD.out HTK.out
        have hB : RowKit.Below wr.heap.size wr wr := RowKit.Below.refl _ _
        have hqt : q ≤ t := hq
        have hown := HOW.out
        have hcap := (ocap4 hown).2
        have hqc : q ≤ cp := by omega
        have hgl := (hown.lt g rfl)
        have hwr := hB.size
        have hS0 : S.length = t := HST.out
        have hownd : wr.drew.ownsRow lo 9 1 (.slice (some ⟨g, 0, none⟩) t cp) t (wvL S) := hown
        have hBd : RowKit.Below wr.heap.size wr wr.drew := ⟨hB.os, hB.tape, hB.output, hB.size, hB.block⟩
        have hI0 : InsW lo wr (wr.drew.alloc (.cells #[] 9)) g t cp S (.slice (some ⟨wr.heap.size, 0, none⟩) 0 0) [] := insW_lit hownd hBd
        have hIb := hI0.mono ((RowKit.Below.refl _ _).alloc (Nat.le_refl _) (.cells #[.string (strOf u)] 9))
        have hIc : InsW lo wr ((wr.drew.alloc (.cells #[.string (strOf u)] 9)).alloc (.cells #[] 9)) g t cp S (.slice (some ⟨wr.heap.size + 1, 0, none⟩) 0 0) [] := by
          have := insW_lit (hownd.alloc (.cells #[.string (strOf u)] 9)) (hBd.alloc hBd.size _)
          rwa [World.size_alloc] at this
        have hXb : ((wr.drew.alloc (.cells #[] 9)).alloc (.cells #[.string (strOf u)] 9)).cell? ⟨wr.heap.size + 1, 0, none⟩ = some (.string (strOf u)) := by
          have := cell_one_new (wr.drew.alloc (.cells #[] 9)) (.string (strOf u)) 9 0 _ rfl
          rw [World.size_alloc] at this
          exact this
        have hXc : ((wr.drew.alloc (.cells #[.string (strOf u)] 9)).alloc (.cells #[] 9)).cell? ⟨wr.heap.size, 0, none⟩ = some (.string (strOf u)) := (World.cell?_alloc_lt _ _ ⟨wr.heap.size, 0, none⟩ (by show wr.heap.size < (wr.drew.alloc _).heap.size; simp)).trans (cell_one_new wr.drew (.string (strOf u)) 9 0 _ rfl)
        have hnb := insW_news hIb.src 0 q (by omega)
        have hnc := insW_news hIc.src 0 q (by omega)
        have hneb : some wr.heap.size.succ ≠ (Value.slice (some ⟨wr.heap.size, 0, none⟩) 0 0).ownBlock := by simp [Value.ownBlock]
        have hnec : some wr.heap.size ≠ (Value.slice (some ⟨wr.heap.size + 1, 0, none⟩) 0 0).ownBlock := by simp [Value.ownBlock]
        have hE0 : (wr.drew.alloc (.cells #[] 9)).ownsRow wr.heap.size 9 1 (.slice (some ⟨wr.heap.size, 0, none⟩) 0 0) 0 [] := hI0.own
        have hM1 : ((S.drop 0).take q).length = q := by simp; omega
        have hL1 : ([] ++ (S.drop 0).take q).length = q := by simp; omega
        have hL2 : (([] ++ (S.drop 0).take q) ++ [u]).length = q + 1 := by rw [List.length_append, hL1]; rfl
        have hl1 : (wvL ((S.drop 0).take q)).length = q * 1 := by simp [wvL]; omega
        have hn1 := insW_news hI0.src 0 q (by omega)
        have b1 : 0 + q ≤ maxLen := by unfold maxLen; omega
        have b2 : (0 + q) * 16 ≤ 140737488355328 := by omega
        have b3 : wr.heap.size ≤ (wr.drew.alloc (.cells #[] 9)).heap.size := by simp
        have b4 : q + 1 ≤ maxLen := by unfold maxLen; omega
        have b5 : (q + 1) * 16 ≤ 140737488355328 := by omega
        have b6 : q + 1 + (t - q) ≤ maxLen := by unfold maxLen; omega
        have b7 : (q + 1 + (t - q)) * 16 ≤ 140737488355328 := by omega
        have hM3 : ((S.drop q).take (t - q)).length = t - q := by simp; omega
        have hl3 : (wvL ((S.drop q).take (t - q))).length = (t - q) * 1 := by simp [wvL]; omega
        obtain ⟨AD, hAD, hn3⟩ : ∃ AD : Addr, (if cp = q then some (⟨g, 0, none⟩ : Addr) else some ⟨g, q, none⟩) = some AD ∧ (∀ W : World, W.ownsRow lo 9 1 (.slice (some ⟨g, 0, none⟩) t cp) t (wvL S) → ∀ j u, (wvL ((S.drop q).take (t - q)))[j]? = some u → W.cell? (AD.add j) = some u) := by
          by_cases e : cp = q
          · refine ⟨⟨g, 0, none⟩, if_pos e, fun W _ j u hu => ?_⟩
            have : t - q = 0 := by omega
            rw [this] at hu; simp [wvL] at hu
          · exact ⟨⟨g, q, none⟩, if_neg e, fun W hW => insW_news hW q (t - q) (by omega)⟩
        go_region_law (first
                      | (refine step_app4 _ rfl _ _ 27 rfl wr.heap.size 9 i0 (.string ⟨#[]⟩) 1 16 Tryd.underlying27 hi hz0 hz1 hz2 rfl (by decide) (.slice (some ⟨wr.heap.size, 0, none⟩) 0 0) 0 [] rfl hE0 ⟨g, 0, none⟩ q cp (wvL ((S.drop 0).take q)) rfl hl1 hn1 (wvL_one _) b1 b2 b3 ?_
                         intro v1 w1 hown1 hgrow1 _ hat1
                         have hI1 := InsW.app hI0 (RowKit.Below.refl _ _) hown1 hM1 hgrow1 hat1
                         have hE1 := hI1.own.alloc (.cells #[.string (strOf u)] 9)
                         obtain ⟨A1, c1, hv1⟩ := own_shape4 hI1.own
                         rw [hL1] at hv1
                         subst hv1
                         clear hown1 hgrow1 hat1)
                      | (refine step_app4 _ rfl _ _ 27 rfl wr.heap.size 9 i0 (.string ⟨#[]⟩) 1 16 Tryd.underlying27 hi hz0 hz1 hz2 rfl (by decide) (.slice (some ⟨wr.heap.size, 0, none⟩) 0 0) 0 [] rfl hIb.own ⟨g, 0, none⟩ q cp (wvL ((S.drop 0).take q)) rfl hl1 hnb (wvL_one _) b1 b2 hIb.bel.size ?_
                         intro v1 w1 hown1 hgrow1 _ hat1
                         have hI1 := InsW.app hIb (RowKit.Below.refl _ _) hown1 hM1 hgrow1 hat1
                         have hX1 := (hgrow1.cell hXb hneb)
                         obtain ⟨A1, c1, hv1⟩ := own_shape4 hI1.own
                         rw [hL1] at hv1
                         subst hv1
                         clear hown1 hgrow1 hat1)
                      | (refine step_app4 _ rfl _ _ 27 rfl wr.heap.size 9 i0 (.string ⟨#[]⟩) 1 16 Tryd.underlying27 hi hz0 hz1 hz2 rfl (by decide) (.slice (some ⟨wr.heap.size + 1, 0, none⟩) 0 0) 0 [] rfl hIc.own ⟨g, 0, none⟩ q cp (wvL ((S.drop 0).take q)) rfl hl1 hnc (wvL_one _) b1 b2 hIc.bel.size ?_
                         intro v1 w1 hown1 hgrow1 _ hat1
                         have hI1 := InsW.app hIc (RowKit.Below.refl _ _) hown1 hM1 hgrow1 hat1
                         have hX1 := (hgrow1.cell hXc hnec)
                         obtain ⟨A1, c1, hv1⟩ := own_shape4 hI1.own
                         rw [hL1] at hv1
                         subst hv1
                         clear hown1 hgrow1 hat1)
                      | (refine step_app4 _ rfl _ _ 27 rfl wr.heap.size 9 i0 (.string ⟨#[]⟩) 1 16 Tryd.underlying27 hi hz0 hz1 hz2 rfl (by decide) _ _ _ rfl hE1 ⟨w1.heap.size, 0, none⟩ 1 1 (wvL [u]) rfl rfl (cell_one_new _ _ _) (wvL_one _) (by rw [hL1]; exact b4) (by rw [hL1]; exact b5) (by have := hI1.bel.size; simp; omega) ?_
                         intro v2 w2 hown2 hgrow2 _ hat2
                         have hI2 := InsW.app hI1 ((RowKit.Below.refl _ _).alloc (Nat.le_refl _) _) hown2 rfl hgrow2 hat2
                         obtain ⟨A2, c2, hv2⟩ := own_shape4 hI2.own
                         rw [hL2] at hv2
                         subst hv2
                         clear hown2 hgrow2 hat2 hE1)
                      | (refine step_app4 _ rfl _ _ 27 rfl wr.heap.size 9 i0 (.string ⟨#[]⟩) 1 16 Tryd.underlying27 hi hz0 hz1 hz2 rfl (by decide) _ _ _ rfl hI1.own ⟨wr.heap.size + 1, 0, none⟩ 1 1 (wvL [u]) rfl rfl (one_at4 hX1) (wvL_one _) (by rw [hL1]; exact b4) (by rw [hL1]; exact b5) hI1.bel.size ?_
                         intro v2 w2 hown2 hgrow2 _ hat2
                         have hI2 := InsW.app hI1 (RowKit.Below.refl _ _) hown2 rfl hgrow2 hat2
                         obtain ⟨A2, c2, hv2⟩ := own_shape4 hI2.own
                         rw [hL2] at hv2
                         subst hv2
                         clear hown2 hgrow2 hat2)
                      | (refine step_app4 _ rfl _ _ 27 rfl wr.heap.size 9 i0 (.string ⟨#[]⟩) 1 16 Tryd.underlying27 hi hz0 hz1 hz2 rfl (by decide) _ _ _ rfl hI1.own ⟨wr.heap.size, 0, none⟩ 1 1 (wvL [u]) rfl rfl (one_at4 hX1) (wvL_one _) (by rw [hL1]; exact b4) (by rw [hL1]; exact b5) hI1.bel.size ?_
                         intro v2 w2 hown2 hgrow2 _ hat2
                         have hI2 := InsW.app hI1 (RowKit.Below.refl _ _) hown2 rfl hgrow2 hat2
                         obtain ⟨A2, c2, hv2⟩ := own_shape4 hI2.own
                         rw [hL2] at hv2
                         subst hv2
                         clear hown2 hgrow2 hat2)
                      | (refine step_app4 _ rfl _ _ 27 rfl wr.heap.size 9 i0 (.string ⟨#[]⟩) 1 16 Tryd.underlying27 hi hz0 hz1 hz2 rfl (by decide) _ _ _ rfl hI2.own AD (t - q) (cp - q) (wvL ((S.drop q).take (t - q))) rfl hl3 (hn3 _ hI2.src) (wvL_one _) (by rw [List.length_append, hL1]; exact b6) (by rw [List.length_append, hL1]; exact b7) hI2.bel.size ?_
                         intro v3 w3 hown3 hgrow3 _ hat3
                         have hI3 := InsW.app hI2 (RowKit.Below.refl _ _) hown3 hM3 hgrow3 hat3
                         have hfin := hI3.own
                         rw [HLST.out, HLEN.out] at hfin
                         have hne3 : v3 ≠ .slice none 0 0 := fun e => by
                           rcases hfin.2 with ⟨_, h0⟩ | ⟨_, _, _, h1, _⟩
                           · omega
                           · rw [e] at h1; cases h1
                         obtain ⟨g3, c3, hv3⟩ := own_two4 hfin hne3
                         subst hv3
                         clear hown3 hgrow3 hat3))
        all_goals go_simp
        all_goals go_wp2
        all_goals go_ret
        all_goals exact ⟨g3, c3, S.take q ++ [u] ++ S.drop q, by rw [HLEN.out]; rfl, by rw [HLEN.out]; exact own_down0 hfin hlo, HORD.out, mem_put q, by rw [HLEN.out]; exact Nat.le_refl _, hI3.bel⟩
end

end Go.Proofs.YtlcjgppclclkoaaDoor
