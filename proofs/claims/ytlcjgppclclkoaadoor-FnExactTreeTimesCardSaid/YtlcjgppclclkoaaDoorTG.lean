/-
  Gf.
-/
import Derived.Test.YtlcjgppclclkoaaDoorTF
namespace Go.Proofs.YtlcjgppclclkoaaDoor
set_option maxRecDepth 100000
set_option linter.unusedVariables false
set_option linter.unusedSimpArgs false
set_option linter.unusedSectionVars false

/-! (*impl.tree).graft, impl.sprout. -/
section
open Go.RowKit

/-- a word's text -/
def txt (ws : List (Fin 4)) : ByteArray := ⟨(ws.map ltB).toArray⟩
theorem txt_list (ws : List (Fin 4)) : (txt ws).data.toList = ws.map ltB := by unfold txt; simp
theorem strOf_txt (u : List (Fin 4)) : strOf u = txt u.reverse := rfl
def txs (xs : List (List (Fin 4))) : List Value := xs.map (fun x => Value.string (txt x))
theorem txs_get {xs : List (List (Fin 4))} {k : Nat} {u : Value} (h : (txs xs)[k]? = some u) : ∃ x, xs[k]? = some x ∧ u = .string (txt x) := by
  unfold txs at h
  rw [List.getElem?_map] at h
  cases e : xs[k]? with
  | none => rw [e] at h; cases h
  | some x => rw [e] at h; injection h with h; exact ⟨x, rfl, h.symm⟩
/-- the nodes of all beginnings of some words, from a node on -/
def Begs (u : List (Fin 4)) (xs : List (List (Fin 4))) (x : List (Fin 4)) : Prop := ∃ ws ∈ xs, ∃ t, t ≤ ws.length ∧ x = goW u (ws.take t)
theorem begs_snoc {u : List (Fin 4)} {xs : List (List (Fin 4))} {ws x : List (Fin 4)} : Begs u (xs ++ [ws]) x ↔ Begs u xs x ∨ ∃ t, t ≤ ws.length ∧ x = goW u (ws.take t) := by
  unfold Begs
  constructor
  · rintro ⟨v, hv, h⟩
    rcases List.mem_append.1 hv with h' | h'
    · exact .inl ⟨v, h', h⟩
    · rw [List.mem_singleton.1 h'] at h; exact .inr h
  · rintro (⟨v, hv, h⟩ | h)
    · exact ⟨v, List.mem_append_left _ hv, h⟩
    · exact ⟨ws, by simp, h⟩

set_option maxHeartbeats 2000000 in
theorem graft_any (base T : Nat) (A0 : Value) (N : List (List (Fin 4))) (m : List (Fin 4) → Nat) (u : List (Fin 4)) (xs : List (List (Fin 4))) (es : List (Fin 4)) (A : Option Addr) (n cp : Nat) (w : World)
    (h : Gr w base N m) (hu : u ∈ N) (hb : base ≤ w.heap.size) (hxs : Reads w base 1 A n (txs xs)) (hl : ∀ x ∈ xs, x.length ≤ 1048576) (hle : es.length ≤ 1048576) (hn : n ≤ 1048576)
    (hT : Blk w T 54 #[A0, .pointer (some ⟨m u, 0, none⟩)]) (hTb : base ≤ T) :
    Calls Tryd.prog 63 #[.pointer (some ⟨T, 0, none⟩), .slice A n cp, .string (txt es)] w fun e w' => ∃ N' m', e = .returned (.tuple #[]) ∧ Gr w' base N' m' ∧ (∀ x ∈ N, x ∈ N' ∧ m' x = m x) ∧ Blk w' T 54 #[A0, .pointer (some ⟨m' (goW u es), 0, none⟩)] ∧ goW u es ∈ N' ∧ Below base w w' ∧ ∀ x, x ∈ N' ↔ x ∈ N ∨ Begs u (xs ++ [es]) x := by
  have HTN : Hid (∀ x ∈ N, m x ≠ T) := fun x hx => Blk.ne_ (show Blk w (m x) _ _ from h.blk x hx) hT (by decide)
  have HLO := Lib.hid h.lo
  have HL := Lib.hid hl
  have hxn : xs.length = n := by have := hxs.1; simpa [txs] using this
  have HXN := Lib.hid hxn
  have HT := Lib.hid hT
  have HAL : Hid (∀ (N' : List (List (Fin 4))) (m' : List (Fin 4) → Nat) (wr : World) (ws : List (Fin 4)), More w wr base N N' m m' → ws.length ≤ 1048576 → Calls Tryd.prog 80 #[.pointer (some ⟨m u, 0, none⟩), .string (txt ws)] wr fun e w' => ∃ N'' m'', e = .returned (.pointer (some ⟨m'' (goW u ws), 0, none⟩)) ∧ More w w' base N N'' m m'' ∧ ∀ x, x ∈ N'' ↔ x ∈ N' ∨ ∃ t, t ≤ ws.length ∧ x = goW u (ws.take t)) := by
    intro N' m' wr ws hM hw
    have := along_any base N' m' u ws (txt ws) (txt_list ws) hw wr hM.gr (hM.old u hu).1 (by have := hM.kp.size; omega)
    rw [(hM.old u hu).2] at this
    exact this.mono fun e w' ⟨N2, m2, he, h2, h3⟩ => ⟨N2, m2, he, hM.trans h2, h3⟩
  have hM0 := More.refl h
  have hbw : base ≤ w.heap.size := hb
  have hTl := hT.lt
  clear h hT hl
  go_enter Tryd.func63, Tryd.ntmps63
  go_wp2
  go_loopw [10] (fun i wr => ∃ (j : Nat) (N' : List (List (Fin 4))) (m' : List (Fin 4) → Nat), j ≤ n ∧ i = .int .i64 (j : Int) ∧ More w wr base N N' m m' ∧ Hid (∀ x, x ∈ N' ↔ x ∈ N ∨ Begs u (xs.take j) x)) (fun i _ => n - (intOf i).toNat)
  case atStart =>
    refine ⟨0, N, m, Nat.zero_le _, rfl, hM0, fun x => ⟨.inl, fun e => ?_⟩⟩
    rcases e with e | ⟨ws, hws, _⟩
    · exact e
    · simp at hws
  case round =>
    obtain ⟨j, N', m', hj, rfl, hM, HX⟩ := hrel
    clear hM0
    have hT1 : Blk wr T 54 #[A0, .pointer (some ⟨m u, 0, none⟩)] := (hM.kp.block T hTl HTN.out).trans HT.out
    by_cases hlt : j < n
    · obtain ⟨ad, v, rfl, hab, hv, hc⟩ := hxs.at_ hlt
      obtain ⟨ws, hws, rfl⟩ := txs_get hv
      have hc' := ((hM.below HLO.out hbw).cell (p := ad.add j) (by rw [block_of_add]; exact hab)).trans hc
      have hal := HAL.out N' m' wr ws hM (HL.out ws (List.mem_of_getElem? hws))
      have hcT := hT1.cell 1
      simp only [List.getElem?_toArray] at hcT
      have hjl : (j : Int) < (n : Int) := by omega
      have HWS := Lib.hid hws
      clear hc hv hws hM
      generalize txt ws = tw at *
      generalize m u = mu at *
      go_wp2_with fail
      refine hal.mono ?_
      rintro e V1 ⟨N2, m2, rfl, hM2, hX2⟩
      have HX3 : Hid (∀ x, x ∈ N2 ↔ x ∈ N ∨ Begs u (xs.take (j + 1)) x) := fun x => by
        rw [hX2 x, HX.out x, List.take_add_one, HWS.out, Option.toList_some, begs_snoc, or_assoc]
      clear hX2 hal
      go_wp2
      go_roundw
      case rel => exact ⟨j + 1, N2, m2, by omega, by go_num, hM2, HX3⟩
      case measure => simp [intOf]; omega
    · obtain rfl : j = n := by omega
      have HX4 : Hid (∀ x, x ∈ N' ↔ x ∈ N ∨ Begs u xs x) := fun x => by
        have := HX.out x
        rwa [List.take_of_length_le (by have := HXN.out; omega)] at this
      have hal := HAL.out N' m' wr es hM hle
      have hcT := hT1.cell 1
      simp only [List.getElem?_toArray] at hcT
      clear hM HX
      generalize txt es = te at *
      generalize m u = mu at *
      go_wp2_with fail
      refine hal.mono ?_
      rintro e V1 ⟨N2, m2, rfl, hM2, hX2⟩
      have hT2 : Blk V1 T 54 #[A0, .pointer (some ⟨mu, 0, none⟩)] := (hM2.kp.block T hTl HTN.out).trans HT.out
      have hcT2 := hT2.cell 1
      have hfT2 := hT2.frozen 1
      simp only [List.getElem?_toArray] at hcT2
      have HT3 := Lib.hid (hT2.set_ 1 (.pointer (some ⟨m2 (goW u es), 0, none⟩)))
      have HG : Hid (Gr (V1.setCell ⟨T, 1, none⟩ (.pointer (some ⟨m2 (goW u es), 0, none⟩))) base N2 m2) := hM2.gr.same fun x hx => Below.heap_setCell _ _ _ _ (Blk.ne_ (show Blk V1 (m2 x) _ _ from hM2.gr.blk x hx) hT2 (by decide))
      have HB2 : Hid (Below base w (V1.setCell ⟨T, 1, none⟩ (.pointer (some ⟨m2 (goW u es), 0, none⟩)))) := (hM2.below HLO.out hbw).setCell (p := ⟨T, 1, none⟩) hTb _
      have HO := Lib.hid hM2.old
      clear hal hT2 hM2
      go_wp2
      go_end0
      refine ⟨N2, m2, rfl, HG.out, HO.out, HT3.out, (hX2 _).2 (.inr ⟨es.length, Nat.le_refl _, by rw [List.take_length]⟩), HB2.out, fun x => ?_⟩
      rw [hX2 x, HX4.out x, begs_snoc, or_assoc]
theorem Gr.down {w : World} {B B' : Nat} {N : List (List (Fin 4))} {m : List (Fin 4) → Nat} (h : Gr w B N m) (hB : B' ≤ B) : Gr w B' N m := ⟨h.tre, fun u hu => Nat.le_trans hB (h.lo u hu), h.blk, h.inj⟩
set_option maxHeartbeats 2000000 in
theorem sprout_any (xs : List (List (Fin 4))) (es : List (Fin 4)) (A : Option Addr) (n cp : Nat) (w : World)
    (hxs : Reads w w.heap.size 1 A n (txs xs)) (hl : ∀ x ∈ xs, x.length ≤ 1048576) (hle : es.length ≤ 1048576) (hn : n ≤ 1048576) :
    Calls Tryd.prog 47 #[.slice A n cp, .string (txt es)] w fun e w' => ∃ N' m', e = .returned (.agg #[.pointer (some ⟨m' [], 0, none⟩), .pointer (some ⟨m' (goW [] es), 0, none⟩)]) ∧ Gr w' w.heap.size N' m' ∧ goW [] es ∈ N' ∧ Below w.heap.size w w' ∧ ∀ x, x ∈ N' ↔ Begs [] (xs ++ [es]) x := by
  have HG : ∀ W : World, Below w.heap.size w W → ∀ M T : Nat, w.heap.size + 1 ≤ M → w.heap.size + 1 ≤ T → w.heap.size + 1 ≤ W.heap.size → Blk W M 79 (nd4 fun _ => .pointer none) → Blk W T 54 #[.pointer (some ⟨M, 0, none⟩), .pointer (some ⟨M, 0, none⟩)] → Calls Tryd.prog 63 #[.pointer (some ⟨T, 0, none⟩), .slice A n cp, .string (txt es)] W fun e w' => ∃ N' m', e = .returned (.tuple #[]) ∧ Gr w' (w.heap.size + 1) N' m' ∧ Blk w' T 54 #[.pointer (some ⟨m' [], 0, none⟩), .pointer (some ⟨m' (goW [] es), 0, none⟩)] ∧ goW [] es ∈ N' ∧ Below (w.heap.size + 1) W w' ∧ Hid (∀ x, x ∈ N' ↔ Begs [] (xs ++ [es]) x) := by
    intro W hB M T hM hT hW hb1 hb2
    have hg : Gr W (w.heap.size + 1) [[]] (fun _ => M) := by
      refine ⟨tre_one, fun u _ => hM, fun u hu => ?_, fun u hu v hv _ => by rw [List.mem_singleton.1 hu, List.mem_singleton.1 hv]⟩
      refine (show W.heap[M]? = _ from hb1).trans ?_
      have : ptrTo (fun _ => M) [[]] u = fun _ => .pointer none := by
        funext c
        rw [List.mem_singleton.1 hu]
        unfold ptrTo
        rw [if_neg]
        simp [stp]
      rw [this]
    refine (graft_any (w.heap.size + 1) T _ [[]] (fun _ => M) [] xs es A n cp W hg (by simp) hW ((hxs.below hB).more (by omega)) hl hle hn hb2 hT).mono ?_
    rintro e w' ⟨N', m', rfl, h1, h2, h3, h4, h5, h6⟩
    have h0 := (h2 [] (by simp)).2
    refine ⟨N', m', rfl, h1, ?_, h4, h5, fun x => ?_⟩
    · rw [h0]; exact h3
    · rw [h6 x]
      constructor
      · rintro (h | h)
        · rw [List.mem_singleton.1 h]
          exact ⟨es, by simp, 0, Nat.zero_le _, rfl⟩
        · exact h
      · exact .inr
  have hB0 : Below w.heap.size w (((w.alloc (.cells #[.pointer none, .pointer none] 54)).alloc (.cells (nd4 fun _ => .pointer none) 79)).alloc (.cells #[.pointer (some ⟨w.heap.size + 1, 0, none⟩), .pointer (some ⟨w.heap.size + 1, 0, none⟩)] 54)) := (((Below.refl _ w).alloc (Nat.le_refl _) _).alloc (by simp) _).alloc (by simp; omega) _
  have hz1 : (w.alloc (.cells #[.pointer none, .pointer none] 54)).heap.size = w.heap.size + 1 := by simp
  have hz2 : ((w.alloc (.cells #[.pointer none, .pointer none] 54)).alloc (.cells (nd4 fun _ => .pointer none) 79)).heap.size = w.heap.size + 2 := by simp
  have hBR : Blk (((w.alloc (.cells #[.pointer none, .pointer none] 54)).alloc (.cells (nd4 fun _ => .pointer none) 79)).alloc (.cells #[.pointer (some ⟨w.heap.size + 1, 0, none⟩), .pointer (some ⟨w.heap.size + 1, 0, none⟩)] 54)) w.heap.size 54 #[.pointer none, .pointer none] := ((Blk.new w _ _).alloc _).alloc _
  have hBM : Blk (((w.alloc (.cells #[.pointer none, .pointer none] 54)).alloc (.cells (nd4 fun _ => .pointer none) 79)).alloc (.cells #[.pointer (some ⟨w.heap.size + 1, 0, none⟩), .pointer (some ⟨w.heap.size + 1, 0, none⟩)] 54)) (w.heap.size + 1) 79 (nd4 fun _ => .pointer none) := by
    have := Blk.new (w.alloc (.cells #[.pointer none, .pointer none] 54)) 79 (nd4 fun _ => .pointer none)
    rw [hz1] at this
    exact this.alloc _
  have hBT : Blk (((w.alloc (.cells #[.pointer none, .pointer none] 54)).alloc (.cells (nd4 fun _ => .pointer none) 79)).alloc (.cells #[.pointer (some ⟨w.heap.size + 1, 0, none⟩), .pointer (some ⟨w.heap.size + 1, 0, none⟩)] 54)) (w.heap.size + 2) 54 #[.pointer (some ⟨w.heap.size + 1, 0, none⟩), .pointer (some ⟨w.heap.size + 1, 0, none⟩)] := by
    have := Blk.new ((w.alloc (.cells #[.pointer none, .pointer none] 54)).alloc (.cells (nd4 fun _ => .pointer none) 79)) 54 #[.pointer (some ⟨w.heap.size + 1, 0, none⟩), .pointer (some ⟨w.heap.size + 1, 0, none⟩)]
    rw [hz2] at this
    exact this
  have hCG := HG _ hB0 _ _ (Nat.le_refl _) (Nat.le_succ _) (by simp) hBM hBT
  have HB0 := Lib.hid hB0
  have HBR := Lib.hid hBR
  clear hxs hl hle hn HG hz1 hz2 hBM hBT hB0 hBR
  generalize txt es = te at *
  go_enter Tryd.func47, Tryd.ntmps47
  go_wp2_with fail
  refine hCG.mono ?_
  rintro e V ⟨N', m', rfl, hg, hT, hin, hbl, HX⟩
  have hR := HBR.out.below hbl (Nat.lt_succ_self _)
  have hB1 := HB0.out.trans (hbl.mono (Nat.le_succ _))
  have hcT0 := hT.cell 0
  have hcT1 := hT.cell 1
  have hcR0 := hR.cell 0
  have hcR1 := hR.cell 1
  have hfR0 := hR.frozen 0
  have hfR1 := hR.frozen 1
  simp only [List.getElem?_toArray] at hcT0 hcT1 hcR0 hcR1
  have HGf : Hid (Gr ((V.setCell ⟨w.heap.size, 0, none⟩ (.pointer (some ⟨m' [], 0, none⟩))).setCell ⟨w.heap.size, 1, none⟩ (.pointer (some ⟨m' (goW [] es), 0, none⟩))) w.heap.size N' m') := (hg.same fun u hu => by
    have h1 := hg.lo u hu
    rw [Below.heap_setCell _ _ _ _ (fun e => by have e' : m' u = w.heap.size := e; omega), Below.heap_setCell _ _ _ _ (fun e => by have e' : m' u = w.heap.size := e; omega)]).down (Nat.le_succ _)
  have HBf : Hid (Below w.heap.size w ((V.setCell ⟨w.heap.size, 0, none⟩ (.pointer (some ⟨m' [], 0, none⟩))).setCell ⟨w.heap.size, 1, none⟩ (.pointer (some ⟨m' (goW [] es), 0, none⟩)))) := (hB1.setCell (p := ⟨w.heap.size, 0, none⟩) (Nat.le_refl _) _).setCell (p := ⟨w.heap.size, 1, none⟩) (Nat.le_refl _) _
  have hlt := hR.lt
  clear hg hbl hB1
  go_wp2
  refine bodyPost_ret (v := .agg #[.pointer (some ⟨m' [], 0, none⟩), .pointer (some ⟨m' (goW [] es), 0, none⟩)]) (by simp [results, Tryd.results47, go_sem, hlt, hcR0, hcR1]) rfl ⟨N', m', rfl, HGf.out, hin, HBf.out, HX.out⟩
end

end Go.Proofs.YtlcjgppclclkoaaDoor
