/-
  Spt.
-/
import Derived.Deep.RegionHeld3
import Derived.Test.YtlcjgppclclkoaaDoorUE
import Derived.Test.YtlcjgppclclkoaaDoorUJ
namespace Go.Proofs.YtlcjgppclclkoaaDoor
set_option maxRecDepth 100000
set_option linter.unusedVariables false
set_option linter.unusedSimpArgs false
set_option linter.unusedSectionVars false

/-! spec.TreeTurned, spec.TreeTimes. -/
section
open Go.RowKit Go.Lib Go.Sort

set_option maxHeartbeats 8000000 in
theorem specTurned_any (A : Option Addr) (n c : Nat) (ss : List ByteArray) (e : ByteArray) (w : World) (h : RS w A n ss) (hn : n ≤ 1048576) (hl : ∀ s ∈ ss, s.size ≤ 1048576) :
    Calls Tryd.prog 37 #[.agg #[.slice A n c, .string e]] w fun e' w' => ∃ R, TurnOk ss e R ∧ TreePost R w e' w' := by
  have hB0 : RowKit.Below w.heap.size w ((w.alloc (.cells #[.slice A n c, .string e] 29)).alloc (.cells #[.slice none 0 0, .string ⟨#[]⟩] 29)) := ((RowKit.Below.refl _ w).alloc (Nat.le_refl _) _).alloc (by simp) _
  have hA0 : Blk ((w.alloc (.cells #[.slice A n c, .string e] 29)).alloc (.cells #[.slice none 0 0, .string ⟨#[]⟩] 29)) w.heap.size 29 #[.slice A n c, .string e] := (Blk.new w _ _).alloc _
  have hA1 : Blk ((w.alloc (.cells #[.slice A n c, .string e] 29)).alloc (.cells #[.slice none 0 0, .string ⟨#[]⟩] 29)) (w.heap.size + 1) 29 #[.slice none 0 0, .string ⟨#[]⟩] := by
    have := Blk.new (w.alloc (.cells #[.slice A n c, .string e] 29)) 29 #[.slice none 0 0, .string ⟨#[]⟩]
    rwa [World.size_alloc] at this
  have hz : ((w.alloc (.cells #[.slice A n c, .string e] 29)).alloc (.cells #[.slice none 0 0, .string ⟨#[]⟩] 29)).heap.size = w.heap.size + 1 + 1 := by simp
  have hF := specIn_any A n c ss e _ (h.below hB0) hn hl
  rw [hz] at hF
  have HF := Lib.hid hF
  have HRS : Hid (∀ W : World, RowKit.Below (w.heap.size + 1 + 1) ((w.alloc (.cells #[.slice A n c, .string e] 29)).alloc (.cells #[.slice none 0 0, .string ⟨#[]⟩] 29)) W → RS W A n ss) := fun W hW => (h.below hB0).below (by rw [hz]; exact hW)
  have HBX : Hid (∀ W : World, RowKit.Below (w.heap.size + 1 + 1) ((w.alloc (.cells #[.slice A n c, .string e] 29)).alloc (.cells #[.slice none 0 0, .string ⟨#[]⟩] 29)) W → Blk W w.heap.size 29 #[.slice A n c, .string e]) := fun W hW => hA0.below hW (by omega)
  have HRES : Hid (∀ W : World, RowKit.Below (w.heap.size + 1 + 1) ((w.alloc (.cells #[.slice A n c, .string e] 29)).alloc (.cells #[.slice none 0 0, .string ⟨#[]⟩] 29)) W → Blk W (w.heap.size + 1) 29 #[.slice none 0 0, .string ⟨#[]⟩]) := fun W hW => hA1.below hW (by omega)
  have HB0 := Lib.hid hB0
  clear h hB0 hl hA0 hA1 hF hz
  go_enter Tryd.func37, Tryd.ntmps37
  go_wp2_with fail
  refine HF.out.mono ?_
  rintro e' w1 ⟨b, rfl, hb, hB⟩
  have hl1 := (HRES.out w1 hB).lt
  cases b with
  | false =>
    have HOK : Hid (TurnOk ss e none) := .inl ⟨fun h => Bool.noConfusion (hb.2 h), rfl⟩
    have HN := Lib.hid (l4None_any w1)
    have HB1 := Lib.hid hB
    have HLE : Hid (w.heap.size + 1 + 1 ≤ w1.heap.size) := hl1
    clear hb hB hl1 HF
    go_wp2_with fail
    refine HN.out.mono ?_
    rintro e' w2 ⟨g', rfl, ho2, hb2⟩
    have hB2 := HB1.out.trans (hb2.mono HLE.out)
    have h0 := HRES.out w2 hB2
    have HO2 := Lib.hid (own_far2 ho2 h0 (by decide) (.slice (some ⟨g', 0, none⟩) 0 0) (.string ⟨#[]⟩))
    have HB2 := Lib.hid ((((HB0.out.trans (hB2.mono (by omega)))).setCell (p := ⟨w.heap.size + 1, 0, none⟩) (by simp; try omega) (.slice (some ⟨g', 0, none⟩) 0 0)).setCell (p := ⟨w.heap.size + 1, 1, none⟩) (by simp; try omega) (.string ⟨#[]⟩))
    have c0 : w2.cell? ⟨w.heap.size + 1, 0, none⟩ = some (.slice none 0 0) := h0.cell 0
    have c1 : w2.cell? ⟨w.heap.size + 1, 1, none⟩ = some (.string ⟨#[]⟩) := h0.cell 1
    have f0 := h0.frozen 0
    have f1 := h0.frozen 1
    have hlt := h0.lt
    have hw2 : w.heap.size ≤ w1.heap.size := by have := HLE.out; omega
    clear h0 hB2 hb2 ho2 HN HB1 HLE
    go_wp2
    refine bodyPost_ret (v := .tuple #[.agg #[.slice (some ⟨g', 0, none⟩) 0 0, .string ⟨#[]⟩], .bool false]) (by simp [results, Tryd.results37, go_sem, hlt, c0, c1]) rfl ⟨none, HOK.out, HB2.out, some ⟨g', 0, none⟩, 0, 0, rfl, own_down0 HO2.out hw2⟩
  | true =>
    obtain ⟨S, u, hT⟩ := hb.1 rfl
    have hTin := hT.2.2.2
    have huS := hT.2.2.1
    have hr := hTin.rd u huS
    have hu24 := hTin.sh u huS
    have hbx := HBX.out w1 hB
    have b0 : w1.cell? ⟨w.heap.size, 0, none⟩ = some (.slice A n c) := hbx.cell 0
    have b1 : w1.cell? ⟨w.heap.size, 1, none⟩ = some (.string e) := hbx.cell 1
    have hBK := l4Back_any u.reverse (by rw [List.length_reverse]; omega) w1
    rw [List.reverse_reverse, strOf_inv, ← strOf_txt, ← hT.2.1] at hBK
    have HBK := Lib.hid hBK
    have HT := Lib.hid hT
    have HU := Lib.hid huS
    have HR := Lib.hid hr
    have HU24 := Lib.hid hu24
    have HB := Lib.hid hB
    have HSN : Hid (S.length = n) := by
      have := (HRS.out w1 hB).1
      rw [hT.1, List.length_map] at this; exact this
    clear hb hbx hBK hT hTin huS hr hu24 hB HF
    go_wp2_with fail
    refine HBK.out.mono ?_
    rintro e' w2 ⟨rfl, hb2⟩
    have hB2 := HB.out.trans (hb2.mono hl1)
    have hl2 : w.heap.size + 1 + 1 ≤ w2.heap.size := (HRES.out w2 hB2).lt
    have hB3 := hB2.alloc hl2 (.cells #[] 9)
    have hE := own_down0 (own_lit4 w2) hl2
    have HSV : Hid ((strOf (invW u)).size ≤ 24) := by show _ ≤ _; rw [strOf_size, invW_length]; exact HU24.out
    clear hb2 hB2 HB HBK b0 b1
    go_wp2
    go_loopw [5, 6] (fun v i wr => ∃ (k g ln cp : Nat) (L : List (List (Fin 4))), k ≤ n ∧ i = .int .i64 (k : Int) ∧ v = .slice (some ⟨g, 0, none⟩) ln cp ∧ ln ≤ k ∧ wr.ownsRow (w.heap.size + 1 + 1) 9 1 v ln (wvL L) ∧ RowKit.Below (w.heap.size + 1 + 1) ((w.alloc (.cells #[.slice A n c, .string e] 29)).alloc (.cells #[.slice none 0 0, .string ⟨#[]⟩] 29)) wr ∧ Hid (Ord L) ∧ Hid (∀ x, x ∈ L ↔ ∃ v ∈ S.take k, x = mulW (invW u) v)) (fun _ i _ => n - (intOf i).toNat)
    case atStart => exact ⟨0, w2.heap.size, 0, 0, [], Nat.zero_le _, rfl, rfl, Nat.le_refl _, hE, hB3, List.Pairwise.nil, fun x => by simp⟩
    case round =>
      clear hE hB3
      obtain ⟨k, g, ln, cp, L, hk, rfl, rfl, hnk, hown, hB, HO, HX⟩ := hrel
      have hbx := HBX.out wr hB
      have b0 : wr.cell? ⟨w.heap.size, 0, none⟩ = some (.slice A n c) := hbx.cell 0
      have hws : w.heap.size + 1 + 1 ≤ wr.heap.size := (HRES.out wr hB).lt
      have hn60 : n ≤ 60 := by rw [← HSN.out]; exact HT.out.2.2.2.len
      by_cases hlt : k < n
      · obtain ⟨ad, y, rfl, hab, hy, hc⟩ := (HRS.out wr hB).at_ hlt
        obtain ⟨v, hv, rfl⟩ : ∃ v, S[k]? = some v ∧ strOf v = y := by
          rw [HT.out.1, List.getElem?_map] at hy
          obtain ⟨v, hv, e⟩ := Option.map_eq_some_iff.1 hy
          exact ⟨v, hv, e⟩
        have hki : (k : Int) < (n : Int) := by omega
        have hvS := List.mem_of_getElem? hv
        have hsv : (strOf v).size ≤ 24 := by rw [strOf_size]; exact HT.out.2.2.2.sh v hvS
        have hsi := HSV.out
        have hca : strOf (invW u) ++ strOf v = txt ((invW u).reverse ++ v.reverse) := by rw [strOf_txt, strOf_txt, txt_app]
        have hre : redS ((invW u).reverse ++ v.reverse) = mulW (invW u) v := by
          unfold redS
          rw [goW_app, rdc_go (invW_rdc HR.out)]; rfl
        have hRE := l4Reduce_any ((invW u).reverse ++ v.reverse) (by rw [List.length_append, List.length_reverse, List.length_reverse, invW_length]; have := HU24.out; have := HT.out.2.2.2.sh v hvS; omega) wr
        rw [hre, ← hca] at hRE
        have HRE := Lib.hid hRE
        have HV := Lib.hid hv
        clear hbx hy hv hvS hca hre hRE
        generalize strOf (invW u) = si at *
        generalize strOf v = sv at *
        go_wp2_with fail
        refine HRE.out.mono ?_
        rintro e' w4 ⟨rfl, hb4⟩
        have hown4 := own_below0 hown hb4
        have hB4 := hB.trans (hb4.mono hws)
        have hws4 := Nat.le_trans hws hb4.size
        have HP := Lib.hid (l4Put_any (w.heap.size + 1 + 1) g cp ln L (mulW (invW u) v) w4 hown4 HO.out (by omega) hws4)
        clear hown hb4 hB HRE hown4 b0
        go_wp2_with fail
        refine HP.out.mono ?_
        rintro e' w5 ⟨g', cp', L', rfl, hown5, ho5, hx5, hl5, hb5⟩
        have hB5 := hB4.trans (hb5.mono hws4)
        have HO5 := Lib.hid ho5
        have HX5 : Hid (∀ x, x ∈ L' ↔ ∃ v ∈ S.take (k + 1), x = mulW (invW u) v) := fun x => by
          rw [hx5, HX.out x, List.take_add_one, HV.out]
          simp only [Option.toList_some, List.mem_append, List.mem_singleton]
          constructor
          · rintro (⟨y, hy, e⟩ | e)
            · exact ⟨y, .inl hy, e⟩
            · exact ⟨v, .inr rfl, e⟩
          · rintro ⟨y, hy | hy, e⟩
            · exact .inl ⟨y, hy, e⟩
            · exact .inr (by rw [e, hy])
        generalize L'.length = n' at *
        clear hx5 ho5 hb5 hB4 HP
        go_wp2
        go_roundw
        case rel => exact ⟨k + 1, g', n', cp', L', by omega, by go_num, rfl, by omega, hown5, hB5, HO5, HX5⟩
        case measure => simp [intOf]; omega
      · obtain rfl : k = n := by omega
        have HX2 : Hid (∀ x, x ∈ L ↔ ∃ v ∈ S, x = mulW (invW u) v) := fun x => by
          have := HX.out x
          rwa [List.take_of_length_le (by rw [HSN.out]; exact Nat.le_refl _)] at this
        have T := tre_turn HT.out.2.2.2 HU.out HO.out HX2.out
        have hlen : ∀ x ∈ L, x.length ≤ 1048576 := fun x hx => by
          obtain ⟨v, hv, rfl⟩ := (HX2.out x).1 hx
          have := goW_len (invW u) v.reverse
          rw [invW_length, List.length_reverse] at this
          have := HU24.out
          have := HT.out.2.2.2.sh v hv
          unfold mulW; omega
        have HD := Lib.hid (l4Done_any (w.heap.size + 1 + 1) g ln cp L (invW u) wr hown (by omega) hlen hws)
        have HQ := Lib.hid (tinq_sml T HO.out ((HX2.out _).2 ⟨[], HT.out.2.2.2.nil, rfl⟩))
        have HB := Lib.hid hB
        clear hbx hown hB T hlen
        go_wp2_with fail
        refine HD.out.mono ?_
        rintro e' w4 ⟨hb4, R, g', n', c', hR, rfl, ho4⟩
        have hOK : TurnOk ss e R := .inr ⟨S, u, L, HT.out, HO.out, HX2.out, by
          rcases hR with ⟨h1, h2⟩ | ⟨h1, h2⟩
          · rw [h2, if_pos (HQ.out.1 h1)]
          · rw [h2, if_neg (fun h => h1 (HQ.out.2 h))]⟩
        have hB4 := HB.out.trans (hb4.mono hws)
        have h0 := HRES.out w4 hB4
        have HO4 := Lib.hid (own_far2 ho4 h0 (by decide) (.slice (some ⟨g', 0, none⟩) n' c') (.string (resE R)))
        have HB4 := Lib.hid (((HB0.out.trans (hB4.mono (by omega))).setCell (p := ⟨w.heap.size + 1, 0, none⟩) (by simp) (.slice (some ⟨g', 0, none⟩) n' c')).setCell (p := ⟨w.heap.size + 1, 1, none⟩) (by simp) (.string (resE R)))
        have c0 : w4.cell? ⟨w.heap.size + 1, 0, none⟩ = some (.slice none 0 0) := h0.cell 0
        have c1 : w4.cell? ⟨w.heap.size + 1, 1, none⟩ = some (.string ⟨#[]⟩) := h0.cell 1
        have f0 := h0.frozen 0
        have f1 := h0.frozen 1
        have hlt := h0.lt
        have HOK := Lib.hid hOK
        clear h0 hB4 hb4 ho4 hR hOK HD HB
        go_wp2
        refine bodyPost_ret (v := .tuple #[.agg #[.slice (some ⟨g', 0, none⟩) n' c', .string (resE R)], .bool R.isSome]) (by simp [results, Tryd.results37, go_sem, hlt, c0, c1]) rfl ⟨R, HOK.out, HB4.out, some ⟨g', 0, none⟩, n', c', rfl, own_down0 HO4.out (by omega)⟩
set_option maxHeartbeats 8000000 in
theorem specTimes_any (A B : Option Addr) (n m c d : Nat) (zs ys : List ByteArray) (s t : ByteArray) (w : World) (h : RS w A n zs) (h' : RS w B m ys) (hn : n ≤ 1048576) (hm : m ≤ 1048576) (hl : ∀ x ∈ zs, x.size ≤ 1048576) (hl' : ∀ x ∈ ys, x.size ≤ 1048576) :
    Calls Tryd.prog 35 #[.agg #[.slice A n c, .string s], .agg #[.slice B m d, .string t]] w fun e' w' => ∃ R, TimesOk zs ys s t R ∧ TreePost R w e' w' := by
  have hz1 : (w.alloc (.cells #[.slice A n c, .string s] 29)).heap.size = w.heap.size + 1 := by simp
  have hz2 : ((w.alloc (.cells #[.slice A n c, .string s] 29)).alloc (.cells #[.slice B m d, .string t] 29)).heap.size = w.heap.size + 1 + 1 := by simp
  have hz : (((w.alloc (.cells #[.slice A n c, .string s] 29)).alloc (.cells #[.slice B m d, .string t] 29)).alloc (.cells #[.slice none 0 0, .string ⟨#[]⟩] 29)).heap.size = w.heap.size + 1 + 1 + 1 := by simp
  have hB0 : RowKit.Below w.heap.size w (((w.alloc (.cells #[.slice A n c, .string s] 29)).alloc (.cells #[.slice B m d, .string t] 29)).alloc (.cells #[.slice none 0 0, .string ⟨#[]⟩] 29)) := (((RowKit.Below.refl _ w).alloc (Nat.le_refl _) _).alloc (by simp) _).alloc (by simp; omega) _
  have hA0 : Blk (((w.alloc (.cells #[.slice A n c, .string s] 29)).alloc (.cells #[.slice B m d, .string t] 29)).alloc (.cells #[.slice none 0 0, .string ⟨#[]⟩] 29)) w.heap.size 29 #[.slice A n c, .string s] := ((Blk.new w _ _).alloc _).alloc _
  have hA1 : Blk (((w.alloc (.cells #[.slice A n c, .string s] 29)).alloc (.cells #[.slice B m d, .string t] 29)).alloc (.cells #[.slice none 0 0, .string ⟨#[]⟩] 29)) (w.heap.size + 1) 29 #[.slice B m d, .string t] := by
    have := Blk.new (w.alloc (.cells #[.slice A n c, .string s] 29)) 29 #[.slice B m d, .string t]
    rw [hz1] at this
    exact this.alloc _
  have hA2 : Blk (((w.alloc (.cells #[.slice A n c, .string s] 29)).alloc (.cells #[.slice B m d, .string t] 29)).alloc (.cells #[.slice none 0 0, .string ⟨#[]⟩] 29)) (w.heap.size + 1 + 1) 29 #[.slice none 0 0, .string ⟨#[]⟩] := by
    have := Blk.new ((w.alloc (.cells #[.slice A n c, .string s] 29)).alloc (.cells #[.slice B m d, .string t] 29)) 29 #[.slice none 0 0, .string ⟨#[]⟩]
    rwa [hz2] at this
  have hF := specIn_any A n c zs s _ (h.below hB0) hn hl
  rw [hz] at hF
  have HF := Lib.hid hF
  have HRS : Hid (∀ W : World, RowKit.Below (w.heap.size + 1 + 1 + 1) (((w.alloc (.cells #[.slice A n c, .string s] 29)).alloc (.cells #[.slice B m d, .string t] 29)).alloc (.cells #[.slice none 0 0, .string ⟨#[]⟩] 29)) W → RS W A n zs ∧ RS W B m ys) := fun W hW => ⟨(h.below hB0).below (by rw [hz]; exact hW), (h'.below hB0).below (by rw [hz]; exact hW)⟩
  have HBX : Hid (∀ W : World, RowKit.Below (w.heap.size + 1 + 1 + 1) (((w.alloc (.cells #[.slice A n c, .string s] 29)).alloc (.cells #[.slice B m d, .string t] 29)).alloc (.cells #[.slice none 0 0, .string ⟨#[]⟩] 29)) W → Blk W w.heap.size 29 #[.slice A n c, .string s] ∧ Blk W (w.heap.size + 1) 29 #[.slice B m d, .string t]) := fun W hW => ⟨hA0.below hW (by omega), hA1.below hW (by omega)⟩
  have HRES : Hid (∀ W : World, RowKit.Below (w.heap.size + 1 + 1 + 1) (((w.alloc (.cells #[.slice A n c, .string s] 29)).alloc (.cells #[.slice B m d, .string t] 29)).alloc (.cells #[.slice none 0 0, .string ⟨#[]⟩] 29)) W → Blk W (w.heap.size + 1 + 1) 29 #[.slice none 0 0, .string ⟨#[]⟩]) := fun W hW => hA2.below hW (by omega)
  have HI : Hid (∀ W : World, RS W B m ys → Calls Tryd.prog 24 #[.agg #[.slice B m d, .string t]] W fun e' w' => ∃ b : Bool, e' = .returned (.bool b) ∧ (b = true ↔ TinQ ys t) ∧ RowKit.Below W.heap.size W w') := fun W hW => specIn_any B m d ys t W hW hm hl'
  have HB0 := Lib.hid hB0
  have HYL := Lib.hid h'.len
  obtain ⟨i0, hi, hi0, hi1, hi2⟩ := info_parts info_strp
  clear h h' hB0 hl hl' hA0 hA1 hA2 hF hz hz1 hz2
  go_enter Tryd.func35, Tryd.ntmps35
  go_wp2_with fail
  refine HF.out.mono ?_
  rintro e' w1 ⟨b, rfl, hb, hB⟩
  have hl1 := (HRES.out w1 hB).lt
  cases b with
  | false =>
    have HOK : Hid (TimesOk zs ys s t none) := .inl ⟨fun h => Bool.noConfusion (hb.2 h.1), rfl⟩
    have HN := Lib.hid (l4None_any w1)
    have HB1 := Lib.hid hB
    have HLE : Hid (w.heap.size + 1 + 1 + 1 ≤ w1.heap.size) := hl1
    clear hb hB hl1 HF
    go_wp2_with fail
    refine HN.out.mono ?_
    rintro e' w2 ⟨g', rfl, ho2, hb2⟩
    have hB2 := HB1.out.trans (hb2.mono HLE.out)
    have h0 := HRES.out w2 hB2
    have HO2 := Lib.hid (own_far2 ho2 h0 (by decide) (.slice (some ⟨g', 0, none⟩) 0 0) (.string ⟨#[]⟩))
    have HB2 := Lib.hid ((((HB0.out.trans (hB2.mono (by omega)))).setCell (p := ⟨w.heap.size + 1 + 1, 0, none⟩) (by simp; try omega) (.slice (some ⟨g', 0, none⟩) 0 0)).setCell (p := ⟨w.heap.size + 1 + 1, 1, none⟩) (by simp; try omega) (.string ⟨#[]⟩))
    have c0 : w2.cell? ⟨w.heap.size + 1 + 1, 0, none⟩ = some (.slice none 0 0) := h0.cell 0
    have c1 : w2.cell? ⟨w.heap.size + 1 + 1, 1, none⟩ = some (.string ⟨#[]⟩) := h0.cell 1
    have f0 := h0.frozen 0
    have f1 := h0.frozen 1
    have hlt := h0.lt
    have hw2 : w.heap.size ≤ w1.heap.size := by have := HLE.out; omega
    clear h0 hB2 hb2 ho2 HN HB1 HLE
    go_wp2
    refine bodyPost_ret (v := .tuple #[.agg #[.slice (some ⟨g', 0, none⟩) 0 0, .string ⟨#[]⟩], .bool false]) (by simp [results, Tryd.results35, go_sem, hlt, c0, c1]) rfl ⟨none, HOK.out, HB2.out, some ⟨g', 0, none⟩, 0, 0, rfl, own_down0 HO2.out hw2⟩
  | true =>
  obtain ⟨S, u, hT⟩ := hb.1 rfl
  have HT := Lib.hid hT
  obtain ⟨hx0, hx1⟩ := HBX.out w1 hB
  have b2 : w1.cell? ⟨w.heap.size + 1, 0, none⟩ = some (.slice B m d) := hx1.cell 0
  have b3 : w1.cell? ⟨w.heap.size + 1, 1, none⟩ = some (.string t) := hx1.cell 1
  have HC := Lib.hid (HI.out w1 (HRS.out w1 hB).2)
  have HB := Lib.hid hB
  clear hb hB hT hx0 hx1 HF HI
  go_wp2_with fail
  refine HC.out.mono ?_
  rintro e' w2 ⟨b', rfl, hb, hbb⟩
  have hB := HB.out.trans (hbb.mono hl1)
  clear b2 b3 hl1 hbb HB HC
  have hl1 := (HRES.out w2 hB).lt
  cases b' with
  | false =>
    have HOK : Hid (TimesOk zs ys s t none) := .inl ⟨fun h => Bool.noConfusion (hb.2 h.2), rfl⟩
    have HN := Lib.hid (l4None_any w2)
    have HB1 := Lib.hid hB
    have HLE : Hid (w.heap.size + 1 + 1 + 1 ≤ w2.heap.size) := hl1
    clear hb hB hl1
    go_wp2_with fail
    refine HN.out.mono ?_
    rintro e' w9 ⟨g', rfl, ho2, hb2⟩
    have hB2 := HB1.out.trans (hb2.mono HLE.out)
    have h0 := HRES.out w9 hB2
    have HO2 := Lib.hid (own_far2 ho2 h0 (by decide) (.slice (some ⟨g', 0, none⟩) 0 0) (.string ⟨#[]⟩))
    have HB2 := Lib.hid ((((HB0.out.trans (hB2.mono (by omega)))).setCell (p := ⟨w.heap.size + 1 + 1, 0, none⟩) (by simp; try omega) (.slice (some ⟨g', 0, none⟩) 0 0)).setCell (p := ⟨w.heap.size + 1 + 1, 1, none⟩) (by simp; try omega) (.string ⟨#[]⟩))
    have c0 : w9.cell? ⟨w.heap.size + 1 + 1, 0, none⟩ = some (.slice none 0 0) := h0.cell 0
    have c1 : w9.cell? ⟨w.heap.size + 1 + 1, 1, none⟩ = some (.string ⟨#[]⟩) := h0.cell 1
    have f0 := h0.frozen 0
    have f1 := h0.frozen 1
    have hlt := h0.lt
    have hw9 : w.heap.size ≤ w2.heap.size := by have := HLE.out; omega
    clear h0 hB2 hb2 ho2 HN HB1 HLE
    go_wp2
    refine bodyPost_ret (v := .tuple #[.agg #[.slice (some ⟨g', 0, none⟩) 0 0, .string ⟨#[]⟩], .bool false]) (by simp [results, Tryd.results35, go_sem, hlt, c0, c1]) rfl ⟨none, HOK.out, HB2.out, some ⟨g', 0, none⟩, 0, 0, rfl, own_down0 HO2.out hw9⟩
  | true =>
  obtain ⟨S', u', hT'⟩ := hb.1 rfl
  have HT' := Lib.hid hT'
  have HSN : Hid (S.length = n) := by
    have := (HRS.out w2 hB).1.1
    rw [HT.out.1, List.length_map] at this; exact this
  have HSM : Hid (S'.length = m) := by
    have := HYL.out
    rw [HT'.out.1, List.length_map] at this; exact this
  have hnpos : 0 < n := by rw [← HSN.out]; exact List.length_pos_of_mem HT.out.2.2.1
  have hn60 : n ≤ 60 := by rw [← HSN.out]; exact HT.out.2.2.2.len
  have hm60 : m ≤ 60 := by rw [← HSM.out]; exact HT'.out.2.2.2.len
  obtain ⟨ad0, hA, hab0, hce0⟩ := (HRS.out w2 hB).1.2.2 hnpos
  subst hA
  obtain ⟨hx0, hx1⟩ := HBX.out w2 hB
  have b0 : w2.cell? ⟨w.heap.size, 0, none⟩ = some (.slice (some ad0) n c) := hx0.cell 0
  have hl0 : w.heap.size < w2.heap.size := by omega
  have hE := own_lit4 w2
  have hnews : ∀ (j : Nat) (x : Value), (wvL S)[j]? = some x → (w2.alloc (.cells #[] 9)).cell? (ad0.add j) = some x := fun j x hx => by
    rw [wvL_sv, ← HT.out.1] at hx
    exact (World.cell?_alloc_lt w2 _ _ (by rw [block_of_add]; exact hab0)).trans (hce0 j x hx)
  have hnl : (wvL S).length = n * 1 := by rw [wvL_len, HSN.out, Nat.mul_one]
  have h63 : 0 + n ≤ maxLen := by unfold maxLen; omega
  have hby : (0 + n) * 16 ≤ 140737488355328 := by omega
  have hbs : w2.heap.size ≤ (w2.alloc (.cells #[] 9)).heap.size := by simp
  have HB := Lib.hid hB
  clear hb hT' hx0 hx1 hB hab0 hce0
  go_wp2_with (at_builtin; refine wpList_append_lies _ rfl _ _ _ rfl w2.heap.size 9 i0 (.string ⟨#[]⟩) 1 16 Tryd.underlying27 hi hi0 hi1 hi2 rfl (by decide) (.slice (some ⟨w2.heap.size, 0, none⟩) 0 0) 0 (wvL []) rfl hE ad0 n c (wvL S) rfl hnl hnews (wvL_one _) hnpos h63 hby hbs (w2.heap.size + 1) (by simp) ?_; intro g7 cp7 w7 hown7 hgrow7 hat7 hlt7)
  have hw7 : RowKit.Below w2.heap.size w2 w7 := ((RowKit.Below.refl w2.heap.size w2).alloc (Nat.le_refl _) _).grown hgrow7 (by simp) (fun k e => by simp [Value.ownBlock] at e; omega)
  have hB7 := HB.out.trans (hw7.mono hl1)
  have ho7 : w7.ownsRow (w.heap.size + 1 + 1 + 1) 9 1 (.slice (some ⟨g7, 0, none⟩) n cp7) n (wvL S) := by
    have h1 := own_down0 hown7 hl1
    rw [Nat.zero_add] at h1
    exact h1
  have hnn : 0 + n = n := Nat.zero_add n
  obtain ⟨hx0, hx1⟩ := HBX.out w7 hB7
  have a0 : w7.cell? ⟨w.heap.size + 1, 0, none⟩ = some (.slice B m d) := hx1.cell 0
  clear hown7 hgrow7 hat7 hw7 hnews hnl h63 hby hbs hE b0 hx0 hx1
  go_wp2
  go_loopw [6, 7] (fun v i wr => ∃ (k g ln cp : Nat) (L : List (List (Fin 4))), k ≤ m ∧ i = .int .i64 (k : Int) ∧ v = .slice (some ⟨g, 0, none⟩) ln cp ∧ ln ≤ n + k ∧ wr.ownsRow (w.heap.size + 1 + 1 + 1) 9 1 v ln (wvL L) ∧ RowKit.Below (w.heap.size + 1 + 1 + 1) (((w.alloc (.cells #[.slice (some ad0) n c, .string s] 29)).alloc (.cells #[.slice B m d, .string t] 29)).alloc (.cells #[.slice none 0 0, .string ⟨#[]⟩] 29)) wr ∧ Hid (Ord L) ∧ Hid (∀ x, x ∈ L ↔ x ∈ S ∨ ∃ v ∈ S'.take k, x = mulW u v)) (fun _ i _ => m - (intOf i).toNat)
  case atStart => exact ⟨0, g7, n, cp7, S, Nat.zero_le _, rfl, rfl, Nat.le_refl _, ho7, hB7, HT.out.2.2.2.ord, fun x => by simp⟩
  case round =>
    clear ho7 hB7 a0 hlt7
    obtain ⟨k, g, ln, cp, L, hk, rfl, rfl, hnk, hown, hB, HO, HX⟩ := hrel
    obtain ⟨hx0, hx1⟩ := HBX.out wr hB
    have b0 : wr.cell? ⟨w.heap.size + 1, 0, none⟩ = some (.slice B m d) := hx1.cell 0
    have hws : w.heap.size + 1 + 1 + 1 ≤ wr.heap.size := (HRES.out wr hB).lt
    by_cases hlt : k < m
    · obtain ⟨ad, y, rfl, hab, hy, hc⟩ := (HRS.out wr hB).2.at_ hlt
      obtain ⟨v, hv, rfl⟩ : ∃ v, S'[k]? = some v ∧ strOf v = y := by
        rw [HT'.out.1, List.getElem?_map] at hy
        obtain ⟨v, hv, e⟩ := Option.map_eq_some_iff.1 hy
        exact ⟨v, hv, e⟩
      have hki : (k : Int) < (m : Int) := by omega
      have hvS := List.mem_of_getElem? hv
      have hsv : (strOf v).size ≤ 24 := by rw [strOf_size]; exact HT'.out.2.2.2.sh v hvS
      have hsi : s.size ≤ 24 := by rw [HT.out.2.1, strOf_size]; exact HT.out.2.2.2.sh u HT.out.2.2.1
      have hsum : s.size + (strOf v).size ≤ 9223372036854775807 := by omega
      have hrU := HT.out.2.2.2.rd u HT.out.2.2.1
      have hca : s ++ strOf v = txt (u.reverse ++ v.reverse) := by rw [HT.out.2.1, strOf_txt, strOf_txt, txt_app]
      have hre : redS (u.reverse ++ v.reverse) = mulW u v := by
        unfold redS
        rw [goW_app, rdc_go hrU]; rfl
      have HRE : Hid (∀ W : World, Calls Tryd.prog 42 #[.string (s ++ strOf v)] W fun e' w' => e' = .returned (.string (strOf (mulW u v))) ∧ RowKit.Below W.heap.size W w') := fun W => by
        have := l4Reduce_any (u.reverse ++ v.reverse) (by rw [List.length_append, List.length_reverse, List.length_reverse]; have := HT.out.2.2.2.sh u HT.out.2.2.1; have := HT'.out.2.2.2.sh v hvS; omega) W
        rwa [hre, ← hca] at this
      have HV := Lib.hid hv
      have c0 : wr.drew.cell? ⟨w.heap.size, 1, none⟩ = some (.string s) := hx0.cell 1
      have c2 : wr.drew.cell? ⟨w.heap.size + 1, 0, none⟩ = some (.slice (some ad) m d) := hx1.cell 0
      have c4 : wr.drew.cell? (ad.add k) = some (.string (strOf v)) := hc
      have HCK : Hid (∀ W : World, RowKit.Below wr.heap.size wr W → W.cell? ⟨w.heap.size, 1, none⟩ = some (.string s) ∧ W.cell? ⟨w.heap.size + 1, 0, none⟩ = some (.slice (some ad) m d) ∧ W.cell? (ad.add k) = some (.string (strOf v))) := fun W hW => by
        have hBW := hB.trans (hW.mono hws)
        obtain ⟨y0, y1⟩ := HBX.out W hBW
        exact ⟨y0.cell 1, y1.cell 0, (hW.cell (p := ad.add k) (by rw [block_of_add]; exact hab)).trans hc⟩
      have HPT : Hid (∀ W : World, RowKit.Below wr.heap.size wr W → Calls Tryd.prog 44 #[.slice (some ⟨g, 0, none⟩) ln cp, .string (strOf (mulW u v))] W fun e' w' => ∃ (g' cp' : Nat) (S' : List (List (Fin 4))), e' = .returned (.slice (some ⟨g', 0, none⟩) S'.length cp') ∧ w'.ownsRow (w.heap.size + 1 + 1 + 1) 9 1 (.slice (some ⟨g', 0, none⟩) S'.length cp') S'.length (wvL S') ∧ Ord S' ∧ (∀ x, x ∈ S' ↔ x ∈ L ∨ x = mulW u v) ∧ S'.length ≤ ln + 1 ∧ RowKit.Below W.heap.size W w') := fun W hW =>
        l4Put_any (w.heap.size + 1 + 1 + 1) g cp ln L (mulW u v) W (own_below0 hown hW) HO.out (by omega) (Nat.le_trans hws hW.size)
      have HB := Lib.hid hB
      clear hx0 hx1 hy hv hvS hca hre hrU hc hown hB
      generalize strOf (mulW u v) = smv at *
      generalize strOf v = sv at *
      go_wp2_with fail
      refine wp_region_held_drew (S := (fun w' => w'.cell? ⟨w.heap.size, 1, none⟩ = some (.string s) ∧ w'.cell? ⟨w.heap.size + 1, 0, none⟩ = some (.slice (some ad) m d) ∧ w'.cell? (ad.add k) = some (.string sv))) (by kernel_rfl) ?_ (fun hHeld => ?_)
      · exact ⟨c0, c2, c4⟩
      refine wpAnyH_take (i := 0) (v := .slice (some ⟨g, 0, none⟩) ln cp) (by rw [List.getElem?_toArray]; rfl) (by kernel_rfl) (by kernel_rfl) (by kernel_rfl) (by exact fun _ _ _ h => h) (Or.inl ⟨by rfl, fun w hSw => by (try dsimp only at hSw); go_simp⟩) (by assumption) ?_
      try simp only [Act.put, List.setIfInBounds_toArray, List.set_cons_zero, List.set_cons_succ]
      refine wpAnyH_take (i := 1) (v := .pointer (some ⟨w.heap.size, 1, none⟩)) (by rw [List.getElem?_toArray]; rfl) (by kernel_rfl) (by kernel_rfl) (by kernel_rfl) (by exact fun _ _ _ h => h) (Or.inl ⟨by rfl, fun w hSw => by (try dsimp only at hSw); go_simp⟩) (by assumption) ?_
      try simp only [Act.put, List.setIfInBounds_toArray, List.set_cons_zero, List.set_cons_succ]
      refine wpAnyH_take (i := 2) (v := .string s) (by rw [List.getElem?_toArray]; rfl) (by kernel_rfl) (by kernel_rfl) (by kernel_rfl) (by exact fun _ _ _ h => h) (Or.inl ⟨by rfl, fun w hSw => by (try dsimp only at hSw); go_simp⟩) (by assumption) ?_
      try simp only [Act.put, List.setIfInBounds_toArray, List.set_cons_zero, List.set_cons_succ]
      refine wpAnyH_take (i := 3) (v := .pointer (some ⟨w.heap.size + 1, 0, none⟩)) (by rw [List.getElem?_toArray]; rfl) (by kernel_rfl) (by kernel_rfl) (by kernel_rfl) (by exact fun _ _ _ h => h) (Or.inl ⟨by rfl, fun w hSw => by (try dsimp only at hSw); go_simp⟩) (by assumption) ?_
      try simp only [Act.put, List.setIfInBounds_toArray, List.set_cons_zero, List.set_cons_succ]
      refine wpAnyH_take (i := 4) (v := .slice (some ad) m d) (by rw [List.getElem?_toArray]; rfl) (by kernel_rfl) (by kernel_rfl) (by kernel_rfl) (by exact fun _ _ _ h => h) (Or.inl ⟨by rfl, fun w hSw => by (try dsimp only at hSw); go_simp⟩) (by assumption) ?_
      try simp only [Act.put, List.setIfInBounds_toArray, List.set_cons_zero, List.set_cons_succ]
      refine wpAnyH_take (i := 5) (v := .int .i64 (k : Int)) (by rw [List.getElem?_toArray]; rfl) (by kernel_rfl) (by kernel_rfl) (by kernel_rfl) (by exact fun _ _ _ h => h) (Or.inl ⟨by rfl, fun w hSw => by (try dsimp only at hSw); go_simp⟩) (by assumption) ?_
      try simp only [Act.put, List.setIfInBounds_toArray, List.set_cons_zero, List.set_cons_succ]
      refine wpAnyH_take (i := 6) (v := .pointer (some (ad.add k))) (by rw [List.getElem?_toArray]; rfl) (by kernel_rfl) (by kernel_rfl) (by kernel_rfl) (by exact fun _ _ _ h => h) (Or.inl ⟨by rfl, fun w hSw => by (try dsimp only at hSw); go_simp⟩) (by assumption) ?_
      try simp only [Act.put, List.setIfInBounds_toArray, List.set_cons_zero, List.set_cons_succ]
      refine wpAnyH_take (i := 7) (v := .string sv) (by rw [List.getElem?_toArray]; rfl) (by kernel_rfl) (by kernel_rfl) (by kernel_rfl) (by exact fun _ _ _ h => h) (Or.inl ⟨by rfl, fun w hSw => by (try dsimp only at hSw); go_simp⟩) (by assumption) ?_
      try simp only [Act.put, List.setIfInBounds_toArray, List.set_cons_zero, List.set_cons_succ]
      refine wpAnyH_take (i := 8) (v := .string (s ++ sv)) (by rw [List.getElem?_toArray]; rfl) (by kernel_rfl) (by kernel_rfl) (by kernel_rfl) (by exact fun _ _ _ h => h) (Or.inl ⟨by rfl, fun w hSw => by (try dsimp only at hSw); go_simp⟩) (by assumption) ?_
      try simp only [Act.put, List.setIfInBounds_toArray, List.set_cons_zero, List.set_cons_succ]
      refine wpAnyH_ready (rs := [9]) (by kernel_rfl) (by simp) ?_
      refine AllReadyH.cons (o := _) (by rw [List.getElem?_toArray]; rfl) (fun K hK => ?_) AllReadyH.nil
      go_simp
      refine (HRE.out _).mono ?_
      rintro e' w4 ⟨rfl, hb4⟩
      have hb4 : RowKit.Below wr.heap.size wr w4 := ⟨hb4.os, hb4.tape, hb4.output, hb4.size, fun k hk => hb4.block k hk⟩
      obtain ⟨c0, c2, c4⟩ := HCK.out w4 hb4
      refine hK.out _ _ ?_ (fun hHeld9 => ?_)
      · exact ⟨c0, c2, c4⟩
      clear hK K
      try simp only [Act.put, List.setIfInBounds_toArray, List.set_cons_zero, List.set_cons_succ]
      refine wpAnyH_ready (rs := [10]) (by kernel_rfl) (by simp) ?_
      refine AllReadyH.cons (o := _) (by rw [List.getElem?_toArray]; rfl) (fun K hK => ?_) AllReadyH.nil
      go_simp
      refine (HPT.out _ hb4).mono ?_
      rintro e' w5 ⟨g', cp', L', rfl, hown5, ho5, hx5, hl5, hb5⟩
      have hb5 := hb4.trans (hb5.mono hb4.size)
      obtain ⟨c0, c2, c4⟩ := HCK.out w5 hb5
      refine hK.out _ _ ?_ (fun hHeld10 => ?_)
      · exact ⟨c0, c2, c4⟩
      clear hK K
      try simp only [Act.put, List.setIfInBounds_toArray, List.set_cons_zero, List.set_cons_succ]
      refine wpAnyH_take (i := 11) (v := .slice (some ⟨g', 0, none⟩) L'.length cp') (by rw [List.getElem?_toArray]; rfl) (by kernel_rfl) (by kernel_rfl) (by kernel_rfl) (by exact fun _ _ _ h => h) (Or.inl ⟨by rfl, fun w hSw => by (try dsimp only at hSw); go_simp⟩) (by assumption) ?_
      try simp only [Act.put, List.setIfInBounds_toArray, List.set_cons_zero, List.set_cons_succ]
      refine wpAnyH_done (by kernel_rfl) ?_ _
      clear hHeld
      have hB5 := HB.out.trans (hb5.mono hws)
      have HO5 := Lib.hid ho5
      have HX5 : Hid (∀ x, x ∈ L' ↔ x ∈ S ∨ ∃ v ∈ S'.take (k + 1), x = mulW u v) := fun x => by
        rw [hx5, HX.out x, List.take_add_one, HV.out]
        simp only [Option.toList_some, List.mem_append, List.mem_singleton]
        constructor
        · rintro ((h | ⟨y, hy, e⟩) | e)
          · exact .inl h
          · exact .inr ⟨y, .inl hy, e⟩
          · exact .inr ⟨v, .inr rfl, e⟩
        · rintro (h | ⟨y, hy | hy, e⟩)
          · exact .inl (.inl h)
          · exact .inl (.inr ⟨y, hy, e⟩)
          · exact .inr (by rw [e, hy])
      generalize L'.length = n' at *
      clear hx5 ho5 hb5 hb4 c0 c2 c4 b0 HPT HCK HRE HB
      go_wp2
      go_roundw
      case rel => exact ⟨k + 1, g', n', cp', L', by omega, by go_num, rfl, by omega, hown5, hB5, HO5, HX5⟩
      case measure => simp [intOf]; omega
    · obtain rfl : k = m := by omega
      have HX2 : Hid (∀ x, x ∈ L ↔ x ∈ S ∨ ∃ v ∈ S', x = mulW u v) := fun x => by
        have := HX.out x
        rwa [List.take_of_length_le (by rw [HSM.out]; exact Nat.le_refl _)] at this
      have T := tre_mul HT.out.2.2.2 HT.out.2.2.1 HT'.out.2.2.2 HO.out HX2.out
      have hrU := HT.out.2.2.2.rd u HT.out.2.2.1
      have hsi : s.size ≤ 24 := by rw [HT.out.2.1, strOf_size]; exact HT.out.2.2.2.sh u HT.out.2.2.1
      have hti : t.size ≤ 24 := by rw [HT'.out.2.1, strOf_size]; exact HT'.out.2.2.2.sh u' HT'.out.2.2.1
      have hca : s ++ t = txt (u.reverse ++ u'.reverse) := by rw [HT.out.2.1, HT'.out.2.1, strOf_txt, strOf_txt, txt_app]
      have hre : redS (u.reverse ++ u'.reverse) = mulW u u' := by
        unfold redS
        rw [goW_app, rdc_go hrU]; rfl
      have hRE := l4Reduce_any (u.reverse ++ u'.reverse) (by rw [List.length_append, List.length_reverse, List.length_reverse]; have := HT.out.2.2.2.sh u HT.out.2.2.1; have := HT'.out.2.2.2.sh u' HT'.out.2.2.1; omega) wr
      rw [hre, ← hca] at hRE
      have HRE := Lib.hid hRE
      have hlen : ∀ x ∈ L, x.length ≤ 1048576 := fun x hx => by
        rcases (HX2.out x).1 hx with h1 | ⟨v, hv, rfl⟩
        · have := HT.out.2.2.2.sh x h1; omega
        · have := goW_len u v.reverse
          rw [List.length_reverse] at this
          have := HT.out.2.2.2.sh u HT.out.2.2.1
          have := HT'.out.2.2.2.sh v hv
          unfold mulW; omega
      have HD : Hid (∀ W : World, RowKit.Below wr.heap.size wr W → Calls Tryd.prog 45 #[.slice (some ⟨g, 0, none⟩) ln cp, .string (strOf (mulW u u'))] W fun e' w' => RowKit.Below W.heap.size W w' ∧ ∃ (R : Option (List (List (Fin 4)) × List (Fin 4))) (g' n' c' : Nat), okB (TinQ (L.map strOf) (strOf (mulW u u'))) (some (L, mulW u u')) R ∧ e' = .returned (.tuple #[.agg #[.slice (some ⟨g', 0, none⟩) n' c', .string (resE R)], .bool R.isSome]) ∧ w'.ownsRow (w.heap.size + 1 + 1 + 1) 9 1 (.slice (some ⟨g', 0, none⟩) n' c') n' (svL (resL R))) := fun W hW =>
        l4Done_any (w.heap.size + 1 + 1 + 1) g ln cp L (mulW u u') W (own_below0 hown hW) (by omega) hlen (Nat.le_trans hws hW.size)
      have HQ := Lib.hid (tinq_sml T HO.out ((HX2.out _).2 (.inr ⟨u', HT'.out.2.2.1, rfl⟩)))
      have t1 : wr.cell? ⟨w.heap.size, 1, none⟩ = some (.string s) := hx0.cell 1
      have u1 : wr.cell? ⟨w.heap.size + 1, 1, none⟩ = some (.string t) := hx1.cell 1
      have HB := Lib.hid hB
      clear hx0 hx1 hown hB T hlen hca hre hRE hrU
      go_wp2_with fail
      refine HRE.out.mono ?_
      rintro e' w4 ⟨rfl, hb4⟩
      have HC4 := Lib.hid (HD.out w4 hb4)
      have hB4 := HB.out.trans (hb4.mono hws)
      have hws4 := Nat.le_trans hws hb4.size
      clear hb4 HRE HD HB b0 t1 u1
      go_wp2_with fail
      refine HC4.out.mono ?_
      rintro e' w5 ⟨hb5, R, g', n', c', hR, rfl, ho5⟩
      have hOK : TimesOk zs ys s t R := .inr ⟨S, u, S', u', L, HT.out, HT'.out, HO.out, HX2.out, by
        rcases hR with ⟨h1, h2⟩ | ⟨h1, h2⟩
        · rw [h2, if_pos (HQ.out.1 h1)]
        · rw [h2, if_neg (fun h => h1 (HQ.out.2 h))]⟩
      have hB5 := hB4.trans (hb5.mono hws4)
      have h0 := HRES.out w5 hB5
      have HO5 := Lib.hid (own_far2 ho5 h0 (by decide) (.slice (some ⟨g', 0, none⟩) n' c') (.string (resE R)))
      have HB5 := Lib.hid (((HB0.out.trans (hB5.mono (by omega))).setCell (p := ⟨w.heap.size + 1 + 1, 0, none⟩) (by simp; omega) (.slice (some ⟨g', 0, none⟩) n' c')).setCell (p := ⟨w.heap.size + 1 + 1, 1, none⟩) (by simp; omega) (.string (resE R)))
      have c0 : w5.cell? ⟨w.heap.size + 1 + 1, 0, none⟩ = some (.slice none 0 0) := h0.cell 0
      have c1 : w5.cell? ⟨w.heap.size + 1 + 1, 1, none⟩ = some (.string ⟨#[]⟩) := h0.cell 1
      have f0 := h0.frozen 0
      have f1 := h0.frozen 1
      have hlt := h0.lt
      have HOK := Lib.hid hOK
      clear h0 hB5 hb5 ho5 hR hOK hB4 HC4
      go_wp2
      refine bodyPost_ret (v := .tuple #[.agg #[.slice (some ⟨g', 0, none⟩) n' c', .string (resE R)], .bool R.isSome]) (by simp [results, Tryd.results35, go_sem, hlt, c0, c1]) rfl ⟨R, HOK.out, HB5.out, some ⟨g', 0, none⟩, n', c', rfl, own_down0 HO5.out (by omega)⟩
end

end Go.Proofs.YtlcjgppclclkoaaDoor
