/-
  Words of pairs, on both sides.
-/
import Derived.Test.YtdljndpobklkjaaDoorPr6
import Derived.Lib.ConvBytes
namespace Go.Proofs.YtdljndpobklkjaaDoor
set_option maxRecDepth 100000
set_option linter.unusedVariables false
open Go.RowKit

theorem u8_int (x : UInt8) : (x = 112 ↔ (x.toNat : Int) = 112) ∧ (x = 113 ↔ (x.toNat : Int) = 113) := by
  have key : ∀ n : Nat, n < 256 → (x = UInt8.ofNat n ↔ (x.toNat : Int) = (n : Int)) := fun n hn => by
    have h1 : (UInt8.ofNat n).toNat = n := by simp; omega
    constructor
    · intro h; rw [h, h1]
    · intro h; exact UInt8.toNat_inj.1 (by rw [h1]; omega)
  exact ⟨key 112 (by omega), key 113 (by omega)⟩
theorem isPQ_iff (x : UInt8) : isPQ x = true ↔ x = 112 ∨ x = 113 := by unfold isPQ; rw [Bool.or_eq_true, beq_iff_eq, beq_iff_eq]
theorem wordP_yes {l : List UInt8} (h : l.length ≤ 40) (ha : l.all isPQ = true) : wordP l = ((fldP l).1, (fldP l).2, true) := by unfold wordP; rw [decide_eq_true h, ha]; rfl
theorem wordP_not {l : List UInt8} (ha : l.all isPQ = false) : wordP l = (0, 0, false) := by unfold wordP; rw [ha, Bool.and_false]; rfl
theorem wordP_big {l : List UInt8} (h : ¬ l.length ≤ 40) : wordP l = (0, 0, false) := by unfold wordP; rw [decide_eq_false h]; rfl
def wpV (x : Nat × Nat × Bool) : Value := .tuple #[.int .i64 (x.1 : Int), .int .i64 (x.2.1 : Int), .bool x.2.2]
set_option maxHeartbeats 1000000 in
theorem specPWord_any (l : List UInt8) (hl : l.length ≤ 4000000000) (w : World) : Calls Tryd.prog 19 #[.string (bs l)] w fun e w' => e = .returned (wpV (wordP l)) ∧ w' = w := by
  have hz := bs_size l
  by_cases h40 : l.length ≤ 40
  · have HW : Hid (l.all isPQ = true → wordP l = ((fldP l).1, (fldP l).2, true)) := wordP_yes h40
    have HN : Hid (l.all isPQ = false → wordP l = (0, 0, false)) := wordP_not
    have HIX := Lib.hid (fun (k : Nat) (x : UInt8) (h : l[k]? = some x) (W : World) => txt_idx h W)
    have HZ := Lib.hid hz
    have hs40 : (bs l).size ≤ 40 := by omega
    have hs40i : ¬ (40 : Int) < ((bs l).size : Int) := by omega
    have HT := Lib.hid (fun i j k l W => specPTimes_any i j k l W)
    clear hz hl h40
    generalize bs l = s at *
    go_enter Tryd.func19, Tryd.ntmps19
    go_wp2
    go_loopw [5, 6, 7] (fun i j n wr => ∃ k a b : Nat, k ≤ s.size ∧ n = .int .i64 (k : Int) ∧ i = .int .i64 (a : Int) ∧ j = .int .i64 (b : Int) ∧ wr = w ∧ Hid ((l.take k).all isPQ = true) ∧ Hid (fldP (l.take k) = (a, b))) (fun _ _ n _ => s.size - (RowKit.intOf n).toNat)
    case atStart => exact ⟨0, 0, 0, Nat.zero_le _, rfl, rfl, rfl, rfl, rfl, rfl⟩
    case round =>
      obtain ⟨k, a, b, hk, rfl, rfl, rfl, rfl, HA, HF⟩ := hrel
      by_cases hlt : k < s.size
      · obtain ⟨x, hx⟩ : ∃ x, l[k]? = some x := ⟨_, List.getElem?_eq_getElem (by rw [← HZ.out]; exact hlt)⟩
        have hix := fun W => HIX.out k x hx W
        have hli : (k : Int) < (s.size : Int) := by omega
        have hu := u8_int x
        have hab : a + b ≤ k := by
          have := fldP_le (l.take k)
          rw [HF.out, List.length_take] at this
          dsimp only at this
          omega
        have hsn : l.take (k + 1) = l.take k ++ [x] := by rw [List.take_add_one, hx]; rfl
        by_cases hp : x = 112
        · have HA2 : Hid ((l.take (k + 1)).all isPQ = true) := by
            show _ = _
            rw [hsn, List.all_append, HA.out, hp]; rfl
          have HF2 : Hid (fldP (l.take (k + 1)) = ((stpP (a, b) 112).1, (stpP (a, b) 112).2)) := by
            show _ = _
            rw [hsn, fldP_snoc, HF.out, hp]
          have hT := fun W => HT.out (a : Int) (b : Int) 0 1 W
          rw [timesP_p a b (by omega)] at hT
          have HT1 := Lib.hid hT
          have hp2 := hu.1.1 hp
          clear hu hx hsn hp hT
          generalize (stpP (a, b) 112).1 = a' at *
          generalize (stpP (a, b) 112).2 = b' at *
          generalize (x.toNat : Int) = xb at *
          subst hp2
          go_wp2_with fail
          refine (HT1.out _).mono ?_
          rintro e w1 ⟨rfl, hw⟩
          subst w1
          go_wp2
          go_roundw
          case rel => exact ⟨k + 1, a', b', by omega, by go_num, rfl, rfl, trivial, HA2, HF2⟩
          case measure => simp [RowKit.intOf]; omega
        · by_cases hq : x = 113
          · have HA2 : Hid ((l.take (k + 1)).all isPQ = true) := by
              show _ = _
              rw [hsn, List.all_append, HA.out, hq]; rfl
            have HF2 : Hid (fldP (l.take (k + 1)) = ((stpP (a, b) 113).1, (stpP (a, b) 113).2)) := by
              show _ = _
              rw [hsn, fldP_snoc, HF.out, hq]
            have hT := fun W => HT.out (a : Int) (b : Int) 1 0 W
            rw [timesP_q a b (by omega)] at hT
            have HT1 := Lib.hid hT
            have hp2 := hu.2.1 hq
            clear hu hx hsn hp hq hT
            generalize (stpP (a, b) 113).1 = a' at *
            generalize (stpP (a, b) 113).2 = b' at *
            generalize (x.toNat : Int) = xb at *
            subst hp2
            go_wp2_with fail
            refine (HT1.out _).mono ?_
            rintro e w1 ⟨rfl, hw⟩
            subst w1
            go_wp2
            go_roundw
            case rel => exact ⟨k + 1, a', b', by omega, by go_num, rfl, rfl, trivial, HA2, HF2⟩
            case measure => simp [RowKit.intOf]; omega
          · have HR : Hid (wordP l = (0, 0, false)) := HN.out (by
              rw [List.all_eq_false]
              refine ⟨x, List.mem_of_getElem? hx, fun h => ?_⟩
              rcases (isPQ_iff x).1 h with h | h
              · exact hp h
              · exact hq h)
            have hp2 : ¬ (x.toNat : Int) = 112 := fun h => hp (hu.1.2 h)
            have hq2 : ¬ (x.toNat : Int) = 113 := fun h => hq (hu.2.2 h)
            clear hu hx hsn hp hq
            generalize (x.toNat : Int) = xb at *
            go_wp2
            exact bodyPost_ret (v := .tuple #[.int .i64 0, .int .i64 0, .bool false]) (by simp [results, Tryd.results19, go_sem]) rfl ⟨by rw [HR.out]; rfl, rfl⟩
      · obtain rfl : k = s.size := by omega
        have HR : Hid (wordP l = (a, b, true)) := by
          have h1 := HA.out
          have h2 := HF.out
          rw [HZ.out, List.take_length] at h1 h2
          have h3 := HW.out h1
          rw [h2] at h3
          exact h3
        go_wp2
        exact bodyPost_ret (v := .tuple #[.int .i64 (a : Int), .int .i64 (b : Int), .bool true]) (by simp [results, Tryd.results19, go_sem]) rfl ⟨by rw [HR.out]; rfl, rfl⟩
  · have hs40i : (40 : Int) < ((bs l).size : Int) := by omega
    rw [wordP_big h40]
    clear h40 hz
    generalize bs l = s at *
    go_enter Tryd.func19, Tryd.ntmps19
    go_wp2
    exact bodyPost_ret (v := .tuple #[.int .i64 0, .int .i64 0, .bool false]) (by simp [results, Tryd.results19, go_sem]) rfl ⟨by try rfl, rfl⟩
set_option maxHeartbeats 1000000 in
theorem letter_p (w : World) : Calls Tryd.prog 51 #[.int .u8 112] w fun e w' => e = .returned (.iface 46 (.agg #[.int .i64 0, .int .i64 1])) ∧ w' = w := by
  go_enter Tryd.func51, Tryd.ntmps51
  go_wp2
  go_ret
  exact ⟨by try rfl, rfl⟩
set_option maxHeartbeats 1000000 in
theorem letter_q (w : World) : Calls Tryd.prog 51 #[.int .u8 113] w fun e w' => e = .returned (.iface 46 (.agg #[.int .i64 1, .int .i64 0])) ∧ w' = w := by
  go_enter Tryd.func51, Tryd.ntmps51
  go_wp2
  go_ret
  exact ⟨by try rfl, rfl⟩
set_option maxHeartbeats 1000000 in
theorem letter_n (b : Int) (h1 : ¬ b = 112) (h2 : ¬ b = 113) (w : World) : Calls Tryd.prog 51 #[.int .u8 b] w fun e w' => e = .returned .nilIface ∧ w' = w := by
  go_enter Tryd.func51, Tryd.ntmps51
  go_wp2
  go_ret
  exact ⟨by try rfl, rfl⟩
set_option maxHeartbeats 1000000 in
theorem implPWord_any (l : List UInt8) (w : World) : Calls Tryd.prog 18 #[.string (bs l)] w fun e w' => e = .returned (wpV (wordP l)) ∧ Below w.heap.size w w' := by
  have hz := bs_size l
  by_cases h40 : l.length ≤ 40
  · have hs40i : ¬ (40 : Int) < ((bs l).size : Int) := by omega
    have HW : Hid (l.all isPQ = true → wordP l = ((fldP l).1, (fldP l).2, true)) := wordP_yes h40
    have HN : Hid (l.all isPQ = false → wordP l = (0, 0, false)) := wordP_not
    have hd := bs_data l
    obtain ⟨cap, W1, hconv, hcl, hB1, hW1⟩ : ∃ cap W1, (convert 9 22 (.string (bs l))).run Tryd.prog w = .ok (.slice (some ⟨w.heap.size, 0, none⟩) (bs l).size cap) W1 ∧ (∀ j, j < (bs l).size → W1.cell? ⟨w.heap.size, j, none⟩ = some (.int .u8 (((bs l).data.toList.getD j 0).toNat : Int))) ∧ Below w.heap.size w W1 ∧ w.heap.size < W1.heap.size := by
      refine ⟨_, _, Lib.run_convert_string_bytes w 9 22 5 (bs l) Tryd.underlying9 Tryd.underlying22 Tryd.underlying5, fun j hj => Lib.bytesWorld_cell w _ (bs l) j hj, ⟨rfl, rfl, rfl, by rw [Lib.bytesWorld_size]; omega, fun k hk => Lib.bytesWorld_at_old w _ (bs l) k hk⟩, by rw [Lib.bytesWorld_size]; omega⟩
    rw [hd, hz] at hcl
    rw [hz] at hconv
    rw [hz] at hs40i
    have HCL := Lib.hid hcl
    have HB1 := Lib.hid hB1
    have HP := Lib.hid (fun i j k l W => productP_any i j k l W)
    have HP1 := Lib.hid (fun v W => productN1_any v W)
    have HP2 := Lib.hid (fun i j W => productN2_any i j W)
    have HLP := Lib.hid (fun W => letter_p W)
    have HLQ := Lib.hid (fun W => letter_q W)
    clear hd hcl hB1
    have hl40 : l.length ≤ 40 := h40
    clear h40
    go_enter Tryd.func18, Tryd.ntmps18
    go_wp2
    go_loopw [5, 18] (fun md n wr => ∃ k : Nat, k ≤ l.length ∧ n = .int .i64 (k : Int) ∧ Hid (Below W1.heap.size W1 wr) ∧ ((∃ a b : Nat, md = .iface 46 (.agg #[.int .i64 (a : Int), .int .i64 (b : Int)]) ∧ Hid ((l.take k).all isPQ = true) ∧ Hid (fldP (l.take k) = (a, b))) ∨ (md = .nilIface ∧ Hid ((l.take k).all isPQ = false)))) (fun _ n _ => l.length - (RowKit.intOf n).toNat)
    case atStart => exact ⟨0, Nat.zero_le _, rfl, Below.refl _ _, .inl ⟨0, 0, rfl, rfl, rfl⟩⟩
    case round =>
      obtain ⟨k, hk, rfl, HB, hmd⟩ := hrel
      by_cases hlt : k < l.length
      · obtain ⟨x, hx⟩ : ∃ x, l[k]? = some x := ⟨_, List.getElem?_eq_getElem hlt⟩
        have hcell : wr.cell? ⟨w.heap.size, k, none⟩ = some (.int .u8 (x.toNat : Int)) := by
          have h1 := HCL.out k hlt
          have h2 : l.getD k 0 = x := by rw [List.getD_eq_getElem?_getD, hx]; rfl
          rw [h2] at h1
          rw [World.cell?_of_block (HB.out.block _ hW1)]
          exact h1
        have hu := u8_int x
        have hsn : l.take (k + 1) = l.take k ++ [x] := by rw [List.take_add_one, hx]; rfl
        have hki : (k : Int) < (l.length : Int) := by omega
        rcases hmd with ⟨a, b, rfl, HA, HF⟩ | ⟨rfl, HA⟩
        · have hab : a + b ≤ k := by
            have := fldP_le (l.take k)
            rw [HF.out, List.length_take] at this
            dsimp only at this
            omega
          by_cases hp : x = 112
          · have HA2 : Hid ((l.take (k + 1)).all isPQ = true) := by
              show _ = _
              rw [hsn, List.all_append, HA.out, hp]; rfl
            have HF2 : Hid (fldP (l.take (k + 1)) = ((stpP (a, b) 112).1, (stpP (a, b) 112).2)) := by
              show _ = _
              rw [hsn, fldP_snoc, HF.out, hp]
            have hT := fun W => HP.out (a : Int) (b : Int) 0 1 W
            rw [timesP_p a b (by omega), show ppV ((((stpP (a, b) 112).1 : Nat) : Int), (((stpP (a, b) 112).2 : Nat) : Int), true) = .iface 46 (.agg #[.int .i64 (((stpP (a, b) 112).1 : Nat) : Int), .int .i64 (((stpP (a, b) 112).2 : Nat) : Int)]) from rfl] at hT
            have HT1 := Lib.hid hT
            have hp2 := hu.1.1 hp
            clear hu hx hsn hp hT
            generalize (stpP (a, b) 112).1 = a' at *
            generalize (stpP (a, b) 112).2 = b' at *
            generalize (x.toNat : Int) = xb at *
            subst hp2
            go_wp2_with fail
            refine (HLP.out _).mono ?_
            rintro e v1 ⟨rfl, hw⟩
            subst v1
            go_wp2_with fail
            refine (HT1.out _).mono ?_
            rintro e v2 ⟨rfl, hb⟩
            have HB2 : Hid (Below W1.heap.size W1 v2) := HB.out.trans (hb.mono HB.out.size)
            clear hb
            go_wp2
            go_roundw
            case rel => exact ⟨k + 1, by omega, by go_num, HB2, .inl ⟨a', b', rfl, HA2, HF2⟩⟩
            case measure => simp [RowKit.intOf]; omega
          · by_cases hq : x = 113
            · have HA2 : Hid ((l.take (k + 1)).all isPQ = true) := by
                show _ = _
                rw [hsn, List.all_append, HA.out, hq]; rfl
              have HF2 : Hid (fldP (l.take (k + 1)) = ((stpP (a, b) 113).1, (stpP (a, b) 113).2)) := by
                show _ = _
                rw [hsn, fldP_snoc, HF.out, hq]
              have hT := fun W => HP.out (a : Int) (b : Int) 1 0 W
              rw [timesP_q a b (by omega), show ppV ((((stpP (a, b) 113).1 : Nat) : Int), (((stpP (a, b) 113).2 : Nat) : Int), true) = .iface 46 (.agg #[.int .i64 (((stpP (a, b) 113).1 : Nat) : Int), .int .i64 (((stpP (a, b) 113).2 : Nat) : Int)]) from rfl] at hT
              have HT1 := Lib.hid hT
              have hp2 := hu.2.1 hq
              clear hu hx hsn hp hq hT
              generalize (stpP (a, b) 113).1 = a' at *
              generalize (stpP (a, b) 113).2 = b' at *
              generalize (x.toNat : Int) = xb at *
              subst hp2
              go_wp2_with fail
              refine (HLQ.out _).mono ?_
              rintro e v1 ⟨rfl, hw⟩
              subst v1
              go_wp2_with fail
              refine (HT1.out _).mono ?_
              rintro e v2 ⟨rfl, hb⟩
              have HB2 : Hid (Below W1.heap.size W1 v2) := HB.out.trans (hb.mono HB.out.size)
              clear hb
              go_wp2
              go_roundw
              case rel => exact ⟨k + 1, by omega, by go_num, HB2, .inl ⟨a', b', rfl, HA2, HF2⟩⟩
              case measure => simp [RowKit.intOf]; omega
            · have HA2 : Hid ((l.take (k + 1)).all isPQ = false) := by
                show _ = _
                rw [List.all_eq_false]
                refine ⟨x, by rw [hsn]; simp, fun h => ?_⟩
                rcases (isPQ_iff x).1 h with h | h
                · exact hp h
                · exact hq h
              have hp2 : ¬ (x.toNat : Int) = 112 := fun h => hp (hu.1.2 h)
              have hq2 : ¬ (x.toNat : Int) = 113 := fun h => hq (hu.2.2 h)
              clear hu hx hsn hp hq
              generalize (x.toNat : Int) = xb at *
              have HLN := Lib.hid (fun W => letter_n xb hp2 hq2 W)
              have HT1 := Lib.hid (fun W => HP2.out (a : Int) (b : Int) W)
              clear hp2 hq2
              go_wp2_with fail
              refine (HLN.out _).mono ?_
              rintro e v1 ⟨rfl, hw⟩
              subst v1
              go_wp2_with fail
              refine (HT1.out _).mono ?_
              rintro e v2 ⟨rfl, hb⟩
              have HB2 : Hid (Below W1.heap.size W1 v2) := HB.out.trans (hb.mono HB.out.size)
              clear hb
              go_wp2
              go_roundw
              case rel => exact ⟨k + 1, by omega, by go_num, HB2, .inr ⟨rfl, HA2⟩⟩
              case measure => simp [RowKit.intOf]; omega
        · have HA2 : Hid ((l.take (k + 1)).all isPQ = false) := by
            show _ = _
            rw [hsn, List.all_append, HA.out]; rfl
          have HL : Hid (∀ W, ∃ v, Calls Tryd.prog 51 #[.int .u8 (x.toNat : Int)] W fun e w' => e = .returned v ∧ w' = W) := fun W => by
            by_cases hp : (x.toNat : Int) = 112
            · rw [hp]; exact ⟨_, HLP.out W⟩
            · by_cases hq : (x.toNat : Int) = 113
              · rw [hq]; exact ⟨_, HLQ.out W⟩
              · exact ⟨_, letter_n _ hp hq W⟩
          obtain ⟨v, hv⟩ := HL.out wr
          have HV := Lib.hid hv
          have HT1 := Lib.hid (fun W => HP1.out v W)
          clear hu hx hsn hv HL
          generalize (x.toNat : Int) = xb at *
          go_wp2_with fail
          refine HV.out.mono ?_
          rintro e v1 ⟨rfl, hw⟩
          subst v1
          go_wp2_with fail
          refine (HT1.out _).mono ?_
          rintro e v2 ⟨rfl, hb⟩
          have HB2 : Hid (Below W1.heap.size W1 v2) := HB.out.trans (hb.mono HB.out.size)
          clear hb
          go_wp2
          go_roundw
          case rel => exact ⟨k + 1, by omega, by go_num, HB2, .inr ⟨rfl, HA2⟩⟩
          case measure => simp [RowKit.intOf]; omega
      · obtain rfl : k = l.length := by omega
        have HBB : Hid (Below w.heap.size w wr) := HB1.out.trans (HB.out.mono HB1.out.size)
        rcases hmd with ⟨a, b, rfl, HA, HF⟩ | ⟨rfl, HA⟩
        · have HR : Hid (wordP l = (a, b, true)) := by
            have h1 := HA.out
            have h2 := HF.out
            rw [List.take_length] at h1 h2
            have h3 := HW.out h1
            rw [h2] at h3
            exact h3
          have a2 := ta_pi (.agg #[.int .i64 (a : Int), .int .i64 (b : Int)])
          go_wp2_with fail
          go_region
          go_wp2
          exact bodyPost_ret (v := .tuple #[.int .i64 (a : Int), .int .i64 (b : Int), .bool true]) (by simp [results, Tryd.results18, go_sem]) rfl ⟨by rw [HR.out]; rfl, (bel_al' HBB.out _).drew⟩
        · have HR : Hid (wordP l = (0, 0, false)) := by
            have h1 := HA.out
            rw [List.take_length] at h1
            exact HN.out h1
          have a2 := ta_nps
          go_wp2_with fail
          go_region
          go_wp2
          exact bodyPost_ret (v := .tuple #[.int .i64 0, .int .i64 0, .bool false]) (by simp [results, Tryd.results18, go_sem]) rfl ⟨by rw [HR.out]; rfl, (bel_al' HBB.out _).drew⟩
  · have hs40i : (40 : Int) < ((bs l).size : Int) := by omega
    rw [wordP_big h40]
    clear h40 hz
    generalize bs l = s at *
    go_enter Tryd.func18, Tryd.ntmps18
    go_wp2
    exact bodyPost_ret (v := .tuple #[.int .i64 0, .int .i64 0, .bool false]) (by simp [results, Tryd.results18, go_sem]) rfl ⟨by try rfl, Below.refl _ _⟩
end Go.Proofs.YtdljndpobklkjaaDoor
