/-
  Swaps by the program: times, product, isBelow, and what is exported.
-/
import Derived.Test.YtdljndpobklkjaaDoorSl
import Derived.Deep.RegionWith
namespace Go.Proofs.YtdljndpobklkjaaDoor
set_option maxRecDepth 100000
set_option linter.unusedVariables false
open Go.RowKit

theorem mth_ts (v : Value) (w : World) : (method 211 32 v "loop.example/partialcharts/impl.times").run Tryd.prog w = .ok (102, v) w := by kernel_rfl
theorem nil_ts (v : Value) (w : World) : (nilAhead 211 32 v "loop.example/partialcharts/impl.times").run Tryd.prog w = .ok (some false) w := by kernel_rfl
theorem mth_bs (v : Value) (w : World) : (method 211 32 v "loop.example/partialcharts/impl.below").run Tryd.prog w = .ok (65, v) w := by kernel_rfl
theorem nil_bs (v : Value) (w : World) : (nilAhead 211 32 v "loop.example/partialcharts/impl.below").run Tryd.prog w = .ok (some false) w := by kernel_rfl
theorem bel5 (w : World) (a b c d e : Array Value) : Below w.heap.size w (((((w.alloc (.cells a 32)).alloc (.cells b 32)).alloc (.cells c 32)).alloc (.cells d 32)).alloc (.cells e 32)) := ((bel3 w a b c).alloc (bel3 w a b c).size _).alloc ((bel3 w a b c).alloc (bel3 w a b c).size _).size _
theorem bel6 (w : World) (a b c d e f : Array Value) : Below w.heap.size w ((((((w.alloc (.cells a 32)).alloc (.cells b 32)).alloc (.cells c 32)).alloc (.cells d 32)).alloc (.cells e 32)).alloc (.cells f 32)) := (bel5 w a b c d e).alloc (bel5 w a b c d e).size _
set_option maxHeartbeats 1000000 in
theorem times_any (sf st tf tt : List UInt8) (sn tn : Bool) (h1 : sf.length ≤ 4000000) (h2 : st.length ≤ 4000000) (h3 : tf.length ≤ 4000000) (h4 : tt.length ≤ 4000000) (w : World) :
    Calls Tryd.prog 102 #[.agg #[.string (bs sf), .string (bs st), .bool sn], .iface 32 (.agg #[.string (bs tf), .string (bs tt), .bool tn])] w fun e w' => e = .returned (.iface 32 (swV (mulS ⟨sf, st, sn⟩ ⟨tf, tt, tn⟩))) ∧ Below w.heap.size w w' := by
  have a2 := ta_ss (.agg #[.string (bs tf), .string (bs tt), .bool tn])
  by_cases hn : (sn || tn) = true
  · have hR : mulS ⟨sf, st, sn⟩ ⟨tf, tt, tn⟩ = .none := by unfold mulS; rw [if_pos hn]
    rw [hR, swV_none]
    clear hR
    cases sn with
    | false =>
      have hn : tn = true := by simpa using hn
      subst hn
      go_enter Tryd.func102, Tryd.ntmps102
      go_wp2
      go_ret
      exact ⟨by try rfl, bel2 w _ _⟩
    | true =>
      clear hn
      go_enter Tryd.func102, Tryd.ntmps102
      go_wp2
      go_ret
      exact ⟨by try rfl, bel2 w _ _⟩
  · obtain ⟨rfl, rfl⟩ : sn = false ∧ tn = false := by simpa using hn
    clear hn
    have HE := Lib.hid (mul_alt sf st tf tt)
    rw [HE.out]
    clear HE
    have HA := Lib.hid (fun W => act_any tf tt false st h4 h2 W)
    have HF : Hid (actS ⟨tf, tt, false⟩ st = if (!false && beg st tf) = true then some (tt ++ st.drop tf.length) else Option.none) := rfl
    cases hb : beg st tf with
    | true =>
      rw [show actS ⟨tf, tt, false⟩ st = some (tt ++ st.drop tf.length) by rw [HF.out, hb]; rfl] at HA
      rw [if_pos rfl, swV_mk]
      clear HF hb
      have r1 : (bs (Option.getD (some (tt ++ st.drop tf.length)) [])) = bs (tt ++ st.drop tf.length) := rfl
      have r2 : Option.isSome (some (tt ++ st.drop tf.length)) = true := rfl
      rw [r1, r2] at HA
      clear r1 r2
      skip
      go_enter Tryd.func102, Tryd.ntmps102
      go_wp2_with fail
      refine (HA.out _).mono ?_
      rintro e v1 ⟨rfl, hw⟩
      subst hw
      clear HA
      go_wp2
      go_ret
      exact ⟨by try rfl, bel3 w _ _ _⟩
    | false =>
      rw [show actS ⟨tf, tt, false⟩ st = none by rw [HF.out, hb]; rfl] at HA
      rw [if_neg (by decide)]
      clear HF hb
      have r1 : (bs (Option.getD (none : Option (List UInt8)) [])) = ⟨#[]⟩ := rfl
      have r2 : Option.isSome (none : Option (List UInt8)) = false := rfl
      rw [r1, r2] at HA
      have HU := Lib.hid (fun W => turned_any sf st false W)
      have HG := Lib.hid (fun W => act_any st sf false tf h1 h3 W)
      have HF : Hid (actS ⟨st, sf, false⟩ tf = if (!false && beg tf st) = true then some (sf ++ tf.drop st.length) else Option.none) := rfl
      cases hb : beg tf st with
      | true =>
        rw [show actS ⟨st, sf, false⟩ tf = some (sf ++ tf.drop st.length) by rw [HF.out, hb]; rfl] at HG
        rw [if_pos rfl, swV_mk]
        clear HF hb r1 r2
        have r1 : (bs (Option.getD (some (sf ++ tf.drop st.length)) [])) = bs (sf ++ tf.drop st.length) := rfl
        have r2 : Option.isSome (some (sf ++ tf.drop st.length)) = true := rfl
        rw [r1, r2] at HG
        clear r1 r2
        go_enter Tryd.func102, Tryd.ntmps102
        go_wp2_with fail
        refine (HA.out _).mono ?_
        rintro e v1 ⟨rfl, hw⟩
        subst hw
        clear HA
        go_wp2_with fail
        go_region_with (first | (go_at_call 56; refine (HU.out _).mono ?_; rintro e v ⟨rfl, rfl⟩) | (go_at_call 61; refine (HG.out _).mono ?_; rintro e v ⟨rfl, rfl⟩))
        all_goals clear HU HG
        all_goals go_wp2
        all_goals go_ret
        all_goals exact ⟨by try rfl, (bel6 w _ _ _ _ _ _).drew⟩
      | false =>
        rw [show actS ⟨st, sf, false⟩ tf = none by rw [HF.out, hb]; rfl] at HG
        rw [if_neg (by decide), swV_none]
        clear HF hb
        rw [r1, r2] at HG
        clear r1 r2
        go_enter Tryd.func102, Tryd.ntmps102
        go_wp2_with fail
        refine (HA.out _).mono ?_
        rintro e v1 ⟨rfl, hw⟩
        subst hw
        clear HA
        go_wp2_with fail
        go_region_with (first | (go_at_call 56; refine (HU.out _).mono ?_; rintro e v ⟨rfl, rfl⟩) | (go_at_call 61; refine (HG.out _).mono ?_; rintro e v ⟨rfl, rfl⟩))
        all_goals clear HU HG
        all_goals go_wp2
        all_goals go_ret
        all_goals exact ⟨by try rfl, (bel6 w _ _ _ _ _ _).drew⟩
/-- the product as a mover, or nil -/
def pdV (x : SW × Bool) : Value := if x.2 = true then .iface 32 (swV x.1) else .nilIface
set_option maxHeartbeats 1000000 in
theorem product_any (sf st tf tt : List UInt8) (sn tn : Bool) (w : World) :
    Calls Tryd.prog 45 #[.iface 32 (.agg #[.string (bs sf), .string (bs st), .bool sn]), .iface 32 (.agg #[.string (bs tf), .string (bs tt), .bool tn])] w fun e w' => e = .returned (pdV (timesS ⟨sf, st, sn⟩ ⟨tf, tt, tn⟩)) ∧ Below w.heap.size w w' := by
  have HS := Lib.hid (fun W => toldS_any sf st sn W)
  have HT := Lib.hid (fun W => toldS_any tf tt tn W)
  unfold mvS at HS HT
  have HE : Hid (timesS ⟨sf, st, sn⟩ ⟨tf, tt, tn⟩ = if (inS ⟨sf, st, sn⟩ && inS ⟨tf, tt, tn⟩ && inS (mulS ⟨sf, st, sn⟩ ⟨tf, tt, tn⟩)) = true then (mulS ⟨sf, st, sn⟩ ⟨tf, tt, tn⟩, true) else (.zero, false)) := rfl
  have m1 := mth_ts (.agg #[.string (bs sf), .string (bs st), .bool sn])
  have m2 := nil_ts (.agg #[.string (bs sf), .string (bs st), .bool sn])
  cases hs : inS ⟨sf, st, sn⟩ with
  | false =>
    rw [hs] at HS
    rw [HE.out, hs, Bool.false_and, Bool.false_and, if_neg (by decide)]
    clear HE hs
    rw [show pdV (.zero, false) = .nilIface from rfl]
    go_enter Tryd.func45, Tryd.ntmps45
    go_wp2_with fail
    refine (HS.out _).mono ?_
    rintro e w1 ⟨rfl, hb⟩
    have HB := Lib.hid hb
    clear hb HS
    go_wp2
    go_ret
    exact ⟨by try rfl, HB.out⟩
  | true =>
    rw [hs] at HS
    cases ht : inS ⟨tf, tt, tn⟩ with
    | false =>
      rw [ht] at HT
      rw [HE.out, hs, ht, Bool.and_false, Bool.false_and, if_neg (by decide)]
      clear HE hs ht
      rw [show pdV (.zero, false) = .nilIface from rfl]
      go_enter Tryd.func45, Tryd.ntmps45
      go_wp2_with fail
      refine (HS.out _).mono ?_
      rintro e w1 ⟨rfl, hb⟩
      have HB := Lib.hid hb
      clear hb HS
      go_wp2_with fail
      refine (HT.out _).mono ?_
      rintro e w2 ⟨rfl, hb⟩
      have HB := Lib.hid (HB.out.trans (hb.mono HB.out.size))
      clear hb HT
      go_wp2
      go_ret
      exact ⟨by try rfl, HB.out⟩
    | true =>
      rw [ht] at HT
      have hl1 := in_len hs
      have hl2 := in_len ht
      dsimp only at hl1 hl2
      have HM := Lib.hid (fun W => times_any sf st tf tt sn tn (by omega) (by omega) (by omega) (by omega) W)
      rw [HE.out, hs, ht, Bool.true_and, Bool.true_and]
      clear HE hl1 hl2 hs ht
      generalize mulS ⟨sf, st, sn⟩ ⟨tf, tt, tn⟩ = m at *
      obtain ⟨mf, mt, mn⟩ := m
      have HD := Lib.hid (fun W => toldS_any mf mt mn W)
      unfold mvS at HD
      have hv : swV ⟨mf, mt, mn⟩ = .agg #[.string (bs mf), .string (bs mt), .bool mn] := rfl
      rw [hv] at HM
      cases hm : inS ⟨mf, mt, mn⟩ with
      | false =>
        rw [if_neg (by decide), show pdV (.zero, false) = .nilIface from rfl]
        rw [hm] at HD
        clear hm hv
        go_enter Tryd.func45, Tryd.ntmps45
        go_wp2_with fail
        refine (HS.out _).mono ?_
        rintro e w1 ⟨rfl, hb⟩
        have HB := Lib.hid hb
        clear hb HS
        go_wp2_with fail
        refine (HT.out _).mono ?_
        rintro e w2 ⟨rfl, hb⟩
        have HB := Lib.hid (HB.out.trans (hb.mono HB.out.size))
        clear hb HT
        go_wp2_with fail
        refine (HM.out _).mono ?_
        rintro e w3 ⟨rfl, hb⟩
        have HB := Lib.hid (HB.out.trans (hb.mono HB.out.size))
        clear hb HM
        go_wp2_with fail
        refine (HD.out _).mono ?_
        rintro e w4 ⟨rfl, hb⟩
        have HB := Lib.hid (HB.out.trans (hb.mono HB.out.size))
        clear hb HD
        go_wp2
        go_ret
        exact ⟨by try rfl, HB.out⟩
      | true =>
        rw [if_pos rfl, show pdV (⟨mf, mt, mn⟩, true) = .iface 32 (swV ⟨mf, mt, mn⟩) from rfl, hv]
        rw [hm] at HD
        clear hm hv
        go_enter Tryd.func45, Tryd.ntmps45
        go_wp2_with fail
        refine (HS.out _).mono ?_
        rintro e w1 ⟨rfl, hb⟩
        have HB := Lib.hid hb
        clear hb HS
        go_wp2_with fail
        refine (HT.out _).mono ?_
        rintro e w2 ⟨rfl, hb⟩
        have HB := Lib.hid (HB.out.trans (hb.mono HB.out.size))
        clear hb HT
        go_wp2_with fail
        refine (HM.out _).mono ?_
        rintro e w3 ⟨rfl, hb⟩
        have HB := Lib.hid (HB.out.trans (hb.mono HB.out.size))
        clear hb HM
        go_wp2_with fail
        refine (HD.out _).mono ?_
        rintro e w4 ⟨rfl, hb⟩
        have HB := Lib.hid (HB.out.trans (hb.mono HB.out.size))
        clear hb HD
        go_wp2
        go_ret
        exact ⟨by try rfl, HB.out⟩
set_option maxHeartbeats 1000000 in
theorem isBelow_any (sf st tf tt : List UInt8) (sn tn : Bool) (w : World) :
    Calls Tryd.prog 52 #[.iface 32 (.agg #[.string (bs sf), .string (bs st), .bool sn]), .iface 32 (.agg #[.string (bs tf), .string (bs tt), .bool tn])] w fun e w' => e = .returned (.bool (belowS ⟨sf, st, sn⟩ ⟨tf, tt, tn⟩)) ∧ Below w.heap.size w w' := by
  have HS := Lib.hid (fun W => toldS_any sf st sn W)
  have HT := Lib.hid (fun W => toldS_any tf tt tn W)
  unfold mvS at HS HT
  have HE : Hid (belowS ⟨sf, st, sn⟩ ⟨tf, tt, tn⟩ = (inS ⟨sf, st, sn⟩ && inS ⟨tf, tt, tn⟩ && belS ⟨sf, st, sn⟩ ⟨tf, tt, tn⟩)) := rfl
  have m1 := mth_bs (.agg #[.string (bs sf), .string (bs st), .bool sn])
  have m2 := nil_bs (.agg #[.string (bs sf), .string (bs st), .bool sn])
  rw [HE.out]
  clear HE
  cases hs : inS ⟨sf, st, sn⟩ with
  | false =>
    rw [hs] at HS
    rw [Bool.false_and, Bool.false_and]
    clear hs
    go_enter Tryd.func52, Tryd.ntmps52
    go_wp2_with fail
    refine (HS.out _).mono ?_
    rintro e w1 ⟨rfl, hb⟩
    have HB := Lib.hid hb
    clear hb HS
    go_wp2
    go_ret
    exact ⟨by try rfl, HB.out⟩
  | true =>
    rw [hs] at HS
    cases ht : inS ⟨tf, tt, tn⟩ with
    | false =>
      rw [ht] at HT
      rw [Bool.and_false, Bool.false_and]
      clear hs ht
      go_enter Tryd.func52, Tryd.ntmps52
      go_wp2_with fail
      refine (HS.out _).mono ?_
      rintro e w1 ⟨rfl, hb⟩
      have HB := Lib.hid hb
      clear hb HS
      go_wp2_with fail
      refine (HT.out _).mono ?_
      rintro e w2 ⟨rfl, hb⟩
      have HB := Lib.hid (HB.out.trans (hb.mono HB.out.size))
      clear hb HT
      go_wp2
      go_ret
      exact ⟨by try rfl, HB.out⟩
    | true =>
      rw [ht] at HT
      have hl1 := in_len hs
      have hl2 := in_len ht
      dsimp only at hl1 hl2
      have HM := Lib.hid (fun W => below_any sf st tf tt sn tn (by omega) (by omega) (by omega) (by omega) W)
      rw [Bool.true_and, Bool.true_and]
      clear hl1 hl2 hs ht
      generalize belS ⟨sf, st, sn⟩ ⟨tf, tt, tn⟩ = z at *
      go_enter Tryd.func52, Tryd.ntmps52
      go_wp2_with fail
      refine (HS.out _).mono ?_
      rintro e w1 ⟨rfl, hb⟩
      have HB := Lib.hid hb
      clear hb HS
      go_wp2_with fail
      refine (HT.out _).mono ?_
      rintro e w2 ⟨rfl, hb⟩
      have HB := Lib.hid (HB.out.trans (hb.mono HB.out.size))
      clear hb HT
      go_wp2_with fail
      refine (HM.out _).mono ?_
      rintro e w3 ⟨rfl, hb⟩
      have HB := Lib.hid (HB.out.trans (hb.mono HB.out.size))
      clear hb HM
      go_wp2
      go_ret
      exact ⟨by try rfl, HB.out⟩
end Go.Proofs.YtdljndpobklkjaaDoor
