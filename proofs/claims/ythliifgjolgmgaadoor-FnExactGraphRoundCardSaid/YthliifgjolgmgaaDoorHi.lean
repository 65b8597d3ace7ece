/-
  impl.graph.leads; a word read in a graph: spec.l5Read.
-/
import Derived.Test.YthliifgjolgmgaaDoorHd
namespace Go.Proofs.YthliifgjolgmgaaDoor
set_option maxRecDepth 100000
set_option linter.unusedVariables false
open Go.RowKit Go.Lib

theorem tabG_len (zs ys : List Int) (n : Nat) : (tabG zs ys n).length = 4 * n := by
  unfold tabG
  rw [show List.range 4 = [0, 1, 2, 3] from rfl]
  simp only [List.flatMap_cons, List.flatMap_nil, List.length_append, List.length_map, List.length_range, List.length_nil]
  omega
theorem tabG_get {zs ys : List Int} {n l v : Nat} (hl : l < 4) (hv : v < n) : (tabG zs ys n)[l * n + v]? = some (enc (nxG zs ys n l v)) := by
  have hg : ∀ c : Nat, ((List.range n).map (fun v => enc (nxG zs ys n c v)))[v]? = some (enc (nxG zs ys n c v)) := fun c => by rw [List.getElem?_map, List.getElem?_range hv]; rfl
  have hlen : ∀ c : Nat, ((List.range n).map (fun v => enc (nxG zs ys n c v))).length = n := fun c => by simp
  unfold tabG
  rw [show List.range 4 = [0, 1, 2, 3] from rfl]
  simp only [List.flatMap_cons, List.flatMap_nil, List.append_nil]
  match l, hl with
  | 0, _ => rw [Nat.zero_mul, Nat.zero_add, List.getElem?_append_left (by rw [hlen]; exact hv)]; exact hg 0
  | 1, _ => rw [List.getElem?_append_right (by rw [hlen]; omega), hlen, show 1 * n + v - n = v by omega, List.getElem?_append_left (by rw [hlen]; exact hv)]; exact hg 1
  | 2, _ => rw [List.getElem?_append_right (by rw [hlen]; omega), hlen, List.getElem?_append_right (by rw [hlen]; omega), hlen, show 2 * n + v - n - n = v by omega, List.getElem?_append_left (by rw [hlen]; exact hv)]; exact hg 2
  | 3, _ => rw [List.getElem?_append_right (by rw [hlen]; omega), hlen, List.getElem?_append_right (by rw [hlen]; omega), hlen, List.getElem?_append_right (by rw [hlen]; omega), hlen, show 3 * n + v - n - n - n = v by omega]; exact hg 3
set_option maxHeartbeats 1000000 in
theorem gleads_any (A : Option Addr) (n L c : Nat) (T : List Int) (v l : Nat) (z : Int) (w : World) (h : RI w A L T) (hn : n ≤ 1600) (hl : l < 4) (hv : v < n) (hz : T[l * n + v]? = some z) :
    Calls Tryd.prog 66 #[.agg #[.int .i64 (n : Int), .slice A L c], .int .i64 (v : Int), .int .i64 (l : Int)] w fun e w' => e = .returned (.int .i64 z) ∧ Below w.heap.size w w' := by
  have hB0 : Below w.heap.size w (w.alloc (.cells #[.int .i64 (n : Int), .slice A L c] 52)) := (Below.refl _ w).alloc (Nat.le_refl _) _
  have hil : l * n + v < L := by rw [← h.len]; exact (List.getElem?_eq_some_iff.1 hz).1
  obtain ⟨m, hm⟩ : ∃ m, l * n = m := ⟨_, rfl⟩
  have hm3 : m ≤ 4800 := by
    rw [← hm]
    have := Nat.mul_le_mul (show l ≤ 3 by omega) hn
    omega
  have hmi : (l : Int) * (n : Int) = (m : Int) := by rw [← hm, Int.natCast_mul]
  rw [hm] at hz hil
  obtain ⟨ad, z', rfl, hab, hz', hc⟩ := (h.below hB0).get hil
  rw [hz] at hz'
  injection hz' with hz'
  subst hz'
  have hli : (m : Int) + (v : Int) < (L : Int) := by omega
  have hnat : ((m : Int) + (v : Int)).toNat = m + v := by omega
  have hv2 : v ≤ 1600 := by omega
  have HB0 := Lib.hid hB0
  clear hB0 h hz hm hn hl hv hab
  go_enter Tryd.func66, Tryd.ntmps66
  go_wp2
  go_ret
  exact ⟨rfl, HB0.out⟩
theorem u8_ne {x c : UInt8} (h : x ≠ c) : ((x.toNat : Int) == (c.toNat : Int)) = false := by
  rw [beq_eq_false_iff_ne]
  intro e
  exact h (UInt8.toNat_inj.1 (by omega))
/-- the letter's place, told by its byte -/
def lxB (b : UInt8) : Nat := if b = 65 then 0 else if b = 66 then 1 else if b = 97 then 2 else 3
/-- where letters lead, one after another -/
def rdW (nx : Nat → Nat → Option Nat) (L : List UInt8) : Option Nat := L.foldl (fun o b => o.bind (nx (lxB b))) (some 0)
theorem rdW_zero (nx : Nat → Nat → Option Nat) (L : List UInt8) : rdW nx (L.take 0) = some 0 := by simp [rdW]
theorem rdW_succ {nx : Nat → Nat → Option Nat} {L : List UInt8} {k : Nat} {b : UInt8} (h : L[k]? = some b) : rdW nx (L.take (k + 1)) = (rdW nx (L.take k)).bind (nx (lxB b)) := by
  have hk := (List.getElem?_eq_some_iff.1 h)
  unfold rdW
  rw [List.take_succ_eq_append_getElem hk.1, hk.2, List.foldl_append]; rfl
theorem rdW_none {nx : Nat → Nat → Option Nat} {L : List UInt8} {k : Nat} (h : rdW nx (L.take k) = none) : rdW nx L = none := by
  have : ∀ R : List UInt8, R.foldl (fun o b => o.bind (nx (lxB b))) (none : Option Nat) = none := fun R => by
    induction R with
    | nil => rfl
    | cons x R ih => exact ih
  unfold rdW at h ⊢
  rw [← List.take_append_drop k L, List.foldl_append, h, this]
theorem rdW_lt {nx : Nat → Nat → Option Nat} {n : Nat} (h0 : 0 < n) (hx : ∀ c v u, nx c v = some u → u < n) : ∀ (L : List UInt8) (v : Nat), rdW nx L = some v → v < n := by
  have key : ∀ (L : List UInt8) (o : Option Nat), (∀ v, o = some v → v < n) → ∀ v, L.foldl (fun o b => o.bind (nx (lxB b))) o = some v → v < n := by
    intro L
    induction L with
    | nil => intro o h v e; exact h v e
    | cons b L ih =>
      intro o h v e
      refine ih _ (fun u hu => ?_) v e
      obtain ⟨x, _, hx2⟩ := Option.bind_eq_some_iff.1 hu
      exact hx _ _ _ hx2
  intro L v h
  exact key L (some 0) (fun v e => by injection e with e; omega) v h
theorem str_idx5 {s : ByteArray} {k : Nat} {x : UInt8} (h : s.data.toList[k]? = some x) (W : World) : (Instr.index 9 (.string s) (.int .i64 (k : Int))).run Tryd.prog W = .ok (.int .u8 (x.toNat : Int)) W := by
  have hk : k < s.data.toList.length := (List.getElem?_eq_some_iff.1 h).1
  have hk' : k < s.size := by rw [Array.length_toList] at hk; exact hk
  have hx : s[k] = x := by
    rw [List.getElem?_eq_getElem hk] at h
    have := Option.some.inj h
    rw [← this]; rfl
  rw [run_index_string W _ s .i64 (k : Int) (by kernel_rfl), dif_pos ⟨by omega, by omega⟩]
  simp only [Int.toNat_natCast]
  rw [hx]
set_option maxHeartbeats 4000000 in
theorem l5Read_any (a b : Option Addr) (n c d : Nat) (zs ys : List Int) (s : ByteArray) (w : World) (h : RI w a n zs) (h' : RI w b n ys) (hl : Leads zs n) (hl' : Leads ys n) (hn : n ≤ 1600) (h0 : 0 < n) (hs : s.size ≤ 1048576) :
    Calls Tryd.prog 38 #[.agg #[.int .i64 (n : Int), .slice a n c, .slice b n d], .string s] w fun e w' => e = .returned (.int .i64 (enc (rdW (nxG zs ys n) s.data.toList))) ∧ Below w.heap.size w w' := by
  have hlen : s.data.toList.length = s.size := by rw [Array.length_toList]; rfl
  have HLEN := Lib.hid hlen
  have HIX := Lib.hid (fun (k : Nat) (x : UInt8) (h : s.data.toList[k]? = some x) (W : World) => str_idx5 h W)
  have hB0 : Below w.heap.size w (w.alloc (.cells #[.int .i64 (n : Int), .slice a n c, .slice b n d] 26)) := (Below.refl _ w).alloc (Nat.le_refl _) _
  have HT := Lib.hid (l5Steps_any (n : Int) a b n c d zs ys _ (h.below hB0) (h'.below hB0) hl hl' hn)
  have HRI : Hid (∀ W : World, Below w.heap.size w W → RI W a n zs ∧ RI W b n ys) := fun W hW => ⟨h.below hW, h'.below hW⟩
  have HX : Hid (∀ c v u, nxG zs ys n c v = some u → u < n) := nxG_lt hl hl'
  have HLL : Hid (Leads zs n ∧ Leads ys n) := ⟨hl, hl'⟩
  have HB0 := Lib.hid hB0
  generalize hL : s.data.toList = L at *
  clear hL hlen h h' hl hl' hB0
  go_enter Tryd.func38, Tryd.ntmps38
  go_wp2_with fail
  refine HT.out.mono ?_
  rintro e V ⟨gs, B1, B2, rfl, hgs, hks, hb1, hb2, hb⟩
  have hB1 := HB0.out.trans (hb.mono HB0.out.size)
  have HVB := Lib.hid hB1
  -- what is read of the four lists
  have HST : Hid (∀ t v : Nat, t < 4 → v < n → ∃ (AD : Addr) (cX : Nat), V.cell? ⟨gs, t, none⟩ = some (.slice (some AD) n cX) ∧ V.cell? (AD.add v) = some (.int .i64 (enc (nxG zs ys n t v)))) := fun t v ht hv => by
    obtain ⟨ra, rb⟩ := HRI.out V hB1
    have hfw : ∀ {xs : List Int} {A : Option Addr} (_ : Leads xs n) (_ : RI V A n xs), ∃ AD : Addr, A = some AD ∧ V.cell? (AD.add v) = some (.int .i64 (enc (fwK xs v))) := fun {xs A} hx hr => by
      obtain ⟨AD, e, _, hc⟩ := hr.at_ hv
      have hlv : v < xs.length := by rw [hr.len]; exact hv
      refine ⟨AD, e, ?_⟩
      rw [fwK_enc hx (List.getElem?_eq_getElem hlv), hc, List.getElem?_eq_getElem hlv]; rfl
    have hbk : ∀ {xs : List Int} {B : Addr} {base : Nat} (_ : V.ownsRow base 3 1 (.slice (some B) n n) n (ivs (bkL xs n n))), V.cell? (B.add v) = some (.int .i64 (enc (bkK xs n v))) := fun {xs B base} hr => by
      obtain ⟨AD, e, _, hc⟩ := (RI.of_own hr).at_ hv
      injection e with e
      subst e
      rw [hc, bkL_get xs n hv]; rfl
    match t, ht with
    | 0, _ => exact ⟨B1, n, hks.cell 0, hbk hb1⟩
    | 1, _ => exact ⟨B2, n, hks.cell 1, hbk hb2⟩
    | 2, _ =>
      obtain ⟨AD, e, hc⟩ := hfw HLL.out.1 ra
      subst e
      exact ⟨AD, c, hks.cell 2, hc⟩
    | 3, _ =>
      obtain ⟨AD, e, hc⟩ := hfw HLL.out.2 rb
      subst e
      exact ⟨AD, d, hks.cell 3, hc⟩
  clear hB1 hks hb1 hb2 hb HT HB0 HRI HLL hgs
  obtain ⟨nx, HNX⟩ : ∃ nx, Hid (nxG zs ys n = nx) := ⟨_, rfl⟩
  rw [HNX.out] at HST HX
  have HRL : Hid (∀ k v, rdW nx (L.take k) = some v → v < n) := fun k v hv => rdW_lt h0 HX.out _ v hv
  go_wp2
  go_loopg [6, 7] s.size (fun g0 s6 s7 wr => ∃ k : Nat, k + g0 = s.size ∧ s7 = .int .i64 (k : Int) ∧ s6 = .int .i64 (enc (rdW nx (L.take k))) ∧ wr = V)
  case atStart => exact ⟨0, by omega, rfl, by rw [rdW_zero]; rfl, rfl⟩
  case round =>
    obtain ⟨k, hkg, rfl, rfl, rfl⟩ := hrel
    have hrl := HRL.out k
    have HRN : Hid (rdW nx (L.take k) = none → rdW nx L = none) := rdW_none
    have HRS : Hid (∀ b, L[k]? = some b → rdW nx (L.take (k + 1)) = (rdW nx (L.take k)).bind (nx (lxB b))) := fun b hb => rdW_succ hb
    have HRE : Hid (k = s.size → rdW nx (L.take k) = rdW nx L) := fun e => by rw [List.take_of_length_le (by rw [HLEN.out, e]; exact Nat.le_refl _)]
    generalize rdW nx (L.take k) = o at *
    by_cases hlt : k < s.size
    · have hki : (k : Int) < (s.size : Int) := by omega
      cases o with
      | none =>
        have HR : Hid (enc (rdW (nxG zs ys n) L) = -1) := by show _ = _; rw [HNX.out, HRN.out rfl]; rfl
        have hge : ¬ (0 : Int) ≤ -1 := by omega
        rw [show enc (none : Option Nat) = -1 from rfl]
        clear hrl HRS HRE HRN
        go_wp2
        go_ret
        exact ⟨by rw [HR.out]; rfl, HVB.out⟩
      | some v =>
        have hv := hrl v rfl
        obtain ⟨x, hx⟩ : ∃ x, L[k]? = some x := ⟨_, List.getElem?_eq_getElem (by rw [HLEN.out]; exact hlt)⟩
        have hix := fun W => HIX.out k x hx W
        have HS := Lib.hid (HRS.out x hx)
        have hvi : (v : Int) < (n : Int) := by omega
        have hge : (0 : Int) ≤ (v : Int) := by omega
        rw [show enc (some v) = (v : Int) from rfl]
        clear hx hrl HRS HRE HRN
        have h4 : ∀ t, t < 4 → lxB x = t → ∃ (AD : Addr) (cX : Nat), wr.cell? ⟨gs, t, none⟩ = some (.slice (some AD) n cX) ∧ wr.cell? (AD.add v) = some (.int .i64 (enc (rdW nx (L.take (k + 1))))) := fun t ht e => by
          rw [HS.out, e]
          exact HST.out t v ht hv
        by_cases x65 : x = 65
        · subst x65
          obtain ⟨AD, cX, e1, e2⟩ := h4 0 (by omega) rfl
          obtain ⟨z, HZ⟩ : ∃ z, Hid (enc (rdW nx (L.take (k + 1))) = z) := ⟨_, rfl⟩
          rw [HZ.out] at e2
          clear h4 HS
          go_wp2
          go_roundg (s.size - (k + 1))
          case measure => omega
          case rel => exact ⟨k + 1, by omega, by go_num, by rw [HZ.out], rfl⟩
        · have y65 : ((x.toNat : Int) == 65) = false := u8_ne (c := 65) x65
          by_cases x66 : x = 66
          · subst x66
            clear y65
            obtain ⟨AD, cX, e1, e2⟩ := h4 1 (by omega) rfl
            obtain ⟨z, HZ⟩ : ∃ z, Hid (enc (rdW nx (L.take (k + 1))) = z) := ⟨_, rfl⟩
            rw [HZ.out] at e2
            clear h4 HS
            go_wp2
            go_roundg (s.size - (k + 1))
            case measure => omega
            case rel => exact ⟨k + 1, by omega, by go_num, by rw [HZ.out], rfl⟩
          · have y66 : ((x.toNat : Int) == 66) = false := u8_ne (c := 66) x66
            by_cases x97 : x = 97
            · subst x97
              clear y65 y66
              obtain ⟨AD, cX, e1, e2⟩ := h4 2 (by omega) rfl
              obtain ⟨z, HZ⟩ : ∃ z, Hid (enc (rdW nx (L.take (k + 1))) = z) := ⟨_, rfl⟩
              rw [HZ.out] at e2
              clear h4 HS
              go_wp2
              go_roundg (s.size - (k + 1))
              case measure => omega
              case rel => exact ⟨k + 1, by omega, by go_num, by rw [HZ.out], rfl⟩
            · have y97 : ((x.toNat : Int) == 97) = false := u8_ne (c := 97) x97
              obtain ⟨AD, cX, e1, e2⟩ := h4 3 (by omega) (by unfold lxB; rw [if_neg x65, if_neg x66, if_neg x97])
              obtain ⟨z, HZ⟩ : ∃ z, Hid (enc (rdW nx (L.take (k + 1))) = z) := ⟨_, rfl⟩
              rw [HZ.out] at e2
              clear h4 HS
              clear x65 x66 x97
              generalize (x.toNat : Int) = bx at *
              go_wp2
              go_roundg (s.size - (k + 1))
              case measure => omega
              case rel => exact ⟨k + 1, by omega, by go_num, by rw [HZ.out], rfl⟩
    · obtain rfl : k = s.size := by omega
      have hki : ¬ (s.size : Int) < (s.size : Int) := by omega
      have HR : Hid (enc (rdW (nxG zs ys n) L) = enc o) := by show _ = _; rw [HNX.out, HRE.out rfl]
      go_wp2
      go_ret
      exact ⟨by rw [HR.out]; rfl, HVB.out⟩
end Go.Proofs.YthliifgjolgmgaaDoor
