/-
  FnParts: for every input the law returns true and leaves its arguments as they were. No condition.
-/
import Derived.Test.YtdipcjnnknggnaaGreatDoorRows
import Derived.Test.YtdipcjnnknggnaaGreatDoorCards
import Derived.Test.YtdipcjnnknggnaaGreatDoorTie
import Derived.Test.YtdipcjnnknggnaaGreatDoorPK
import Derived.Test.YtdipcjnnknggnaaGreatDoorMF
import Derived.Test.YtdipcjnnknggnaaGreatDoorQW
import Derived.WalkKit
import Derived.Deep.QuietTactic
import Derived.BigQuiet
import Derived.Outline
import Derived.ProofKit
import Derived.OpenShut
import Derived.ShutString
import Derived.ChangeOld
import Derived.Below
import Derived.ChangeSame
import Derived.ChangeVars
import Derived.JoinedOf
import Derived.RowKit
import Derived.RowKitTokens
import Derived.LaidLaws
import Derived.LaidHandle
import Derived.Stop.Joined
import Derived.SevenTiedAt
namespace Go.Proofs.YtdipcjnnknggnaaGreatDoor.fnParts
set_option maxRecDepth 100000
open Go.ChangeShapes Go.WideShapes Go.ChangeAt Go.RowKit
open Go.ChangeMaps (open_string shut_string)
set_option linter.unusedVariables false

theorem own : ownKnob Tryz.prog.godebug = none := by kernel_rfl
theorem laidOut : laidOutB Tryz.prog = true := by kernel_rfl

def IsRow (k : IntKind) (w : World) (a : Option Addr) (len cap : Nat) (zs : List Int) : Prop :=
  (a = none ∧ len = 0 ∧ cap = 0 ∧ zs = []) ∨
  ∃ x, a = some x ∧ len ≤ cap ∧ cap ≤ maxLen ∧ zs.length = cap ∧ (∀ i, i < zs.length → w.cell? (x.add i) = some (.int k (zs.getD i 0))) ∧ ∀ n ∈ zs, (Lit.int k n).wf = true

theorem src_of {w : World} {a : Option Addr} {len cap : Nat} {zs : List Int} (h : IsRow .u8 w a len cap zs) : ∃ bs : Nat → Nat, Src w w.heap.size a len bs ∧ len ≤ cap := by
  rcases h with ⟨rfl, rfl, rfl, rfl⟩ | ⟨x, rfl, hlc, _, hz, hc, hw⟩
  · exact ⟨fun _ => 0, ⟨fun _ => (by decide : (0 : Nat) < 256), fun j hj => absurd hj (by omega)⟩, Nat.le_refl _⟩
  · have hr : ∀ j, 0 ≤ zs.getD j 0 ∧ zs.getD j 0 < 256 := fun j => by
      rcases Nat.lt_or_ge j zs.length with h | h
      · have := hw zs[j] (List.getElem_mem h)
        rw [List.getD_eq_getElem?_getD, List.getElem?_eq_getElem h]
        simp [Lit.wf] at this
        have h0 : IntKind.u8.min = 0 := by decide
        have h1 : IntKind.u8.max = 255 := by decide
        rw [h0, h1] at this
        simp
        omega
      · rw [List.getD_eq_getElem?_getD, List.getElem?_eq_none h]; simp
    refine ⟨fun j => (zs.getD j 0).toNat, ⟨fun j => by have := hr j; show (zs.getD j 0).toNat < 256; omega, fun j hj => ⟨x, rfl, ?_, ?_⟩⟩, hlc⟩
    · have := block_lt_of_cell (hc 0 (by omega)); rwa [block_of_add] at this
    · rw [hc j (by omega), Int.toNat_of_nonneg (hr j).1]

set_option maxHeartbeats 4000000 in
theorem walk (a0 : Option Addr) (len0 cap0 : Nat) (z0 : List Int) (w : World) (het : EtAt w) (w0 : IsRow .u8 w a0 len0 cap0 z0) :
    Calls Tryz.prog 3 #[.slice a0 len0 cap0] w fun e w' => e = .returned (.bool true) ∧ Below w.heap.size w w' := by
  have HET := Lib.hid het
  clear het
  obtain ⟨bs, hS, hlc⟩ := src_of w0
  clear w0
  by_cases hbig : 1048576 < len0
  · go_enter Tryz.func3, Tryz.ntmps3
    go_wp2
    go_ret
    exact ⟨rfl, Below.refl _ _⟩
  go_enter Tryz.func3, Tryz.ntmps3
  go_wp2_with fail
  refine (drawSgParts_any _ _ _ _ _ hS hlc (by omega)).mono ?_
  rintro e W1 ⟨A, n, c, zs, rfl, hR, h4, hnc, h7, hbel⟩
  have H7 : Hid (∀ L ∈ zs, L.length ≤ 1048576) := fun L hL => by have := h7 L hL; omega
  have HLN := Lib.hid hR.len
  clear hS h7
  obtain ⟨X, hXE⟩ : ∃ X, (parI zs) = X := ⟨_, rfl⟩
  obtain ⟨ob, hob⟩ : ∃ ob, (sgS zs) = ob := ⟨_, rfl⟩
  have hi := implPar_any A n c zs W1 hR (HET.out.below hbel)
  rw [hXE, hob] at hi
  have HOB := Lib.hid hob
  have HXE := Lib.hid hXE
  have hle := parI_le zs
  rw [hXE] at hle
  have HLE := Lib.hid hle
  clear hob hXE hle
  go_wp2_with fail
  refine hi.mono ?_
  rintro e W2 ⟨v, rfl, oX, b⟩
  obtain ⟨Ax, nx, cx, rfl, hnx⟩ := oX.form_
  have hnx4 : nx ≤ 400 := by have := HLE.out.1; omega
  have HNX : Hid (X.length = nx) := hnx.symm
  clear hnx
  have hR2 := hR.below b
  replace hbel := hbel.trans (b.mono hbel.size)
  clear b hi hR
  have hs := specPar_any A n c zs W2 hR2 (by omega) H7.out
  rw [HXE.out, HOB.out] at hs
  go_wp2_with fail
  refine hs.mono ?_
  rintro e W3 ⟨v, rfl, oW, b⟩
  obtain ⟨Aw, nw, cw, rfl, hnw⟩ := oW.form_
  have hR := hR2.below b
  have hX := rss_oss_ (oX.below b)
  have hW := rss_oss_ oW
  have HXL : Hid (∀ L ∈ X, L.length ≤ 1048576) := HLE.out.2.2
  clear hnw oX oW hR2
  replace hbel := hbel.trans (b.mono hbel.size)
  clear b hs
  go_wp2_with fail
  refine (sameRows_any Ax Aw nx nw cx cw X X _ hX hW (by omega) HXL.out).mono ?_
  rintro e W4 ⟨rfl, b⟩
  rw [show decide (X = X) = true from decide_eq_true rfl]
  replace hR := hR.below b
  replace hX := hX.below b
  replace hW := hW.below b
  replace hbel := hbel.trans (b.mono hbel.size)
  clear b
  cases ob
  · go_wp2_with fail
    refine (sameRows_any Ax Aw nx nw cx cw X X _ hX hW (by omega) HXL.out).mono ?_
    rintro e W5 ⟨rfl, b⟩
    rw [show decide (X = X) = true from decide_eq_true rfl]
    replace hbel := hbel.trans (b.mono hbel.size)
    go_wp2
    go_ret
    exact ⟨rfl, hbel⟩
  · have HSG := Lib.hid HOB.out
    have HX4 := Lib.hid hX
    have HR4 := Lib.hid hR
    have HSUM : Hid ((X.map (prF zs)).sum = n) := by show _ = _; rw [← HXE.out, all_sum HSG.out]; exact HLN.out
    have HSUM2 : Hid ((X.map List.length).sum = (objI zs).length) := by show _ = _; rw [← HXE.out, obj_sum HSG.out]
    have hol := objI_len zs
    clear hW hR hX
    go_wp2
    go_loopw [8, 9, 10] (fun s t i wr => ∃ k : Nat, k ≤ nx ∧ i = .int .i64 (k : Int) ∧ s = .int .i64 ((((X.take k).map (prF zs)).sum : Nat) : Int) ∧ t = .int .i64 ((((X.take k).map List.length).sum : Nat) : Int) ∧ Below W4.heap.size W4 wr ∧ Below w.heap.size w wr) (fun _ _ i _ => nx - (intOf i).toNat)
    case atStart => exact ⟨0, Nat.zero_le _, rfl, rfl, rfl, Below.refl _ _, hbel⟩
    case round =>
      clear hbel
      obtain ⟨k, hk, rfl, rfl, rfl, hB4, hbel⟩ := hrel
      by_cases hlt : k < nx
      · have hkl : k < X.length := by have := HNX.out; omega
        obtain ⟨ad, Ak, ck, rfl, hab, hck, hrk⟩ := (HX4.out.below hB4).at_ hlt
        have hent : X[k]?.getD [] = ent X k := rfl
        rw [hent] at hck hrk
        have hPm : ent X k ∈ X := ent_mem hkl
        obtain ⟨hob1, hl0⟩ := hdP_ob (P := ent X k) HSG.out (by rw [HXE.out]; exact hPm)
        obtain ⟨ai, rfl, hai, hcl⟩ := hrk.at_ hl0
        rw [add_zero_] at hcl
        replace hcl : wr.cell? ai = some (.int .i64 (hdP (ent X k))) := hcl
        have HS1 := Lib.hid (sum_step (f := prF zs) hkl)
        have HS2 := Lib.hid (sum_step (f := List.length) hkl)
        have hT1 := sum_take (prF zs) X (k + 1)
        have hT2 := sum_take List.length X (k + 1)
        rw [HSUM.out, HS1.out] at hT1
        rw [HSUM2.out, HS2.out] at hT2
        have hpf : prF zs (ent X k) = (frL zs (hdP (ent X k)) (hdP (ent X k))).length * (ent X k).length * (ent X k).length := rfl
        have hiL := implLoc_any A n c zs (hdP (ent X k)) wr (HR4.out.below hB4) (HET.out.below hbel)
        rw [hob1] at hiL
        have hab1 : (ad.add k).block < wr.heap.size := by rw [block_of_add]; exact hab
        have hki : (k : Int) < (nx : Int) := by omega
        clear hent hPm hob1 hrk hab hkl
        generalize hdP (ent X k) = a at *
        generalize (frL zs a a).length = m at *
        generalize prF zs (ent X k) = x at *
        generalize (ent X k).length = l at *
        generalize ((X.take k).map (prF zs)).sum = ss at *
        generalize ((X.take k).map List.length).sum = st at *
        obtain ⟨u, hu⟩ : ∃ u, m * l = u := ⟨_, rfl⟩
        rw [hu] at hpf
        have hux : u ≤ x := by rw [hpf]; exact Nat.le_mul_of_pos_right u hl0
        obtain ⟨y, hy⟩ : ∃ y, ss + x = y := ⟨_, rfl⟩
        have hui : (m : Int) * (l : Int) = (u : Int) := by rw [← hu]; exact (Int.natCast_mul m l).symm
        have hxi : (u : Int) * (l : Int) = (x : Int) := by rw [hpf]; exact (Int.natCast_mul u l).symm
        have hyi : (ss : Int) + (x : Int) = (y : Int) := by omega
        rw [hy] at HS1
        have hbu : u ≤ 1048576 := by clear hyi hxi hui; omega
        have hw1 := (wrap_small hbu).1
        have hw2 := (wrap_small hbu).2
        have hbx : x ≤ 1048576 := by clear hyi hxi hui; omega
        have hw3 := (wrap_small hbx).1
        have hw4 := (wrap_small hbx).2
        have hby : y ≤ 1048576 := by clear hyi hxi hui; omega
        have hw5 := (wrap_small hby).1
        have hw6 := (wrap_small hby).2
        have hl0i : (0 : Int) < (l : Int) := by omega
        clear hu hpf hux hbu hbx hby
        go_wp2_with fail
        refine hiL.mono ?_
        rintro e W5 ⟨rfl, b⟩
        have hB5 := hB4.trans (b.mono hB4.size)
        have hbel5 := hbel.trans (b.mono hbel.size)
        have hck5 : W5.cell? (ad.add k) = some (.slice (some ai) l ck) := (b.cell hab1).trans hck
        clear b hiL hB4 hbel hck hcl hab1 hai
        go_wp2
        refine wp_region_held_drew (S := (fun w' => w'.cell? (ad.add k) = some (.slice (some ai) l ck))) (by kernel_rfl) ?_ (fun hHeld => ?_)
        · exact hck5
        refine wpAnyH_take (i := 0) (v := .int .i64 (ss : Int)) (by rw [List.getElem?_toArray]; rfl) (by kernel_rfl) (by kernel_rfl) (by kernel_rfl) (by exact fun _ _ _ h => h) (Or.inl ⟨by rfl, fun w hSw => by (try dsimp only at hSw); go_simp⟩) (by assumption) ?_
        try simp only [Act.put, List.setIfInBounds_toArray, List.set_cons_zero, List.set_cons_succ]
        refine wpAnyH_take (i := 1) (v := .int .i64 (m : Int)) (by rw [List.getElem?_toArray]; rfl) (by kernel_rfl) (by kernel_rfl) (by kernel_rfl) (by exact fun _ _ _ h => h) (Or.inl ⟨by rfl, fun w hSw => by (try dsimp only at hSw); go_simp⟩) (by assumption) ?_
        try simp only [Act.put, List.setIfInBounds_toArray, List.set_cons_zero, List.set_cons_succ]
        refine wpAnyH_take (i := 2) (v := .slice (some ad) nx cx) (by rw [List.getElem?_toArray]; rfl) (by kernel_rfl) (by kernel_rfl) (by kernel_rfl) (by exact fun _ _ _ h => h) (Or.inl ⟨by rfl, fun w hSw => by (try dsimp only at hSw); go_simp⟩) (by assumption) ?_
        try simp only [Act.put, List.setIfInBounds_toArray, List.set_cons_zero, List.set_cons_succ]
        refine wpAnyH_take (i := 3) (v := .int .i64 (k : Int)) (by rw [List.getElem?_toArray]; rfl) (by kernel_rfl) (by kernel_rfl) (by kernel_rfl) (by exact fun _ _ _ h => h) (Or.inl ⟨by rfl, fun w hSw => by (try dsimp only at hSw); go_simp⟩) (by assumption) ?_
        try simp only [Act.put, List.setIfInBounds_toArray, List.set_cons_zero, List.set_cons_succ]
        refine wpAnyH_take (i := 4) (v := .pointer (some (ad.add k))) (by rw [List.getElem?_toArray]; rfl) (by kernel_rfl) (by kernel_rfl) (by kernel_rfl) (by exact fun _ _ _ h => h) (Or.inl ⟨by rfl, fun w hSw => by (try dsimp only at hSw); go_simp⟩) (by assumption) ?_
        try simp only [Act.put, List.setIfInBounds_toArray, List.set_cons_zero, List.set_cons_succ]
        refine wpAnyH_take (i := 5) (v := .slice (some ai) l ck) (by rw [List.getElem?_toArray]; rfl) (by kernel_rfl) (by kernel_rfl) (by kernel_rfl) (by exact fun _ _ _ h => h) (Or.inl ⟨by rfl, fun w hSw => by (try dsimp only at hSw); go_simp⟩) (by assumption) ?_
        try simp only [Act.put, List.setIfInBounds_toArray, List.set_cons_zero, List.set_cons_succ]
        refine wpAnyH_take (i := 6) (v := .int .i64 (l : Int)) (by rw [List.getElem?_toArray]; rfl) (by kernel_rfl) (by kernel_rfl) (by kernel_rfl) (by exact fun _ _ _ h => h) (Or.inl ⟨by rfl, fun w hSw => by (try dsimp only at hSw); go_simp⟩) (by assumption) ?_
        try simp only [Act.put, List.setIfInBounds_toArray, List.set_cons_zero, List.set_cons_succ]
        refine wpAnyH_take (i := 7) (v := .int .i64 (u : Int)) (by rw [List.getElem?_toArray]; rfl) (by kernel_rfl) (by kernel_rfl) (by kernel_rfl) (by exact fun _ _ _ h => h) (Or.inl ⟨by rfl, fun w hSw => by (try dsimp only at hSw); go_simp⟩) (by assumption) ?_
        try simp only [Act.put, List.setIfInBounds_toArray, List.set_cons_zero, List.set_cons_succ]
        refine wpAnyH_take (i := 8) (v := .slice (some ad) nx cx) (by rw [List.getElem?_toArray]; rfl) (by kernel_rfl) (by kernel_rfl) (by kernel_rfl) (by exact fun _ _ _ h => h) (Or.inl ⟨by rfl, fun w hSw => by (try dsimp only at hSw); go_simp⟩) (by assumption) ?_
        try simp only [Act.put, List.setIfInBounds_toArray, List.set_cons_zero, List.set_cons_succ]
        refine wpAnyH_take (i := 9) (v := .int .i64 (k : Int)) (by rw [List.getElem?_toArray]; rfl) (by kernel_rfl) (by kernel_rfl) (by kernel_rfl) (by exact fun _ _ _ h => h) (Or.inl ⟨by rfl, fun w hSw => by (try dsimp only at hSw); go_simp⟩) (by assumption) ?_
        try simp only [Act.put, List.setIfInBounds_toArray, List.set_cons_zero, List.set_cons_succ]
        refine wpAnyH_take (i := 10) (v := .pointer (some (ad.add k))) (by rw [List.getElem?_toArray]; rfl) (by kernel_rfl) (by kernel_rfl) (by kernel_rfl) (by exact fun _ _ _ h => h) (Or.inl ⟨by rfl, fun w hSw => by (try dsimp only at hSw); go_simp⟩) (by assumption) ?_
        try simp only [Act.put, List.setIfInBounds_toArray, List.set_cons_zero, List.set_cons_succ]
        refine wpAnyH_take (i := 11) (v := .slice (some ai) l ck) (by rw [List.getElem?_toArray]; rfl) (by kernel_rfl) (by kernel_rfl) (by kernel_rfl) (by exact fun _ _ _ h => h) (Or.inl ⟨by rfl, fun w hSw => by (try dsimp only at hSw); go_simp⟩) (by assumption) ?_
        try simp only [Act.put, List.setIfInBounds_toArray, List.set_cons_zero, List.set_cons_succ]
        refine wpAnyH_take (i := 12) (v := .int .i64 (l : Int)) (by rw [List.getElem?_toArray]; rfl) (by kernel_rfl) (by kernel_rfl) (by kernel_rfl) (by exact fun _ _ _ h => h) (Or.inl ⟨by rfl, fun w hSw => by (try dsimp only at hSw); go_simp⟩) (by assumption) ?_
        try simp only [Act.put, List.setIfInBounds_toArray, List.set_cons_zero, List.set_cons_succ]
        refine wpAnyH_take (i := 13) (v := .int .i64 (x : Int)) (by rw [List.getElem?_toArray]; rfl) (by kernel_rfl) (by kernel_rfl) (by kernel_rfl) (by exact fun _ _ _ h => h) (Or.inl ⟨by rfl, fun w hSw => by (try dsimp only at hSw); go_simp⟩) (by assumption) ?_
        try simp only [Act.put, List.setIfInBounds_toArray, List.set_cons_zero, List.set_cons_succ]
        refine wpAnyH_take (i := 14) (v := .int .i64 (y : Int)) (by rw [List.getElem?_toArray]; rfl) (by kernel_rfl) (by kernel_rfl) (by kernel_rfl) (by exact fun _ _ _ h => h) (Or.inl ⟨by rfl, fun w hSw => by (try dsimp only at hSw); go_simp⟩) (by assumption) ?_
        try simp only [Act.put, List.setIfInBounds_toArray, List.set_cons_zero, List.set_cons_succ]
        refine wpAnyH_take (i := 15) (v := .int .i64 (y : Int)) (by rw [List.getElem?_toArray]; rfl) (by kernel_rfl) (by kernel_rfl) (by kernel_rfl) (by exact fun _ _ _ h => h) (Or.inl ⟨by rfl, fun w hSw => by (try dsimp only at hSw); go_simp⟩) (by assumption) ?_
        try simp only [Act.put, List.setIfInBounds_toArray, List.set_cons_zero, List.set_cons_succ]
        refine wpAnyH_done (by kernel_rfl) ?_ _
        go_wp2
        go_roundw
        case rel => exact ⟨k + 1, by omega, by go_num, by rw [HS1.out], by rw [HS2.out]; go_num, hB5.drew, hbel5.drew⟩
        case measure => simp [intOf]; omega
      · obtain rfl : k = nx := by omega
        have HE1 : Hid (((X.take k).map (prF zs)).sum = n) := by show _ = _; rw [List.take_of_length_le (by have := HNX.out; omega), HSUM.out]
        have HE2 : Hid (((X.take k).map List.length).sum = (objI zs).length) := by show _ = _; rw [List.take_of_length_le (by have := HNX.out; omega), HSUM2.out]
        have hO := implObj_any A n c zs wr (HR4.out.below hB4) (HET.out.below hbel)
        rw [HSG.out] at hO
        rw [HE1.out, HE2.out]
        generalize objI zs = os at *
        go_wp2_with fail
        refine hO.mono ?_
        rintro e W5 ⟨v, rfl, oO, b⟩
        obtain ⟨A5, c5, rfl⟩ := own_slice oO
        have hbel5 := hbel.trans (b.mono hbel.size)
        clear oO b hO hbel
        go_wp2
        go_ret
        exact ⟨rfl, hbel5⟩

/-! ### THE ROW's STEP -/
theorem et : Tryz.prog.globalNamed "errors.errorType" = some 0 := by kernel_rfl
theorem rt : (Tryz.prog.cutTypes.find? (·.1 == "internal/reflectlite.rtype")).map (·.2) = some 192 := by kernel_rfl
theorem oneRow : ((List.range 251).filter fun t => Tryz.prog.rowNamed t [101, 114, 114, 111, 114]) = [99] := by kernel_rfl
theorem tsize : Tryz.prog.types.size = 251 := by kernel_rfl
abbrev laidL {H : Type} : List (String × DataW H) := [("errors.errorType", Rows.laid_errors_errorType)]
/-- what the condition gives a walk: the variable's one cell -/
theorem handle_of_laid {W : World} (h : laidMetH Tryz.prog laidL W) : EtAt W := by
  have h' : laidMet Tryz.prog [] W ∧ handlesMet Tryz.prog laidL W := h
  obtain ⟨name, u, ty, e1, e2, e3, e4, e5⟩ := h'.2 _ (List.mem_singleton.2 rfl)
  have en : name = [101, 114, 114, 111, 114] := (Option.some.inj e1).symm
  subst en
  obtain rfl := Option.some.inj (rt.symm.trans e2)
  have hm : ty ∈ (List.range 251).filter fun t => Tryz.prog.rowNamed t [101, 114, 114, 111, 114] := List.mem_filter.2 ⟨List.mem_range.2 (by rw [← tsize]; exact e3), e4⟩
  rw [oneRow] at hm
  obtain rfl := List.mem_singleton.1 hm
  have hh : typeHandle Tryz.prog 99 = .pointer (some ⟨1, 99, none⟩) := by kernel_rfl
  rw [hh] at e5
  unfold EtAt
  simpa using World.var?_cell et e5 0
/-- a world that meets the condition -/
noncomputable def laidWorld (os : Os) : World :=
  let w0 := World.holding Tryz.prog os ⟨#[], #[], []⟩
  { w0 with heap := w0.heap.modify 0 fun
      | .cells _ t frozen => .cells #[.iface 192 (.agg #[.pointer (some ⟨1, 99, none⟩)])] t frozen
      | o => o }
theorem laidWorld_met (os : Os) (args : Array Value) : laidMetH Tryz.prog laidL ((laidWorld os).forCall (fun _ _ => 0) ⟨#[], args, []⟩).memory :=
  laidMetH_of_parts (laidMet_nil _ _) (by kernel_rfl)

set_option maxRecDepth 100000 in
theorem lifted (os : Os) (started : os.Started) (H : Type) (enc : TypeId × Value → H) :
    ReturnsInHanded {} Tryz.checked os 3 .any (fun w args => (Rows.fnPartsSpec.pre enc Tryz.prog Tryz.f3 [] false w args ∧ laidMetH Tryz.prog laidL w) ∧ sizedMet enc Tryz.prog Tryz.f3 (OpenSpec.ofChange Rows.fnPartsSpec) false w args) (Rows.fnPartsSpec.post enc Tryz.prog Tryz.f3 false true false false) := by
  refine returnsInHanded_of_change_and (C := Tryz.checked) (X := fun w _ => laidMetH Tryz.prog laidL w) (fun _ _ _ hh h => h.of_heap hh) own started (by kernel_rfl) Tryz.func3
    (ChangeSpec.witness_at (enc := enc) (C := Tryz.checked) (os := os) (X := fun w _ => laidMetH Tryz.prog laidL w) false (laidWorld os) #[.slice none 0 0] 8 rfl (by kernel_rfl) (by kernel_rfl) (by kernel_rfl) (by kernel_rfl) (by kernel_rfl) (laidWorld_met os _)) ?_
  intro W base args ds gs before hval0 hW _ _ hL _
  have hval : ∀ (j : Nat) t v, Tryz.f3.params[j]? = some t → args[j]? = some v → Value.okWide Tryz.prog W .any base t v := hval0
  have hW' := hW
  obtain ⟨p, q, hA0, hV, rfl, hfz, hnd⟩ := hW
  have hA : DataW.TrodAll enc Tryz.prog W 0 (fun _ => true) true Tryz.f3.params.toList args.toList ds p := hA0
  rw [Tryz.params3] at hA hval
  obtain ⟨v0, vs0, d0, ds0, p0, qq0, hargs, rfl, rfl, h0, r0⟩ := trodAll_cons hA
  obtain ⟨rfl, rfl, rfl⟩ := trodAll_nil r0
  obtain rfl : args = #[v0] := by cases args; simp_all
  obtain ⟨rfl, rfl⟩ := trodVars_none hV
  obtain ⟨a0, len0, cap0, rfl⟩ := okWide_slice Tryz.underlying22 (hval 0 22 v0 rfl rfl)
  have k0 := h0
  have lt0 : ∀ x ∈ p0, x.block < W.heap.size := by obtain ⟨m, hm⟩ := k0; exact DataW.trod_lt m _ _ _ hm
  obtain ⟨z0, w0⟩ : ∃ zs, IsRow .u8 W a0 len0 cap0 zs := by
    obtain ⟨fuel, hf⟩ := h0
    rcases open_ints Tryz.underlying22 Tryz.underlying5 (by kernel_rfl) hf with ⟨hcs, _⟩ | ⟨x, l, c, zs, hcs, _, hl, hm, hz, _, hcell, hwz⟩
    · simp [Value.cells] at hcs
      obtain ⟨rfl, rfl, rfl⟩ := hcs
      exact ⟨[], .inl ⟨rfl, rfl, rfl, rfl⟩⟩
    · simp [Value.cells] at hcs
      obtain ⟨rfl, rfl, rfl⟩ := hcs
      exact ⟨zs, .inr ⟨_, rfl, hl, hm, by simpa using hz, hcell, hwz⟩⟩
  clear hA0 hval0
  refine (walk a0 len0 cap0 z0 W (handle_of_laid hL) w0).mono fun e W' ⟨he, bel⟩ => ?_
  subst he
  exact ⟨_, rfl, _, _, _, [], _, [], hW', trodAll_mk1 (shut_bool Tryz.underlying4 _), (trodAll_cons_mk (Below.trod laidOut (by kernel_rfl) (of_decide_eq_true (by kernel_rfl)) k0 bel lt0) trodAll_mk0), rfl, bel.frame _, fun h => by cases h⟩

theorem over : Rows.fnPartsRow.holds Tryz.pinned (OpenSpec.ofChange Rows.fnPartsSpec) :=
  OpenClaim.holds_of_wide_leaving 3 Tryz.f3 rfl rfl rfl rfl rfl rfl rfl ⟨rfl, rfl, rfl, rfl, rfl⟩ rfl rfl rfl rfl rfl (by kernel_rfl) Tryz.func3 (by kernel_rfl)
    (of_decide_eq_true (by kernel_rfl)) (by unfold Func.isWrapper; first | (rw [if_pos (by decide +kernel)]; kernel_rfl) | (rw [if_neg (by decide +kernel)]; exact ⟨rfl, rfl⟩))
    (fun os started H enc _ => leaving_of_handed (lifted os started H enc))

theorem proved : Rows.FnPartsCardSaid :=
  tied_goes .later [] [.handle] true _ true
    over (fun _ h => by cases h) (by kernel_rfl) (fun _ h => by cases h) fnParts_row_tie rfl ⟨rfl, rfl⟩ (by kernel_rfl) rfl
    (fun f fn hf hfn => by
      obtain rfl : f = 3 := Option.some.inj ((show Tryz.prog.funcNamed Rows.fnPartsRow.func = some 3 by kernel_rfl).symm.trans hf) |>.symm
      obtain rfl : fn = Tryz.f3 := (Option.some.inj (Tryz.func3.symm.trans hfn)).symm
      exact ⟨by kernel_rfl, fun j t ht => by
        rw [Tryz.params3] at ht
        rcases j with _ | j
        · have h0 : t = 22 := by simpa using ht.symm
          subst h0
          exact (show Tryz.prog.wantsStandIn 22 = false by kernel_rfl)
        simp at ht⟩)
    (by kernel_rfl)
#print axioms proved
end Go.Proofs.YtdipcjnnknggnaaGreatDoor.fnParts
