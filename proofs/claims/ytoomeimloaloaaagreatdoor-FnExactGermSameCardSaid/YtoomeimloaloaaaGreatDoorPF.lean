/-
  Af.
-/
import Derived.Test.YtoomeimloaloaaaGreatDoorPE
namespace Go.Proofs.YtoomeimloaloaaaGreatDoor
set_option maxRecDepth 100000
set_option linter.unusedVariables false
set_option linter.unusedSimpArgs false
set_option linter.unusedSectionVars false

/-! (impl.arrows).lists, objects, isObject, between; impl.arrowsFrom, ArrowObjects, ArrowLocal, ArrowFrom. -/
section
open Go.RowKit Go.Maps

/-- the charts of a list that is a semigroup, none of others -/
def sgl (zs : List (List Int)) : List (List Int) := if sgS zs = true then zs else []
def m0 (zs : List (List Int)) : Nat := (ent zs 0).length
theorem sgl_ch {zs : List (List Int)} : ∀ L ∈ sgl zs, isC L = true ∧ L.length = m0 zs := fun L hL => by
  unfold sgl at hL
  split at hL
  · rename_i h; exact (sgS_iff.1 h).ch L hL
  · cases hL
theorem sgl_len (zs : List (List Int)) : (sgl zs).length ≤ 400 := by
  unfold sgl
  split
  · rename_i h; exact (sgS_iff.1 h).most
  · simp
set_option maxHeartbeats 1000000 in
theorem arrowsFrom_any (A : Option Addr) (n c : Nat) (zs : List (List Int)) (w : World) (h : RSS w A n zs) (hg : EtAt w) :
    Calls Tryz.prog 40 #[.slice A n c] w fun e w' => ∃ v, e = .returned (.tuple #[v, .bool (sgS zs)]) ∧ w'.ownsRow w.heap.size 65 9 v (sgl zs).length (awc (m0 zs) (sgl zs)) ∧ Below w.heap.size w w' := by
  have hsg := told_any A n c zs w h hg
  clear h hg
  cases hS : sgS zs
  · have HS := Lib.hid hS
    have HL : Hid (sgl zs = []) := by show _ = _; unfold sgl; rw [hS]; rfl
    rw [hS] at hsg
    clear hS
    go_enter Tryz.func40, Tryz.ntmps40
    go_wp2_with fail
    refine hsg.mono ?_
    rintro e w1 ⟨v, rfl, hy, hno, hb⟩
    obtain rfl := hno HS.out
    clear hy hno hsg
    go_wp2_with fail
    refine (arrowsOf_none w1).mono ?_
    rintro e w2 ⟨rfl, hb2⟩
    have hB := hb.trans (hb2.mono hb.size)
    clear hb hb2
    go_wp2
    go_ret2
    exact ⟨_, rfl, by rw [HL.out]; exact World.ownsRow_nil _ _ _ _, hB⟩
  · have HS := Lib.hid hS
    have HL : Hid (sgl zs = zs) := by show _ = _; unfold sgl; rw [hS]; rfl
    have HX := Lib.hid (sgS_iff.1 hS)
    rw [hS] at hsg
    clear hS
    go_enter Tryz.func40, Tryz.ntmps40
    go_wp2_with fail
    refine hsg.mono ?_
    rintro e w1 ⟨v, rfl, hy, hno, hb⟩
    obtain ⟨b, rfl, hbl, hown⟩ := hy HS.out
    have hao := arrowsOf_any b (m0 zs) zs.length zs rfl (by have := HX.out.most; omega) HX.out.ch HX.out.srt w1 hown
    clear hy hno hsg hown
    go_wp2_with fail
    refine hao.mono ?_
    rintro e w2 ⟨v, rfl, hown, hb2⟩
    have hB := hb.trans (hb2.mono hb.size)
    have hs := hb.size
    clear hb hb2 hao
    go_wp2
    go_ret2
    exact ⟨_, rfl, by rw [HL.out]; exact own_base hown hs, hB⟩
theorem objects1_in (m : Nat) (L : List Int) (W : World) : Calls Tryz.prog 71 #[.agg #[.int .i64 ((m : Int)), .int .i64 (ofL L 0), .int .i64 (ofL L 1), .int .i64 (ofL L 2), .int .i64 (ofL L 3), .int .i64 (ofL L 4), .int .i64 (ofL L 5), .int .i64 ((doN L : Nat)), .int .i64 ((raN L : Nat))]] W fun e W' => e = .returned (.int .i64 (doN L : Nat)) ∧ Below W.heap.size W W' := by
  have hB : Below W.heap.size W (W.alloc (.cells #[.int .i64 ((m : Int)), .int .i64 (ofL L 0), .int .i64 (ofL L 1), .int .i64 (ofL L 2), .int .i64 (ofL L 3), .int .i64 (ofL L 4), .int .i64 (ofL L 5), .int .i64 ((doN L : Nat)), .int .i64 ((raN L : Nat))] 65)) := (Below.refl _ _).alloc (Nat.le_refl _) _
  go_enter Tryz.func71, Tryz.ntmps71
  go_wp2
  go_ret
  exact ⟨rfl, hB⟩
def doI (L : List Int) : Int := (doN L : Nat)
def raI (L : List Int) : Int := (raN L : Nat)
set_option maxHeartbeats 400000 in
theorem objects_any (m lo : Nat) (v : Value) (Ls : List (List Int)) (hq : Ls.length ≤ 1048576) (w : World) (hown : w.ownsRow lo 65 9 v Ls.length (awc m Ls)) :
    Calls Tryz.prog 41 #[v] w fun e w' => ∃ v', e = .returned v' ∧ w'.ownsRow w.heap.size 3 1 v' (nums (Ls.map doI)).length (ivs (nums (Ls.map doI))) ∧ Below w.heap.size w w' := by
  have eg : ∀ args w, (callFunc 71 args).run Tryz.prog w = .ok (.enter 71 args) w := enters_of Tryz.func71 (by kernel_rfl) rfl
  have hN := numbers_any m 71 lo #[] #[] v Ls hq doI w eg (fun L _ W _ => objects1_in m L W) hown
  obtain ⟨A, cp, rfl⟩ := own_shape hown
  clear hown
  go_enter Tryz.func41, Tryz.ntmps41
  go_wp2_with fail
  refine hN.mono ?_
  rintro e w1 ⟨v', rfl, ho, hb⟩
  go_wp2
  go_ret
  exact ⟨_, rfl, ho, hb⟩
def btB (a b : Int) (L : List Int) : Bool := decide (doI L = a) && decide (raI L = b)
theorem eqI_dec (x y : Int) : (x == y) = decide (x = y) := by
  by_cases e : x = y
  · simp [e]
  · rw [decide_eq_false e]; simp [e]
set_option maxHeartbeats 400000 in
theorem between1_in (m x y : Nat) (a b : Int) (L : List Int) (W : World) (hx : W.cell? ⟨x, 0, none⟩ = some (.int .i64 a)) (hy : W.cell? ⟨y, 0, none⟩ = some (.int .i64 b)) (hxl : x < W.heap.size) (hyl : y < W.heap.size) :
    Calls Tryz.prog 75 #[.agg #[.int .i64 ((m : Int)), .int .i64 (ofL L 0), .int .i64 (ofL L 1), .int .i64 (ofL L 2), .int .i64 (ofL L 3), .int .i64 (ofL L 4), .int .i64 (ofL L 5), .int .i64 ((doN L : Nat)), .int .i64 ((raN L : Nat))], .pointer (some ⟨x, 0, none⟩), .pointer (some ⟨y, 0, none⟩)] W fun e W' => e = .returned (.bool (btB a b L)) ∧ Below W.heap.size W W' := by
  have hB : Below W.heap.size W (W.alloc (.cells #[.int .i64 ((m : Int)), .int .i64 (ofL L 0), .int .i64 (ofL L 1), .int .i64 (ofL L 2), .int .i64 (ofL L 3), .int .i64 (ofL L 4), .int .i64 (ofL L 5), .int .i64 ((doN L : Nat)), .int .i64 ((raN L : Nat))] 65)) := (Below.refl _ _).alloc (Nat.le_refl _) _
  have hx1 : (W.alloc (.cells #[.int .i64 ((m : Int)), .int .i64 (ofL L 0), .int .i64 (ofL L 1), .int .i64 (ofL L 2), .int .i64 (ofL L 3), .int .i64 (ofL L 4), .int .i64 (ofL L 5), .int .i64 ((doN L : Nat)), .int .i64 ((raN L : Nat))] 65)).cell? ⟨x, 0, none⟩ = some (.int .i64 a) := (hB.cell hxl).trans hx
  have hy1 : (W.alloc (.cells #[.int .i64 ((m : Int)), .int .i64 (ofL L 0), .int .i64 (ofL L 1), .int .i64 (ofL L 2), .int .i64 (ofL L 3), .int .i64 (ofL L 4), .int .i64 (ofL L 5), .int .i64 ((doN L : Nat)), .int .i64 ((raN L : Nat))] 65)).cell? ⟨y, 0, none⟩ = some (.int .i64 b) := (hB.cell hyl).trans hy
  have HBT : Hid (btB a b L = (decide (doI L = a) && decide (raI L = b))) := rfl
  have h1 := eqI_dec (doN L : Nat) a
  have h2 := eqI_dec (raN L : Nat) b
  rw [show (decide (((doN L : Nat) : Int) = a)) = decide (doI L = a) from rfl] at h1
  rw [show (decide (((raN L : Nat) : Int) = b)) = decide (raI L = b) from rfl] at h2
  clear hx hy
  generalize decide (doI L = a) = p at *
  generalize decide (raI L = b) = q at *
  go_enter Tryz.func75, Tryz.ntmps75
  cases p
  · go_wp2
    go_ret
    exact ⟨by rw [HBT.out]; rfl, hB⟩
  · go_wp2
    go_ret
    exact ⟨by rw [HBT.out]; rfl, hB⟩
set_option maxHeartbeats 400000 in
theorem between_any (m lo : Nat) (a b : Int) (v : Value) (Ls : List (List Int)) (hq : Ls.length ≤ 1048576) (w : World) (hown : w.ownsRow lo 65 9 v Ls.length (awc m Ls)) :
    Calls Tryz.prog 45 #[v, .int .i64 a, .int .i64 b] w fun e w' => ∃ v', e = .returned v' ∧ w'.ownsRow w.heap.size 65 9 v' (Ls.filter (btB a b)).length (awc m (Ls.filter (btB a b))) ∧ Below w.heap.size w w' := by
  have eg : ∀ args w, (callFunc 75 args).run Tryz.prog w = .ok (.enter 75 args) w := enters_of Tryz.func75 (by kernel_rfl) rfl
  have hB0 : Below w.heap.size w ((w.alloc (.cells #[.int .i64 a] 3)).alloc (.cells #[.int .i64 b] 3)) := ((Below.refl _ w).alloc (Nat.le_refl _) _).alloc (by simp) _
  have hX := (Blk.new w 3 #[.int .i64 a]).alloc (.cells #[.int .i64 b] 3)
  have hY := Blk.new (w.alloc (.cells #[.int .i64 a] 3)) 3 #[.int .i64 b]
  rw [World.size_alloc] at hY
  have hP := apart_any m 75 lo #[] #[.pointer (some ⟨w.heap.size, 0, none⟩), .pointer (some ⟨w.heap.size + 1, 0, none⟩)] v Ls hq (btB a b) ((w.alloc (.cells #[.int .i64 a] 3)).alloc (.cells #[.int .i64 b] 3)) eg
    (fun L _ W hW => between1_in m w.heap.size (w.heap.size + 1) a b L W ((hX.below hW hX.lt).cell 0) ((hY.below hW hY.lt).cell 0) (hX.below hW hX.lt).lt (hY.below hW hY.lt).lt) ((hown.alloc _).alloc _)
  obtain ⟨A, cp, rfl⟩ := own_shape hown
  have hs0 := hB0.size
  clear hown hX hY
  go_enter Tryz.func45, Tryz.ntmps45
  go_wp2_with fail
  refine hP.mono ?_
  rintro e w1 ⟨v', rfl, ho, hb⟩
  have hB := hB0.trans (hb.mono hs0)
  go_wp2
  go_ret
  exact ⟨_, rfl, own_base ho hs0, hB⟩
end

end Go.Proofs.YtoomeimloaloaaaGreatDoor
