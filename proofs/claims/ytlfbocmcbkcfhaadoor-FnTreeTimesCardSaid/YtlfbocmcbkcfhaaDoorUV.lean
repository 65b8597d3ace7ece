/-
  Du.
-/
import Derived.Deep.RegionLaw
import Derived.Test.YtlfbocmcbkcfhaaDoorUT
namespace Go.Proofs.YtlfbocmcbkcfhaaDoor
set_option maxRecDepth 100000
set_option linter.unusedVariables false
set_option linter.unusedSimpArgs false
set_option linter.unusedSectionVars false

/-! Two drawn trees: spec.l91Trees, spec.DrawTreeBelow, spec.DrawTreeTimes. -/
section
open Go.RowKit Go.Lib Go.Sort

/-- two drawn trees -/
def TreesL (w : World) (e' : Ending) (w' : World) : Prop :=
  ∃ (A : Option Addr) (n c : Nat) (zs : List ByteArray) (s : ByteArray) (B : Option Addr) (m d : Nat) (ys : List ByteArray) (t : ByteArray), e' = .returned (.tuple #[.agg #[.slice A n c, .string s], .agg #[.slice B m d, .string t]]) ∧ w'.ownsRow w.heap.size 9 1 (.slice A n c) n (svL zs) ∧ w'.ownsRow w.heap.size 9 1 (.slice B m d) m (svL ys) ∧ Szs zs s ∧ Szs ys t ∧ Below w.heap.size w w'
theorem trees_fin {w V : World} {base base' n c m d : Nat} {A B : Option Addr} {zs ys : List ByteArray} {s t : ByteArray} {cs cs' : Array Value} (hB : Below w.heap.size w V) (k1 : Blk V w.heap.size 25 cs) (k2 : Blk V (w.heap.size + 1) 25 cs')
    (h : V.ownsRow base 9 1 (.slice A n c) n (svL zs)) (h' : V.ownsRow base' 9 1 (.slice B m d) m (svL ys)) (hz : Szs zs s) (hz' : Szs ys t) (hb : w.heap.size ≤ base) (hb' : w.heap.size ≤ base') :
    TreesL w (.returned (.tuple #[.agg #[.slice A n c, .string s], .agg #[.slice B m d, .string t]])) ((((V.setCell ⟨w.heap.size, 0, none⟩ (.slice A n c)).setCell ⟨w.heap.size, 1, none⟩ (.string s)).setCell ⟨w.heap.size + 1, 0, none⟩ (.slice B m d)).setCell ⟨w.heap.size + 1, 1, none⟩ (.string t))
    ∧ TreesL w (.returned (.tuple #[.agg #[.slice A n c, .string s], .agg #[.slice B m d, .string t]])) ((((V.setCell ⟨w.heap.size + 1, 0, none⟩ (.slice B m d)).setCell ⟨w.heap.size + 1, 1, none⟩ (.string t)).setCell ⟨w.heap.size, 0, none⟩ (.slice A n c)).setCell ⟨w.heap.size, 1, none⟩ (.string s)) := by
  have a1 := own_blk_ne h k1 (by decide)
  have a2 := own_blk_ne h k2 (by decide)
  have b1 := own_blk_ne h' k1 (by decide)
  have b2 := own_blk_ne h' k2 (by decide)
  refine ⟨⟨A, n, c, zs, s, B, m, d, ys, t, rfl, own_down0 ?_ hb, own_down0 ?_ hb', hz, hz', ?_⟩, ⟨A, n, c, zs, s, B, m, d, ys, t, rfl, own_down0 ?_ hb, own_down0 ?_ hb', hz, hz', ?_⟩⟩
  · exact ownsRow_setCell_other (ownsRow_setCell_other (ownsRow_setCell_other (ownsRow_setCell_other h a1 _) a1 _) a2 _) a2 _
  · exact ownsRow_setCell_other (ownsRow_setCell_other (ownsRow_setCell_other (ownsRow_setCell_other h' b1 _) b1 _) b2 _) b2 _
  · exact (((hB.setCell (p := ⟨w.heap.size, 0, none⟩) (by simp) _).setCell (p := ⟨w.heap.size, 1, none⟩) (by simp) _).setCell (p := ⟨w.heap.size + 1, 0, none⟩) (by simp) _).setCell (p := ⟨w.heap.size + 1, 1, none⟩) (by simp) _
  · exact ownsRow_setCell_other (ownsRow_setCell_other (ownsRow_setCell_other (ownsRow_setCell_other h a2 _) a2 _) a1 _) a1 _
  · exact ownsRow_setCell_other (ownsRow_setCell_other (ownsRow_setCell_other (ownsRow_setCell_other h' b2 _) b2 _) b1 _) b1 _
  · exact (((hB.setCell (p := ⟨w.heap.size + 1, 0, none⟩) (by simp) _).setCell (p := ⟨w.heap.size + 1, 1, none⟩) (by simp) _).setCell (p := ⟨w.heap.size, 0, none⟩) (by simp) _).setCell (p := ⟨w.heap.size, 1, none⟩) (by simp) _

set_option maxHeartbeats 8000000 in
theorem l91Trees_any (A : Option Addr) (n c : Nat) (bs : Nat → Nat) (w : World) (h : Src w w.heap.size A n bs) (hnc : n ≤ c) (hn : n ≤ 1048576) :
    Calls Tryd.prog 60 #[.slice A n c] w (TreesL w) := by
  have hz : ((w.alloc (.cells #[.slice none 0 0, .string ⟨#[]⟩] 25)).alloc (.cells #[.slice none 0 0, .string ⟨#[]⟩] 25)).heap.size = w.heap.size + 1 + 1 := by simp
  have hS : Src ((w.alloc (.cells #[.slice none 0 0, .string ⟨#[]⟩] 25)).alloc (.cells #[.slice none 0 0, .string ⟨#[]⟩] 25)) ((w.alloc (.cells #[.slice none 0 0, .string ⟨#[]⟩] 25)).alloc (.cells #[.slice none 0 0, .string ⟨#[]⟩] 25)).heap.size A n bs := src_more ((h.keep fun q hq => World.cell?_alloc_lt _ _ _ hq).keep fun q hq => World.cell?_alloc_lt _ _ _ (by simp; omega)) (by rw [hz]; omega)
  have KBr1 : Hid (Blk ((w.alloc (.cells #[.slice none 0 0, .string ⟨#[]⟩] 25)).alloc (.cells #[.slice none 0 0, .string ⟨#[]⟩] 25)) w.heap.size 25 #[.slice none 0 0, .string ⟨#[]⟩]) := (Blk.new w _ _).alloc _
  have KBr2 : Hid (Blk ((w.alloc (.cells #[.slice none 0 0, .string ⟨#[]⟩] 25)).alloc (.cells #[.slice none 0 0, .string ⟨#[]⟩] 25)) (w.heap.size + 1) 25 #[.slice none 0 0, .string ⟨#[]⟩]) := by
    have := Blk.new (w.alloc (.cells #[.slice none 0 0, .string ⟨#[]⟩] 25)) 25 #[.slice none 0 0, .string ⟨#[]⟩]
    rwa [World.size_alloc] at this
  have HB : Hid (Below w.heap.size w ((w.alloc (.cells #[.slice none 0 0, .string ⟨#[]⟩] 25)).alloc (.cells #[.slice none 0 0, .string ⟨#[]⟩] 25))) := ((Below.refl _ w).alloc (Nat.le_refl _) _).alloc (by simp) _
  have HO := Lib.hid (open_any _ _ _ _ _ hS hnc hn)
  clear h hS
  go_enter Tryd.func60, Tryd.ntmps60
  go_wp2_with fail
  refine HO.out.mono ?_
  rintro e w1 ⟨R, rfl, hR, hRl, hRd, hb⟩
  rw [hz] at hR
  have hs1 := hRl
  have KBr1 := Lib.hid (KBr1.out.below hb KBr1.out.lt)
  have KBr2 := Lib.hid (KBr2.out.below hb KBr2.out.lt)
  have HB := Lib.hid (HB.out.trans (hb.mono HB.out.size))
  have HRd := Lib.hid hRd
  clear hb HO hRd hz
  have hlt := HRd.out.lt
  have HC := Lib.hid (l91Tree_any R 0 w1 HRd.out (by omega))
  go_wp2_with fail
  refine HC.out.mono ?_
  rintro e w2 ⟨At, nt, ct, zt, st, qt, rfl, ho, hsz, hqt, hRd, hg⟩
  have hsw2 := hg.size
  have KBr1 := Lib.hid (KBr1.out.grown hg (fun e => by injection e with e; have := HRd.out.lt; have := hRl; omega))
  have KBr2 := Lib.hid (KBr2.out.grown hg (fun e => by injection e with e; have := HRd.out.lt; have := hRl; omega))
  have HB := Lib.hid (gb_bel HB.out hg (by omega))
  have HRd := Lib.hid hRd
  have HRt := Lib.hid ho
  have HZt := Lib.hid hsz
  have hnt : nt ≤ 60 := HZt.out.n HRt.out
  clear ho hsz hg hRd HC
  have KLr1 : Hid (w.heap.size < w2.heap.size) := KBr1.out.lt
  have KLr2 : Hid ((w.heap.size + 1) < w2.heap.size) := KBr2.out.lt
  have KBr1 := Lib.hid (KBr1.out.alloc (.cells #[.slice At nt ct, .string st] 25))
  have KBr2 := Lib.hid (KBr2.out.alloc (.cells #[.slice At nt ct, .string st] 25))
  have HRt := Lib.hid (HRt.out.alloc (.cells #[.slice At nt ct, .string st] 25))
  have KBbt := Lib.hid (Blk.new w2 25 #[.slice At nt ct, .string st])
  have HB := Lib.hid (HB.out.alloc HB.out.size (.cells #[.slice At nt ct, .string st] 25))
  have HRd := Lib.hid (HRd.out.grown (row := none) (World.grownBy_alloc _ (.cells #[.slice At nt ct, .string st] 25) _) (fun _ e => by cases e))
  have hsat : (w2.alloc (.cells #[.slice At nt ct, .string st] 25)).heap.size = w2.heap.size + 1 := by simp
  have hlu := HRd.out.lt
  have HC := Lib.hid (l91Tree_any R qt (w2.alloc (.cells #[.slice At nt ct, .string st] 25)) HRd.out (by omega))
  go_wp2_with fail
  refine HC.out.mono ?_
  rintro e w3 ⟨Au, nu, cu, zu, su, qu, rfl, ho, hsz, hqu, hRd, hg⟩
  have hsw3 := hg.size
  have KBr1 := Lib.hid (KBr1.out.grown hg (fun e => by injection e with e; have := HRd.out.lt; have := hRl; omega))
  have KBr2 := Lib.hid (KBr2.out.grown hg (fun e => by injection e with e; have := HRd.out.lt; have := hRl; omega))
  have KBbt := Lib.hid (KBbt.out.grown hg (fun e => by injection e with e; have := HRd.out.lt; have := hRl; omega))
  have HRt := Lib.hid (own_R HRt.out hg (by omega))
  have HB := Lib.hid (gb_bel HB.out hg (by omega))
  have HRd := Lib.hid hRd
  have HRu := Lib.hid ho
  have HZu := Lib.hid hsz
  have hnu : nu ≤ 60 := HZu.out.n HRu.out
  clear ho hsz hg hRd HC
  have KLr1 : Hid (w.heap.size < w3.heap.size) := KBr1.out.lt
  have KLr2 : Hid ((w.heap.size + 1) < w3.heap.size) := KBr2.out.lt
  have KLbt : Hid (w2.heap.size < w3.heap.size) := KBbt.out.lt
  have KBr1 := Lib.hid (KBr1.out.alloc (.cells #[.slice Au nu cu, .string su] 25))
  have KBr2 := Lib.hid (KBr2.out.alloc (.cells #[.slice Au nu cu, .string su] 25))
  have KBbt := Lib.hid (KBbt.out.alloc (.cells #[.slice Au nu cu, .string su] 25))
  have HRt := Lib.hid (HRt.out.alloc (.cells #[.slice Au nu cu, .string su] 25))
  have HRu := Lib.hid (HRu.out.alloc (.cells #[.slice Au nu cu, .string su] 25))
  have KBbu := Lib.hid (Blk.new w3 25 #[.slice Au nu cu, .string su])
  have HB := Lib.hid (HB.out.alloc HB.out.size (.cells #[.slice Au nu cu, .string su] 25))
  have HRd := Lib.hid (HRd.out.grown (row := none) (World.grownBy_alloc _ (.cells #[.slice Au nu cu, .string su] 25) _) (fun _ e => by cases e))
  have hsau : (w3.alloc (.cells #[.slice Au nu cu, .string su] 25)).heap.size = w3.heap.size + 1 := by simp
  have hlp := HRd.out.lt
  have HC := Lib.hid (pick_any R qu 3 (w3.alloc (.cells #[.slice Au nu cu, .string su] 25)) HRd.out (by omega) (by omega) (by omega))
  go_wp2_with fail
  refine HC.out.mono ?_
  rintro e w4 ⟨x, rfl, hx, hRd, hg⟩
  have hsw4 := hg.size
  have KBr1 := Lib.hid (KBr1.out.grown hg (fun e => by injection e with e; have := HRd.out.lt; have := hRl; omega))
  have KBr2 := Lib.hid (KBr2.out.grown hg (fun e => by injection e with e; have := HRd.out.lt; have := hRl; omega))
  have KBbt := Lib.hid (KBbt.out.grown hg (fun e => by injection e with e; have := HRd.out.lt; have := hRl; omega))
  have KBbu := Lib.hid (KBbu.out.grown hg (fun e => by injection e with e; have := HRd.out.lt; have := hRl; omega))
  have HRt := Lib.hid (own_R HRt.out hg (by omega))
  have HRu := Lib.hid (own_R HRu.out hg (by omega))
  have HB := Lib.hid (gb_bel HB.out hg (by omega))
  clear hg hRd HC HRd
  by_cases hx0 : x = 0
  · have hxi : ((x : Int) == 0) = true := by rw [hx0]; rfl
    clear hx0
    have HC := Lib.hid (specTurned_any Au nu cu zu su w4 (RS.of_own HRu.out) (by omega) HZu.out.big.1)
    have kr10 : w4.cell? ⟨w.heap.size, 0, none⟩ = some (.slice none 0 0) := KBr1.out.cell 0
    have kr11 : w4.cell? ⟨w.heap.size, 1, none⟩ = some (.string ⟨#[]⟩) := KBr1.out.cell 1
    have kr1l : w.heap.size < w4.heap.size := KBr1.out.lt
    have kr20 : w4.cell? ⟨(w.heap.size + 1), 0, none⟩ = some (.slice none 0 0) := KBr2.out.cell 0
    have kr21 : w4.cell? ⟨(w.heap.size + 1), 1, none⟩ = some (.string ⟨#[]⟩) := KBr2.out.cell 1
    have kr2l : (w.heap.size + 1) < w4.heap.size := KBr2.out.lt
    have kbt0 : w4.cell? ⟨w2.heap.size, 0, none⟩ = some (.slice At nt ct) := KBbt.out.cell 0
    have kbt1 : w4.cell? ⟨w2.heap.size, 1, none⟩ = some (.string st) := KBbt.out.cell 1
    have kbtl : w2.heap.size < w4.heap.size := KBbt.out.lt
    have kbu0 : w4.cell? ⟨w3.heap.size, 0, none⟩ = some (.slice Au nu cu) := KBbu.out.cell 0
    have kbu1 : w4.cell? ⟨w3.heap.size, 1, none⟩ = some (.string su) := KBbu.out.cell 1
    have kbul : w3.heap.size < w4.heap.size := KBbu.out.lt
    go_wp2_with fail
    refine HC.out.mono ?_
    rintro e w5 ⟨R1, hk, hb, Ae, ne, ce, rfl, ho⟩
    have hsw5 := hb.size
    clear kr10 kr11 kr1l kr20 kr21 kr2l kbt0 kbt1 kbtl kbu0 kbu1 kbul
    have KBr1 := Lib.hid (KBr1.out.below hb KBr1.out.lt)
    have KBr2 := Lib.hid (KBr2.out.below hb KBr2.out.lt)
    have KBbt := Lib.hid (KBbt.out.below hb KBbt.out.lt)
    have KBbu := Lib.hid (KBbu.out.below hb KBbu.out.lt)
    have HRt := Lib.hid (own_below0 HRt.out hb)
    have HRu := Lib.hid (own_below0 HRu.out hb)
    have HB := Lib.hid (HB.out.trans (hb.mono HB.out.size))
    have HRe := Lib.hid ho
    have HZe := Lib.hid hk.szs
    have hne : ne ≤ 60 := HZe.out.n HRe.out
    clear hb ho HC hk
    have KLr1 : Hid (w.heap.size < w5.heap.size) := KBr1.out.lt
    have KLr2 : Hid ((w.heap.size + 1) < w5.heap.size) := KBr2.out.lt
    have KLbt : Hid (w2.heap.size < w5.heap.size) := KBbt.out.lt
    have KLbu : Hid (w3.heap.size < w5.heap.size) := KBbu.out.lt
    have KBr1 := Lib.hid (KBr1.out.alloc (.cells #[.slice Ae ne ce, .string (resE R1)] 25))
    have KBr2 := Lib.hid (KBr2.out.alloc (.cells #[.slice Ae ne ce, .string (resE R1)] 25))
    have KBbt := Lib.hid (KBbt.out.alloc (.cells #[.slice Ae ne ce, .string (resE R1)] 25))
    have KBbu := Lib.hid (KBbu.out.alloc (.cells #[.slice Ae ne ce, .string (resE R1)] 25))
    have HRt := Lib.hid (HRt.out.alloc (.cells #[.slice Ae ne ce, .string (resE R1)] 25))
    have HRu := Lib.hid (HRu.out.alloc (.cells #[.slice Ae ne ce, .string (resE R1)] 25))
    have HRe := Lib.hid (HRe.out.alloc (.cells #[.slice Ae ne ce, .string (resE R1)] 25))
    have KBbe := Lib.hid (Blk.new w5 25 #[.slice Ae ne ce, .string (resE R1)])
    have HB := Lib.hid (HB.out.alloc HB.out.size (.cells #[.slice Ae ne ce, .string (resE R1)] 25))
    have hsae : (w5.alloc (.cells #[.slice Ae ne ce, .string (resE R1)] 25)).heap.size = w5.heap.size + 1 := by simp
    have HC := Lib.hid (specTimes_any Au Ae nu ne cu ce zu (resL R1) su (resE R1) ((w5.alloc (.cells #[.slice Ae ne ce, .string (resE R1)] 25))) (RS.of_own HRu.out) (RS.of_own HRe.out) (by omega) (by omega) HZu.out.big.1 HZe.out.big.1)
    have kr10 : w5.cell? ⟨w.heap.size, 0, none⟩ = some (.slice none 0 0) := by have := KBr1.out.cell 0; rwa [World.cell?_alloc_lt _ _ _ (KLr1.out)] at this
    have kr11 : w5.cell? ⟨w.heap.size, 1, none⟩ = some (.string ⟨#[]⟩) := by have := KBr1.out.cell 1; rwa [World.cell?_alloc_lt _ _ _ (KLr1.out)] at this
    have kr1l : w.heap.size < w5.heap.size := KLr1.out
    have kr20 : w5.cell? ⟨(w.heap.size + 1), 0, none⟩ = some (.slice none 0 0) := by have := KBr2.out.cell 0; rwa [World.cell?_alloc_lt _ _ _ (KLr2.out)] at this
    have kr21 : w5.cell? ⟨(w.heap.size + 1), 1, none⟩ = some (.string ⟨#[]⟩) := by have := KBr2.out.cell 1; rwa [World.cell?_alloc_lt _ _ _ (KLr2.out)] at this
    have kr2l : (w.heap.size + 1) < w5.heap.size := KLr2.out
    have kbt0 : w5.cell? ⟨w2.heap.size, 0, none⟩ = some (.slice At nt ct) := by have := KBbt.out.cell 0; rwa [World.cell?_alloc_lt _ _ _ (KLbt.out)] at this
    have kbt1 : w5.cell? ⟨w2.heap.size, 1, none⟩ = some (.string st) := by have := KBbt.out.cell 1; rwa [World.cell?_alloc_lt _ _ _ (KLbt.out)] at this
    have kbtl : w2.heap.size < w5.heap.size := KLbt.out
    have kbu0 : w5.cell? ⟨w3.heap.size, 0, none⟩ = some (.slice Au nu cu) := by have := KBbu.out.cell 0; rwa [World.cell?_alloc_lt _ _ _ (KLbu.out)] at this
    have kbu1 : w5.cell? ⟨w3.heap.size, 1, none⟩ = some (.string su) := by have := KBbu.out.cell 1; rwa [World.cell?_alloc_lt _ _ _ (KLbu.out)] at this
    have kbul : w3.heap.size < w5.heap.size := KLbu.out
    go_wp2_with fail
    refine HC.out.mono ?_
    rintro e w6 ⟨R2, hk, hb, Af, nf, cf, rfl, ho⟩
    have hsw6 := hb.size
    clear kr10 kr11 kr1l kr20 kr21 kr2l kbt0 kbt1 kbtl kbu0 kbu1 kbul
    have KBr1 := Lib.hid (KBr1.out.below hb KBr1.out.lt)
    have KBr2 := Lib.hid (KBr2.out.below hb KBr2.out.lt)
    have KBbt := Lib.hid (KBbt.out.below hb KBbt.out.lt)
    have KBbu := Lib.hid (KBbu.out.below hb KBbu.out.lt)
    have KBbe := Lib.hid (KBbe.out.below hb KBbe.out.lt)
    have HRt := Lib.hid (own_below0 HRt.out hb)
    have HRu := Lib.hid (own_below0 HRu.out hb)
    have HRe := Lib.hid (own_below0 HRe.out hb)
    have HB := Lib.hid (HB.out.trans (hb.mono HB.out.size))
    have HRf := Lib.hid ho
    have HZf := Lib.hid hk.szs
    have hnf : nf ≤ 60 := HZf.out.n HRf.out
    clear hb ho HC hk
    have KLr1 : Hid (w.heap.size < w6.heap.size) := KBr1.out.lt
    have KLr2 : Hid ((w.heap.size + 1) < w6.heap.size) := KBr2.out.lt
    have KLbt : Hid (w2.heap.size < w6.heap.size) := KBbt.out.lt
    have KLbu : Hid (w3.heap.size < w6.heap.size) := KBbu.out.lt
    have KLbe : Hid (w5.heap.size < w6.heap.size) := KBbe.out.lt
    have KBr1 := Lib.hid (KBr1.out.alloc (.cells #[.slice Af nf cf, .string (resE R2)] 25))
    have KBr2 := Lib.hid (KBr2.out.alloc (.cells #[.slice Af nf cf, .string (resE R2)] 25))
    have KBbt := Lib.hid (KBbt.out.alloc (.cells #[.slice Af nf cf, .string (resE R2)] 25))
    have KBbu := Lib.hid (KBbu.out.alloc (.cells #[.slice Af nf cf, .string (resE R2)] 25))
    have KBbe := Lib.hid (KBbe.out.alloc (.cells #[.slice Af nf cf, .string (resE R2)] 25))
    have HRt := Lib.hid (HRt.out.alloc (.cells #[.slice Af nf cf, .string (resE R2)] 25))
    have HRu := Lib.hid (HRu.out.alloc (.cells #[.slice Af nf cf, .string (resE R2)] 25))
    have HRe := Lib.hid (HRe.out.alloc (.cells #[.slice Af nf cf, .string (resE R2)] 25))
    have HRf := Lib.hid (HRf.out.alloc (.cells #[.slice Af nf cf, .string (resE R2)] 25))
    have KBbf := Lib.hid (Blk.new w6 25 #[.slice Af nf cf, .string (resE R2)])
    have HB := Lib.hid (HB.out.alloc HB.out.size (.cells #[.slice Af nf cf, .string (resE R2)] 25))
    have hsaf : (w6.alloc (.cells #[.slice Af nf cf, .string (resE R2)] 25)).heap.size = w6.heap.size + 1 := by simp
    have HC := Lib.hid (specTimes_any Af At nf nt cf ct (resL R2) zt (resE R2) st ((w6.alloc (.cells #[.slice Af nf cf, .string (resE R2)] 25))) (RS.of_own HRf.out) (RS.of_own HRt.out) (by omega) (by omega) HZf.out.big.1 HZt.out.big.1)
    have kr10 : w6.cell? ⟨w.heap.size, 0, none⟩ = some (.slice none 0 0) := by have := KBr1.out.cell 0; rwa [World.cell?_alloc_lt _ _ _ (KLr1.out)] at this
    have kr11 : w6.cell? ⟨w.heap.size, 1, none⟩ = some (.string ⟨#[]⟩) := by have := KBr1.out.cell 1; rwa [World.cell?_alloc_lt _ _ _ (KLr1.out)] at this
    have kr1l : w.heap.size < w6.heap.size := KLr1.out
    have kr20 : w6.cell? ⟨(w.heap.size + 1), 0, none⟩ = some (.slice none 0 0) := by have := KBr2.out.cell 0; rwa [World.cell?_alloc_lt _ _ _ (KLr2.out)] at this
    have kr21 : w6.cell? ⟨(w.heap.size + 1), 1, none⟩ = some (.string ⟨#[]⟩) := by have := KBr2.out.cell 1; rwa [World.cell?_alloc_lt _ _ _ (KLr2.out)] at this
    have kr2l : (w.heap.size + 1) < w6.heap.size := KLr2.out
    have kbt0 : w6.cell? ⟨w2.heap.size, 0, none⟩ = some (.slice At nt ct) := by have := KBbt.out.cell 0; rwa [World.cell?_alloc_lt _ _ _ (KLbt.out)] at this
    have kbt1 : w6.cell? ⟨w2.heap.size, 1, none⟩ = some (.string st) := by have := KBbt.out.cell 1; rwa [World.cell?_alloc_lt _ _ _ (KLbt.out)] at this
    have kbtl : w2.heap.size < w6.heap.size := KLbt.out
    have kbu0 : w6.cell? ⟨w3.heap.size, 0, none⟩ = some (.slice Au nu cu) := by have := KBbu.out.cell 0; rwa [World.cell?_alloc_lt _ _ _ (KLbu.out)] at this
    have kbu1 : w6.cell? ⟨w3.heap.size, 1, none⟩ = some (.string su) := by have := KBbu.out.cell 1; rwa [World.cell?_alloc_lt _ _ _ (KLbu.out)] at this
    have kbul : w3.heap.size < w6.heap.size := KLbu.out
    have kbe0 : w6.cell? ⟨w5.heap.size, 0, none⟩ = some (.slice Ae ne ce) := by have := KBbe.out.cell 0; rwa [World.cell?_alloc_lt _ _ _ (KLbe.out)] at this
    have kbe1 : w6.cell? ⟨w5.heap.size, 1, none⟩ = some (.string (resE R1)) := by have := KBbe.out.cell 1; rwa [World.cell?_alloc_lt _ _ _ (KLbe.out)] at this
    have kbel : w5.heap.size < w6.heap.size := KLbe.out
    go_wp2_with fail
    refine HC.out.mono ?_
    rintro e w7 ⟨R3, hk, hb, Ag, ng, cg, rfl, ho⟩
    have hsw7 := hb.size
    clear kr10 kr11 kr1l kr20 kr21 kr2l kbt0 kbt1 kbtl kbu0 kbu1 kbul kbe0 kbe1 kbel
    have KBr1 := Lib.hid (KBr1.out.below hb KBr1.out.lt)
    have KBr2 := Lib.hid (KBr2.out.below hb KBr2.out.lt)
    have KBbt := Lib.hid (KBbt.out.below hb KBbt.out.lt)
    have KBbu := Lib.hid (KBbu.out.below hb KBbu.out.lt)
    have KBbe := Lib.hid (KBbe.out.below hb KBbe.out.lt)
    have KBbf := Lib.hid (KBbf.out.below hb KBbf.out.lt)
    have HRt := Lib.hid (own_below0 HRt.out hb)
    have HRu := Lib.hid (own_below0 HRu.out hb)
    have HRe := Lib.hid (own_below0 HRe.out hb)
    have HRf := Lib.hid (own_below0 HRf.out hb)
    have HB := Lib.hid (HB.out.trans (hb.mono HB.out.size))
    have HRg := Lib.hid ho
    have HZg := Lib.hid hk.szs
    have hng : ng ≤ 60 := HZg.out.n HRg.out
    clear hb ho HC hk
    have KLr1 : Hid (w.heap.size < w7.heap.size) := KBr1.out.lt
    have KLr2 : Hid ((w.heap.size + 1) < w7.heap.size) := KBr2.out.lt
    have KLbt : Hid (w2.heap.size < w7.heap.size) := KBbt.out.lt
    have KLbu : Hid (w3.heap.size < w7.heap.size) := KBbu.out.lt
    have KLbe : Hid (w5.heap.size < w7.heap.size) := KBbe.out.lt
    have KLbf : Hid (w6.heap.size < w7.heap.size) := KBbf.out.lt
    have KBr1 := Lib.hid (KBr1.out.alloc (.cells #[.slice Ag ng cg, .string (resE R3)] 25))
    have KBr2 := Lib.hid (KBr2.out.alloc (.cells #[.slice Ag ng cg, .string (resE R3)] 25))
    have KBbt := Lib.hid (KBbt.out.alloc (.cells #[.slice Ag ng cg, .string (resE R3)] 25))
    have KBbu := Lib.hid (KBbu.out.alloc (.cells #[.slice Ag ng cg, .string (resE R3)] 25))
    have KBbe := Lib.hid (KBbe.out.alloc (.cells #[.slice Ag ng cg, .string (resE R3)] 25))
    have KBbf := Lib.hid (KBbf.out.alloc (.cells #[.slice Ag ng cg, .string (resE R3)] 25))
    have HRt := Lib.hid (HRt.out.alloc (.cells #[.slice Ag ng cg, .string (resE R3)] 25))
    have HRu := Lib.hid (HRu.out.alloc (.cells #[.slice Ag ng cg, .string (resE R3)] 25))
    have HRe := Lib.hid (HRe.out.alloc (.cells #[.slice Ag ng cg, .string (resE R3)] 25))
    have HRf := Lib.hid (HRf.out.alloc (.cells #[.slice Ag ng cg, .string (resE R3)] 25))
    have HRg := Lib.hid (HRg.out.alloc (.cells #[.slice Ag ng cg, .string (resE R3)] 25))
    have KBbg := Lib.hid (Blk.new w7 25 #[.slice Ag ng cg, .string (resE R3)])
    have HB := Lib.hid (HB.out.alloc HB.out.size (.cells #[.slice Ag ng cg, .string (resE R3)] 25))
    have hsag : (w7.alloc (.cells #[.slice Ag ng cg, .string (resE R3)] 25)).heap.size = w7.heap.size + 1 := by simp
    cases s1 : R1.isSome with
    | false =>
      have hV := HB.out.size
      go_wp2
      generalize (w7.alloc (.cells #[.slice Ag ng cg, .string (resE R3)] 25)) = V at *
      have c10 : V.cell? ⟨w.heap.size, 0, none⟩ = some (.slice none 0 0) := KBr1.out.cell 0
      have c11 : V.cell? ⟨w.heap.size, 1, none⟩ = some (.string ⟨#[]⟩) := KBr1.out.cell 1
      have c20 : V.cell? ⟨w.heap.size + 1, 0, none⟩ = some (.slice none 0 0) := KBr2.out.cell 0
      have c21 : V.cell? ⟨w.heap.size + 1, 1, none⟩ = some (.string ⟨#[]⟩) := KBr2.out.cell 1
      have f10 : V.frozen? ⟨w.heap.size, 0, none⟩ = false := KBr1.out.frozen 0
      have f11 : V.frozen? ⟨w.heap.size, 1, none⟩ = false := KBr1.out.frozen 1
      have f20 : V.frozen? ⟨w.heap.size + 1, 0, none⟩ = false := KBr2.out.frozen 0
      have f21 : V.frozen? ⟨w.heap.size + 1, 1, none⟩ = false := KBr2.out.frozen 1
      have x0 : V.cell? ⟨w2.heap.size, 0, none⟩ = some (.slice At nt ct) := KBbt.out.cell 0
      have x1 : V.cell? ⟨w2.heap.size, 1, none⟩ = some (.string st) := KBbt.out.cell 1
      have y0 : V.cell? ⟨w3.heap.size, 0, none⟩ = some (.slice Au nu cu) := KBbu.out.cell 0
      have y1 : V.cell? ⟨w3.heap.size, 1, none⟩ = some (.string su) := KBbu.out.cell 1
      have hl1 : w.heap.size < V.heap.size := KBr1.out.lt
      have hl2 : w.heap.size + 1 < V.heap.size := KBr2.out.lt
      have n1 : w2.heap.size ≠ w.heap.size := by omega
      have n2 : w2.heap.size ≠ w.heap.size + 1 := by omega
      have n3 : w3.heap.size ≠ w.heap.size := by omega
      have n4 : w3.heap.size ≠ w.heap.size + 1 := by omega
      have HE := Lib.hid (trees_fin (V := V.drew) HB.out.drew KBr1.out KBr2.out HRt.out HRu.out HZt.out HZu.out (by omega) (by omega))
      clear hV
      go_region_law (fail)
      all_goals go_wp2
      all_goals first
        | exact bodyPost_ret (v := .tuple #[.agg #[.slice At nt ct, .string st], .agg #[.slice Au nu cu, .string su]]) (by simp [results, Tryd.results60, go_sem, hl1, hl2, c10, c11, c20, c21]) rfl HE.out.1
        | exact bodyPost_ret (v := .tuple #[.agg #[.slice At nt ct, .string st], .agg #[.slice Au nu cu, .string su]]) (by simp [results, Tryd.results60, go_sem, hl1, hl2, c10, c11, c20, c21]) rfl HE.out.2
    | true =>
      cases s2 : R2.isSome with
      | false =>
        have hV := HB.out.size
        go_wp2
        generalize (w7.alloc (.cells #[.slice Ag ng cg, .string (resE R3)] 25)) = V at *
        have c10 : V.cell? ⟨w.heap.size, 0, none⟩ = some (.slice none 0 0) := KBr1.out.cell 0
        have c11 : V.cell? ⟨w.heap.size, 1, none⟩ = some (.string ⟨#[]⟩) := KBr1.out.cell 1
        have c20 : V.cell? ⟨w.heap.size + 1, 0, none⟩ = some (.slice none 0 0) := KBr2.out.cell 0
        have c21 : V.cell? ⟨w.heap.size + 1, 1, none⟩ = some (.string ⟨#[]⟩) := KBr2.out.cell 1
        have f10 : V.frozen? ⟨w.heap.size, 0, none⟩ = false := KBr1.out.frozen 0
        have f11 : V.frozen? ⟨w.heap.size, 1, none⟩ = false := KBr1.out.frozen 1
        have f20 : V.frozen? ⟨w.heap.size + 1, 0, none⟩ = false := KBr2.out.frozen 0
        have f21 : V.frozen? ⟨w.heap.size + 1, 1, none⟩ = false := KBr2.out.frozen 1
        have x0 : V.cell? ⟨w2.heap.size, 0, none⟩ = some (.slice At nt ct) := KBbt.out.cell 0
        have x1 : V.cell? ⟨w2.heap.size, 1, none⟩ = some (.string st) := KBbt.out.cell 1
        have y0 : V.cell? ⟨w3.heap.size, 0, none⟩ = some (.slice Au nu cu) := KBbu.out.cell 0
        have y1 : V.cell? ⟨w3.heap.size, 1, none⟩ = some (.string su) := KBbu.out.cell 1
        have hl1 : w.heap.size < V.heap.size := KBr1.out.lt
        have hl2 : w.heap.size + 1 < V.heap.size := KBr2.out.lt
        have n1 : w2.heap.size ≠ w.heap.size := by omega
        have n2 : w2.heap.size ≠ w.heap.size + 1 := by omega
        have n3 : w3.heap.size ≠ w.heap.size := by omega
        have n4 : w3.heap.size ≠ w.heap.size + 1 := by omega
        have HE := Lib.hid (trees_fin (V := V.drew) HB.out.drew KBr1.out KBr2.out HRt.out HRu.out HZt.out HZu.out (by omega) (by omega))
        clear hV
        go_region_law (fail)
        all_goals go_wp2
        all_goals first
          | exact bodyPost_ret (v := .tuple #[.agg #[.slice At nt ct, .string st], .agg #[.slice Au nu cu, .string su]]) (by simp [results, Tryd.results60, go_sem, hl1, hl2, c10, c11, c20, c21]) rfl HE.out.1
          | exact bodyPost_ret (v := .tuple #[.agg #[.slice At nt ct, .string st], .agg #[.slice Au nu cu, .string su]]) (by simp [results, Tryd.results60, go_sem, hl1, hl2, c10, c11, c20, c21]) rfl HE.out.2
      | true =>
        cases s3 : R3.isSome with
        | false =>
          have hV := HB.out.size
          go_wp2
          generalize (w7.alloc (.cells #[.slice Ag ng cg, .string (resE R3)] 25)) = V at *
          have c10 : V.cell? ⟨w.heap.size, 0, none⟩ = some (.slice none 0 0) := KBr1.out.cell 0
          have c11 : V.cell? ⟨w.heap.size, 1, none⟩ = some (.string ⟨#[]⟩) := KBr1.out.cell 1
          have c20 : V.cell? ⟨w.heap.size + 1, 0, none⟩ = some (.slice none 0 0) := KBr2.out.cell 0
          have c21 : V.cell? ⟨w.heap.size + 1, 1, none⟩ = some (.string ⟨#[]⟩) := KBr2.out.cell 1
          have f10 : V.frozen? ⟨w.heap.size, 0, none⟩ = false := KBr1.out.frozen 0
          have f11 : V.frozen? ⟨w.heap.size, 1, none⟩ = false := KBr1.out.frozen 1
          have f20 : V.frozen? ⟨w.heap.size + 1, 0, none⟩ = false := KBr2.out.frozen 0
          have f21 : V.frozen? ⟨w.heap.size + 1, 1, none⟩ = false := KBr2.out.frozen 1
          have x0 : V.cell? ⟨w2.heap.size, 0, none⟩ = some (.slice At nt ct) := KBbt.out.cell 0
          have x1 : V.cell? ⟨w2.heap.size, 1, none⟩ = some (.string st) := KBbt.out.cell 1
          have y0 : V.cell? ⟨w3.heap.size, 0, none⟩ = some (.slice Au nu cu) := KBbu.out.cell 0
          have y1 : V.cell? ⟨w3.heap.size, 1, none⟩ = some (.string su) := KBbu.out.cell 1
          have hl1 : w.heap.size < V.heap.size := KBr1.out.lt
          have hl2 : w.heap.size + 1 < V.heap.size := KBr2.out.lt
          have n1 : w2.heap.size ≠ w.heap.size := by omega
          have n2 : w2.heap.size ≠ w.heap.size + 1 := by omega
          have n3 : w3.heap.size ≠ w.heap.size := by omega
          have n4 : w3.heap.size ≠ w.heap.size + 1 := by omega
          have HE := Lib.hid (trees_fin (V := V.drew) HB.out.drew KBr1.out KBr2.out HRt.out HRu.out HZt.out HZu.out (by omega) (by omega))
          clear hV
          go_region_law (fail)
          all_goals go_wp2
          all_goals first
            | exact bodyPost_ret (v := .tuple #[.agg #[.slice At nt ct, .string st], .agg #[.slice Au nu cu, .string su]]) (by simp [results, Tryd.results60, go_sem, hl1, hl2, c10, c11, c20, c21]) rfl HE.out.1
            | exact bodyPost_ret (v := .tuple #[.agg #[.slice At nt ct, .string st], .agg #[.slice Au nu cu, .string su]]) (by simp [results, Tryd.results60, go_sem, hl1, hl2, c10, c11, c20, c21]) rfl HE.out.2
        | true =>
          have hV := HB.out.size
          go_wp2
          generalize (w7.alloc (.cells #[.slice Ag ng cg, .string (resE R3)] 25)) = V at *
          have c10 : V.cell? ⟨w.heap.size, 0, none⟩ = some (.slice none 0 0) := KBr1.out.cell 0
          have c11 : V.cell? ⟨w.heap.size, 1, none⟩ = some (.string ⟨#[]⟩) := KBr1.out.cell 1
          have c20 : V.cell? ⟨w.heap.size + 1, 0, none⟩ = some (.slice none 0 0) := KBr2.out.cell 0
          have c21 : V.cell? ⟨w.heap.size + 1, 1, none⟩ = some (.string ⟨#[]⟩) := KBr2.out.cell 1
          have f10 : V.frozen? ⟨w.heap.size, 0, none⟩ = false := KBr1.out.frozen 0
          have f11 : V.frozen? ⟨w.heap.size, 1, none⟩ = false := KBr1.out.frozen 1
          have f20 : V.frozen? ⟨w.heap.size + 1, 0, none⟩ = false := KBr2.out.frozen 0
          have f21 : V.frozen? ⟨w.heap.size + 1, 1, none⟩ = false := KBr2.out.frozen 1
          have x0 : V.cell? ⟨w7.heap.size, 0, none⟩ = some (.slice Ag ng cg) := KBbg.out.cell 0
          have x1 : V.cell? ⟨w7.heap.size, 1, none⟩ = some (.string (resE R3)) := KBbg.out.cell 1
          have y0 : V.cell? ⟨w2.heap.size, 0, none⟩ = some (.slice At nt ct) := KBbt.out.cell 0
          have y1 : V.cell? ⟨w2.heap.size, 1, none⟩ = some (.string st) := KBbt.out.cell 1
          have hl1 : w.heap.size < V.heap.size := KBr1.out.lt
          have hl2 : w.heap.size + 1 < V.heap.size := KBr2.out.lt
          have n1 : w7.heap.size ≠ w.heap.size := by omega
          have n2 : w7.heap.size ≠ w.heap.size + 1 := by omega
          have n3 : w2.heap.size ≠ w.heap.size := by omega
          have n4 : w2.heap.size ≠ w.heap.size + 1 := by omega
          have HE := Lib.hid (trees_fin (V := V.drew) HB.out.drew KBr1.out KBr2.out HRg.out HRt.out HZg.out HZt.out (by omega) (by omega))
          clear hV
          go_region_law (fail)
          all_goals go_wp2
          all_goals first
            | exact bodyPost_ret (v := .tuple #[.agg #[.slice Ag ng cg, .string (resE R3)], .agg #[.slice At nt ct, .string st]]) (by simp [results, Tryd.results60, go_sem, hl1, hl2, c10, c11, c20, c21]) rfl HE.out.1
            | exact bodyPost_ret (v := .tuple #[.agg #[.slice Ag ng cg, .string (resE R3)], .agg #[.slice At nt ct, .string st]]) (by simp [results, Tryd.results60, go_sem, hl1, hl2, c10, c11, c20, c21]) rfl HE.out.2
  · have hxi : ((x : Int) == 0) = false := by rw [beq_eq_false_iff_ne]; omega
    clear hx0
    have hV := HB.out.size
    go_wp2
    generalize w4 = V at *
    have c10 : V.cell? ⟨w.heap.size, 0, none⟩ = some (.slice none 0 0) := KBr1.out.cell 0
    have c11 : V.cell? ⟨w.heap.size, 1, none⟩ = some (.string ⟨#[]⟩) := KBr1.out.cell 1
    have c20 : V.cell? ⟨w.heap.size + 1, 0, none⟩ = some (.slice none 0 0) := KBr2.out.cell 0
    have c21 : V.cell? ⟨w.heap.size + 1, 1, none⟩ = some (.string ⟨#[]⟩) := KBr2.out.cell 1
    have f10 : V.frozen? ⟨w.heap.size, 0, none⟩ = false := KBr1.out.frozen 0
    have f11 : V.frozen? ⟨w.heap.size, 1, none⟩ = false := KBr1.out.frozen 1
    have f20 : V.frozen? ⟨w.heap.size + 1, 0, none⟩ = false := KBr2.out.frozen 0
    have f21 : V.frozen? ⟨w.heap.size + 1, 1, none⟩ = false := KBr2.out.frozen 1
    have x0 : V.cell? ⟨w2.heap.size, 0, none⟩ = some (.slice At nt ct) := KBbt.out.cell 0
    have x1 : V.cell? ⟨w2.heap.size, 1, none⟩ = some (.string st) := KBbt.out.cell 1
    have y0 : V.cell? ⟨w3.heap.size, 0, none⟩ = some (.slice Au nu cu) := KBbu.out.cell 0
    have y1 : V.cell? ⟨w3.heap.size, 1, none⟩ = some (.string su) := KBbu.out.cell 1
    have hl1 : w.heap.size < V.heap.size := KBr1.out.lt
    have hl2 : w.heap.size + 1 < V.heap.size := KBr2.out.lt
    have n1 : w2.heap.size ≠ w.heap.size := by omega
    have n2 : w2.heap.size ≠ w.heap.size + 1 := by omega
    have n3 : w3.heap.size ≠ w.heap.size := by omega
    have n4 : w3.heap.size ≠ w.heap.size + 1 := by omega
    have HE := Lib.hid (trees_fin (V := V.drew) HB.out.drew KBr1.out KBr2.out HRt.out HRu.out HZt.out HZu.out (by omega) (by omega))
    clear hV
    go_region_law (fail)
    all_goals go_wp2
    all_goals first
      | exact bodyPost_ret (v := .tuple #[.agg #[.slice At nt ct, .string st], .agg #[.slice Au nu cu, .string su]]) (by simp [results, Tryd.results60, go_sem, hl1, hl2, c10, c11, c20, c21]) rfl HE.out.1
      | exact bodyPost_ret (v := .tuple #[.agg #[.slice At nt ct, .string st], .agg #[.slice Au nu cu, .string su]]) (by simp [results, Tryd.results60, go_sem, hl1, hl2, c10, c11, c20, c21]) rfl HE.out.2
set_option maxHeartbeats 2000000 in
theorem drawTBelow_any (A : Option Addr) (n c : Nat) (bs : Nat → Nat) (w : World) (h : Src w w.heap.size A n bs) (hnc : n ≤ c) (hn : n ≤ 1048576) :
    Calls Tryd.prog 34 #[.slice A n c] w (TreesL w) := by
  have hz : ((w.alloc (.cells #[.slice none 0 0, .string ⟨#[]⟩] 25)).alloc (.cells #[.slice none 0 0, .string ⟨#[]⟩] 25)).heap.size = w.heap.size + 1 + 1 := by simp
  have hS : Src ((w.alloc (.cells #[.slice none 0 0, .string ⟨#[]⟩] 25)).alloc (.cells #[.slice none 0 0, .string ⟨#[]⟩] 25)) ((w.alloc (.cells #[.slice none 0 0, .string ⟨#[]⟩] 25)).alloc (.cells #[.slice none 0 0, .string ⟨#[]⟩] 25)).heap.size A n bs := src_more ((h.keep fun q hq => World.cell?_alloc_lt _ _ _ hq).keep fun q hq => World.cell?_alloc_lt _ _ _ (by simp; omega)) (by rw [hz]; omega)
  have KBr1 : Hid (Blk ((w.alloc (.cells #[.slice none 0 0, .string ⟨#[]⟩] 25)).alloc (.cells #[.slice none 0 0, .string ⟨#[]⟩] 25)) w.heap.size 25 #[.slice none 0 0, .string ⟨#[]⟩]) := (Blk.new w _ _).alloc _
  have KBr2 : Hid (Blk ((w.alloc (.cells #[.slice none 0 0, .string ⟨#[]⟩] 25)).alloc (.cells #[.slice none 0 0, .string ⟨#[]⟩] 25)) (w.heap.size + 1) 25 #[.slice none 0 0, .string ⟨#[]⟩]) := by
    have := Blk.new (w.alloc (.cells #[.slice none 0 0, .string ⟨#[]⟩] 25)) 25 #[.slice none 0 0, .string ⟨#[]⟩]
    rwa [World.size_alloc] at this
  have HB : Hid (Below w.heap.size w ((w.alloc (.cells #[.slice none 0 0, .string ⟨#[]⟩] 25)).alloc (.cells #[.slice none 0 0, .string ⟨#[]⟩] 25))) := ((Below.refl _ w).alloc (Nat.le_refl _) _).alloc (by simp) _
  have HO := Lib.hid (l91Trees_any _ _ _ _ _ hS hnc hn)
  clear h hS
  go_enter Tryd.func34, Tryd.ntmps34
  go_wp2_with fail
  refine HO.out.mono ?_
  rintro e V ⟨At, nt, ct, zt, st, Au, nu, cu, zu, su, rfl, ho, ho', hsz, hsz', hb⟩
  rw [hz] at ho ho'
  have KBr1 := Lib.hid (KBr1.out.below hb KBr1.out.lt)
  have KBr2 := Lib.hid (KBr2.out.below hb KBr2.out.lt)
  have HB := Lib.hid (HB.out.trans (hb.mono HB.out.size))
  have c10 : V.cell? ⟨w.heap.size, 0, none⟩ = some (.slice none 0 0) := KBr1.out.cell 0
  have c11 : V.cell? ⟨w.heap.size, 1, none⟩ = some (.string ⟨#[]⟩) := KBr1.out.cell 1
  have c20 : V.cell? ⟨w.heap.size + 1, 0, none⟩ = some (.slice none 0 0) := KBr2.out.cell 0
  have c21 : V.cell? ⟨w.heap.size + 1, 1, none⟩ = some (.string ⟨#[]⟩) := KBr2.out.cell 1
  have f10 : V.frozen? ⟨w.heap.size, 0, none⟩ = false := KBr1.out.frozen 0
  have f11 : V.frozen? ⟨w.heap.size, 1, none⟩ = false := KBr1.out.frozen 1
  have f20 : V.frozen? ⟨w.heap.size + 1, 0, none⟩ = false := KBr2.out.frozen 0
  have f21 : V.frozen? ⟨w.heap.size + 1, 1, none⟩ = false := KBr2.out.frozen 1
  have hl1 : w.heap.size < V.heap.size := KBr1.out.lt
  have hl2 : w.heap.size + 1 < V.heap.size := KBr2.out.lt
  have HE := Lib.hid (trees_fin HB.out KBr1.out KBr2.out ho ho' hsz hsz' (by omega) (by omega))
  clear hb HO ho ho' hsz hsz' hz
  go_wp2
  exact bodyPost_ret (v := .tuple #[.agg #[.slice At nt ct, .string st], .agg #[.slice Au nu cu, .string su]]) (by simp [results, Tryd.results34, go_sem, hl1, hl2, c10, c11, c20, c21]) rfl HE.out.1
set_option maxHeartbeats 2000000 in
theorem drawTTimes_any (A : Option Addr) (n c : Nat) (bs : Nat → Nat) (w : World) (h : Src w w.heap.size A n bs) (hnc : n ≤ c) (hn : n ≤ 1048576) :
    Calls Tryd.prog 24 #[.slice A n c] w (TreesL w) := by
  have hz : ((w.alloc (.cells #[.slice none 0 0, .string ⟨#[]⟩] 25)).alloc (.cells #[.slice none 0 0, .string ⟨#[]⟩] 25)).heap.size = w.heap.size + 1 + 1 := by simp
  have hS : Src ((w.alloc (.cells #[.slice none 0 0, .string ⟨#[]⟩] 25)).alloc (.cells #[.slice none 0 0, .string ⟨#[]⟩] 25)) ((w.alloc (.cells #[.slice none 0 0, .string ⟨#[]⟩] 25)).alloc (.cells #[.slice none 0 0, .string ⟨#[]⟩] 25)).heap.size A n bs := src_more ((h.keep fun q hq => World.cell?_alloc_lt _ _ _ hq).keep fun q hq => World.cell?_alloc_lt _ _ _ (by simp; omega)) (by rw [hz]; omega)
  have KBr1 : Hid (Blk ((w.alloc (.cells #[.slice none 0 0, .string ⟨#[]⟩] 25)).alloc (.cells #[.slice none 0 0, .string ⟨#[]⟩] 25)) w.heap.size 25 #[.slice none 0 0, .string ⟨#[]⟩]) := (Blk.new w _ _).alloc _
  have KBr2 : Hid (Blk ((w.alloc (.cells #[.slice none 0 0, .string ⟨#[]⟩] 25)).alloc (.cells #[.slice none 0 0, .string ⟨#[]⟩] 25)) (w.heap.size + 1) 25 #[.slice none 0 0, .string ⟨#[]⟩]) := by
    have := Blk.new (w.alloc (.cells #[.slice none 0 0, .string ⟨#[]⟩] 25)) 25 #[.slice none 0 0, .string ⟨#[]⟩]
    rwa [World.size_alloc] at this
  have HB : Hid (Below w.heap.size w ((w.alloc (.cells #[.slice none 0 0, .string ⟨#[]⟩] 25)).alloc (.cells #[.slice none 0 0, .string ⟨#[]⟩] 25))) := ((Below.refl _ w).alloc (Nat.le_refl _) _).alloc (by simp) _
  have HO := Lib.hid (l91Trees_any _ _ _ _ _ hS hnc hn)
  clear h hS
  go_enter Tryd.func24, Tryd.ntmps24
  go_wp2_with fail
  refine HO.out.mono ?_
  rintro e V ⟨At, nt, ct, zt, st, Au, nu, cu, zu, su, rfl, ho, ho', hsz, hsz', hb⟩
  rw [hz] at ho ho'
  have KBr1 := Lib.hid (KBr1.out.below hb KBr1.out.lt)
  have KBr2 := Lib.hid (KBr2.out.below hb KBr2.out.lt)
  have HB := Lib.hid (HB.out.trans (hb.mono HB.out.size))
  have c10 : V.cell? ⟨w.heap.size, 0, none⟩ = some (.slice none 0 0) := KBr1.out.cell 0
  have c11 : V.cell? ⟨w.heap.size, 1, none⟩ = some (.string ⟨#[]⟩) := KBr1.out.cell 1
  have c20 : V.cell? ⟨w.heap.size + 1, 0, none⟩ = some (.slice none 0 0) := KBr2.out.cell 0
  have c21 : V.cell? ⟨w.heap.size + 1, 1, none⟩ = some (.string ⟨#[]⟩) := KBr2.out.cell 1
  have f10 : V.frozen? ⟨w.heap.size, 0, none⟩ = false := KBr1.out.frozen 0
  have f11 : V.frozen? ⟨w.heap.size, 1, none⟩ = false := KBr1.out.frozen 1
  have f20 : V.frozen? ⟨w.heap.size + 1, 0, none⟩ = false := KBr2.out.frozen 0
  have f21 : V.frozen? ⟨w.heap.size + 1, 1, none⟩ = false := KBr2.out.frozen 1
  have hl1 : w.heap.size < V.heap.size := KBr1.out.lt
  have hl2 : w.heap.size + 1 < V.heap.size := KBr2.out.lt
  have HE := Lib.hid (trees_fin HB.out KBr1.out KBr2.out ho ho' hsz hsz' (by omega) (by omega))
  clear hb HO ho ho' hsz hsz' hz
  go_wp2
  exact bodyPost_ret (v := .tuple #[.agg #[.slice At nt ct, .string st], .agg #[.slice Au nu cu, .string su]]) (by simp [results, Tryd.results24, go_sem, hl1, hl2, c10, c11, c20, c21]) rfl HE.out.1
end

end Go.Proofs.YtlfbocmcbkcfhaaDoor
