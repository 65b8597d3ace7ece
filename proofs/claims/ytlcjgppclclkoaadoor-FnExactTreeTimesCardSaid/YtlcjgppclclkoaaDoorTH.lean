/-
  Wk.
-/
import Derived.Deep.AppendLies
import Derived.Test.YtlcjgppclclkoaaDoorTC
import Derived.Test.YtlcjgppclclkoaaDoorTG
namespace Go.Proofs.YtlcjgppclclkoaaDoor
set_option maxRecDepth 100000
set_option linter.unusedVariables false
set_option linter.unusedSimpArgs false
set_option linter.unusedSectionVars false

/-! What a walk through a tree has in memory: its text, its words, its end. -/
section
open Go.RowKit

/-- the walk's text -/
def preT (N : List (List (Fin 4))) : Nat → List (Fin 4) → List (Fin 4)
  | 0, _ => []
  | k + 1, u => lets.flatMap (fun c => if kidB N u c = true then c :: (preT N k (c :: u) ++ [ivL c]) else [])
def prT (N : List (List (Fin 4))) (k : Nat) (u : List (Fin 4)) (t : Nat) : List (Fin 4) := (lets.take t).flatMap (fun c => if kidB N u c = true then c :: (preT N k (c :: u) ++ [ivL c]) else [])
theorem prT_all (N : List (List (Fin 4))) (k : Nat) (u : List (Fin 4)) : preT N (k + 1) u = prT N k u 4 := rfl
theorem prT_succ (N : List (List (Fin 4))) (k : Nat) (u : List (Fin 4)) (c : Fin 4) : prT N k u (c.val + 1) = prT N k u c.val ++ (if kidB N u c = true then c :: (preT N k (c :: u) ++ [ivL c]) else []) := by
  unfold prT
  rw [List.take_add_one, lets_get, List.flatMap_append]
  simp
theorem prT_le (N : List (List (Fin 4))) (k : Nat) (u : List (Fin 4)) (t : Nat) : (prT N k u t).length ≤ (preT N (k + 1) u).length := by
  have : preT N (k + 1) u = prT N k u t ++ (lets.drop t).flatMap (fun c => if kidB N u c = true then c :: (preT N k (c :: u) ++ [ivL c]) else []) := by
    unfold prT
    rw [← List.flatMap_append, List.take_append_drop]; rfl
  rw [this, List.length_append]; omega
theorem preL_le (N : List (List (Fin 4))) (k : Nat) (u : List (Fin 4)) (t : Nat) : (preL N k u t).length + 1 ≤ (preF N (k + 1) u).length := by
  have : preF N (k + 1) u = u :: (preL N k u t ++ (lets.drop t).flatMap (fun c => if kidB N u c = true then preF N k (c :: u) else [])) := by
    unfold preL
    rw [← List.flatMap_append, List.take_append_drop]; rfl
  rw [this, List.length_cons, List.length_append]; omega
/-- the end, if it has been met -/
def enF (e : List (Fin 4)) (L : List (List (Fin 4))) (en : ByteArray) : ByteArray := if e ∈ L then strOf e else en
theorem enF_app (e : List (Fin 4)) (L M : List (List (Fin 4))) (en : ByteArray) : enF e (L ++ M) en = enF e M (enF e L en) := by
  unfold enF
  by_cases h : e ∈ M
  · rw [if_pos h, if_pos (List.mem_append_right _ h)]
  · rw [if_neg h]
    by_cases h' : e ∈ L
    · rw [if_pos h', if_pos (List.mem_append_left _ h')]
    · rw [if_neg h', if_neg (fun x => (List.mem_append.1 x).elim h' h)]
theorem enF_one_eq (e : List (Fin 4)) (en : ByteArray) : enF e [e] en = strOf e := if_pos (by simp)
theorem enF_one_ne {e u : List (Fin 4)} (h : u ≠ e) (en : ByteArray) : enF e [u] en = en := if_neg (by simp; exact fun x => h x.symm)
theorem enF_nil (e : List (Fin 4)) (en : ByteArray) : enF e [] en = en := if_neg (by simp)

def wvL (vs : List (List (Fin 4))) : List Value := vs.map (fun u => Value.string (strOf u))
theorem wvL_snoc (vs : List (List (Fin 4))) (u : List (Fin 4)) : wvL vs ++ [.string (strOf u)] = wvL (vs ++ [u]) := by unfold wvL; rw [List.map_append]; rfl
theorem bvL_snoc (bs : List (Fin 4)) (c : Fin 4) : bvL bs ++ [.int .u8 ((ltB c).toNat : Int)] = bvL (bs ++ [c]) := by unfold bvL; rw [List.map_append]; rfl

structure Wk (W : World) (lo Wb Tb Fb : Nat) (A E : Value) (bs : List (Fin 4)) (vs : List (List (Fin 4))) (en : ByteArray) (vt vw : Value) : Prop where
  wb : Blk W Wb 65 #[vt, vw, .string en]
  tb : Blk W Tb 54 #[A, E]
  fb : Blk W Fb 85 #[.func (.func 78) #[] #[.pointer (some ⟨Wb, 0, none⟩), .pointer (some ⟨Tb, 0, none⟩), .pointer (some ⟨Fb, 0, none⟩)]]
  tx : W.ownsRow lo 5 1 vt bs.length (bvL bs)
  wd : W.ownsRow lo 9 1 vw vs.length (wvL vs)
  lw : lo ≤ Wb
  lf : lo ≤ Fb
theorem own_own_ne {w : World} {b b' size size' n n' : Nat} {e e' : TypeId} {v v' : Value} {xs xs' : List Value} (h : w.ownsRow b e size v n xs) (h' : w.ownsRow b' e' size' v' n' xs') (hne : e ≠ e') : v.ownBlock = none ∨ v.ownBlock ≠ v'.ownBlock := by
  rcases h'.2 with ⟨rfl, _⟩ | ⟨g', cap, cur, rfl, _, hh, _⟩
  · cases hv : v.ownBlock with
    | none => exact .inl rfl
    | some g => exact .inr (by simp [Value.ownBlock])
  · refine .inr ?_
    have := own_blk_ne (g := g') (t := e') h hh hne
    simpa [Value.ownBlock] using this
section
variable {W w1 : World} {lo Wb Tb Fb : Nat} {A E vt vw : Value} {bs : List (Fin 4)} {vs : List (List (Fin 4))} {en : ByteArray}
theorem Wk.drew (h : Wk W lo Wb Tb Fb A E bs vs en vt vw) : Wk W.drew lo Wb Tb Fb A E bs vs en vt vw := ⟨h.wb, h.tb, h.fb, h.tx, h.wd, h.lw, h.lf⟩
theorem Wk.low (h : Wk W lo Wb Tb Fb A E bs vs en vt vw) : lo ≤ W.heap.size := Nat.le_trans h.lw (Nat.le_of_lt h.wb.lt)
theorem Wk.alloc (h : Wk W lo Wb Tb Fb A E bs vs en vt vw) (o : Obj) : Wk (W.alloc o) lo Wb Tb Fb A E bs vs en vt vw := ⟨h.wb.alloc o, h.tb.alloc o, h.fb.alloc o, h.tx.alloc o, h.wd.alloc o, h.lw, h.lf⟩
/-- a word more -/
theorem Wk.word (h : Wk W lo Wb Tb Fb A E bs vs en vt vw) {v : Value} {u : List (Fin 4)} (hown : w1.ownsRow lo 9 1 v (vs.length + 1) (wvL vs ++ [.string (strOf u)])) (hg : W.grownBy w1 vw.ownBlock) :
    Wk (w1.setCell ⟨Wb, 1, none⟩ v) lo Wb Tb Fb A E bs (vs ++ [u]) en vt v ∧ Below lo W (w1.setCell ⟨Wb, 1, none⟩ v) := by
  have hw1 : Blk w1 Wb _ _ := h.wb.grown hg (own_blk_ne h.wd h.wb (by decide)).symm
  have ht1 : Blk w1 Tb _ _ := h.tb.grown hg (own_blk_ne h.wd h.tb (by decide)).symm
  have hf1 : Blk w1 Fb _ _ := h.fb.grown hg (own_blk_ne h.wd h.fb (by decide)).symm
  have hx1 := h.tx.kept hg (own_own_ne h.tx h.wd (by decide))
  rw [wvL_snoc] at hown
  refine ⟨⟨hw1.set_ 1 v, ht1.far (Blk.ne_ ht1 hw1 (by decide)) _, hf1.far (Blk.ne_ hf1 hw1 (by decide)) _, ownsRow_setCell_other hx1 (own_blk_ne hx1 hw1 (by decide)) _, ?_, h.lw, h.lf⟩, ?_⟩
  · rw [List.length_append]; exact ownsRow_setCell_other hown (own_blk_ne hown hw1 (by decide)) _
  · exact ((Below.refl lo W).grown hg h.low (fun k hk => (h.wd.lt k hk).1)).setCell (p := ⟨Wb, 1, none⟩) h.lw _
/-- a letter more -/
theorem Wk.letter (h : Wk W lo Wb Tb Fb A E bs vs en vt vw) {v : Value} {c : Fin 4} (hown : w1.ownsRow lo 5 1 v (bs.length + 1) (bvL bs ++ [.int .u8 ((ltB c).toNat : Int)])) (hg : W.grownBy w1 vt.ownBlock) :
    Wk (w1.setCell ⟨Wb, 0, none⟩ v) lo Wb Tb Fb A E (bs ++ [c]) vs en v vw ∧ Below lo W (w1.setCell ⟨Wb, 0, none⟩ v) := by
  have hw1 : Blk w1 Wb _ _ := h.wb.grown hg (own_blk_ne h.tx h.wb (by decide)).symm
  have ht1 : Blk w1 Tb _ _ := h.tb.grown hg (own_blk_ne h.tx h.tb (by decide)).symm
  have hf1 : Blk w1 Fb _ _ := h.fb.grown hg (own_blk_ne h.tx h.fb (by decide)).symm
  have hx1 := h.wd.kept hg (own_own_ne h.wd h.tx (by decide))
  rw [bvL_snoc] at hown
  refine ⟨⟨hw1.set_ 0 v, ht1.far (Blk.ne_ ht1 hw1 (by decide)) _, hf1.far (Blk.ne_ hf1 hw1 (by decide)) _, ?_, ownsRow_setCell_other hx1 (own_blk_ne hx1 hw1 (by decide)) _, h.lw, h.lf⟩, ?_⟩
  · rw [List.length_append]; exact ownsRow_setCell_other hown (own_blk_ne hown hw1 (by decide)) _
  · exact ((Below.refl lo W).grown hg h.low (fun k hk => (h.tx.lt k hk).1)).setCell (p := ⟨Wb, 0, none⟩) h.lw _
/-- the end -/
theorem Wk.end_ (h : Wk W lo Wb Tb Fb A E bs vs en vt vw) (s : ByteArray) : Wk (W.setCell ⟨Wb, 2, none⟩ (.string s)) lo Wb Tb Fb A E bs vs s vt vw ∧ Below lo W (W.setCell ⟨Wb, 2, none⟩ (.string s)) :=
  ⟨⟨h.wb.set_ 2 _, h.tb.far (Blk.ne_ h.tb h.wb (by decide)) _, h.fb.far (Blk.ne_ h.fb h.wb (by decide)) _, ownsRow_setCell_other h.tx (own_blk_ne h.tx h.wb (by decide)) _, ownsRow_setCell_other h.wd (own_blk_ne h.wd h.wb (by decide)) _, h.lw, h.lf⟩,
   (Below.refl lo W).setCell (p := ⟨Wb, 2, none⟩) h.lw _⟩
end
theorem info_u8 : (Tryd.prog.info? 5).map (fun i => (i.zero, i.size, i.bytes)) = some (some (.int .u8 0), 1, 1) := by kernel_rfl
theorem info_strg : (Tryd.prog.info? 9).map (fun i => (i.zero, i.size, i.bytes)) = some (some (.string ⟨#[]⟩), 1, 16) := by kernel_rfl
end

end Go.Proofs.YtlcjgppclclkoaaDoor
