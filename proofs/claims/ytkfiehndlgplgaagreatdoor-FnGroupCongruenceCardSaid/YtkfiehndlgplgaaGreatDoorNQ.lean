/-
  Keep.
-/
import Derived.Test.YtkfiehndlgplgaaGreatDoorMC
import Derived.Test.YtkfiehndlgplgaaGreatDoorME
import Derived.Test.YtkfiehndlgplgaaGreatDoorND
namespace Go.Proofs.YtkfiehndlgplgaaGreatDoor
set_option maxRecDepth 100000
set_option linter.unusedVariables false
set_option linter.unusedSimpArgs false
set_option linter.unusedSectionVars false

/-! spec: marked charts of a list (l3Idems, l3Keep), SemigroupIdems, SemigroupGroup. -/
section
open Go.RowKit

theorem isRI_some {w : World} {A : Option Addr} {n : Nat} {zs : List Int} (h : RI w A n zs) (hn : 0 < n) : ∃ ad, A = some ad ∧ ad.block < w.heap.size ∧ ∀ j u, (ivs zs)[j]? = some u → w.cell? (ad.add j) = some u := h.2.2 hn
theorem idB_of {L : List Int} (h : isC L = true) : idemL (mv (ofL L) L.length) = idB L := by unfold idB; rw [h, fk_yes h, fT_ofL h, Bool.true_and]
theorem info_bool : (Tryz.prog.info? 4).map (fun i => (i.zero, i.size, i.bytes)) = some (some (.bool false), 1, 1) := by kernel_rfl
def bvs (bs : List Bool) : List Value := bs.map Value.bool
theorem fillB (bs : List Bool) {k : Nat} {b : Bool} {n : Nat} (hk : k < n) (hl : bs.length = k) : (bvs (bs ++ List.replicate (n - k) false)).set k (.bool b) = bvs (bs ++ [b] ++ List.replicate (n - (k + 1)) false) := by
  obtain ⟨d, hd⟩ : ∃ d, n - k = d + 1 := ⟨n - k - 1, by omega⟩
  rw [hd, show n - (k + 1) = d by omega]
  unfold bvs
  rw [← hl, List.replicate_succ, List.map_append, List.set_append_right _ _ (by simp)]
  simp


theorem filt_no {zs : List (List Int)} {k : Nat} {p : List Int → Bool} (hk : k < zs.length) (h : p (ent zs k) = false) : (zs.take (k + 1)).filter p = (zs.take k).filter p := by
  have e : ent zs k = zs[k] := by unfold ent; rw [List.getElem?_eq_getElem hk]; rfl
  rw [List.take_succ_eq_append_getElem hk, List.filter_append]
  simp [← e, h]
theorem filt_yes {zs : List (List Int)} {k : Nat} {p : List Int → Bool} (hk : k < zs.length) (h : p (ent zs k) = true) : (zs.take (k + 1)).filter p = (zs.take k).filter p ++ [ent zs k] := by
  have e : ent zs k = zs[k] := by unfold ent; rw [List.getElem?_eq_getElem hk]; rfl
  rw [List.take_succ_eq_append_getElem hk, List.filter_append]
  simp [← e, h]
set_option maxHeartbeats 2000000 in
theorem l3Keep_any (A : Option Addr) (n c g cp base : Nat) (zs : List (List Int)) (p : List Int → Bool) (w : World) (h : RSS w A n zs) (hn : n ≤ 1048576) (hz : ∀ L ∈ zs, isC L = true) (hb : w.ownsRow base 4 1 (.slice (some ⟨g, 0, none⟩) n cp) n (bvs (zs.map p))) :
    Calls Tryz.prog 80 #[.slice A n c, .slice (some ⟨g, 0, none⟩) n cp] w fun e w' => ∃ v, e = .returned v ∧ OSS w' w.heap.size w'.heap.size v (zs.filter p) ∧ Below w.heap.size w w' := by
  obtain ⟨i0, hi, hz0, hz1, hz2⟩ := info_parts info_int
  obtain ⟨i1, hj, hj0, hj1, hj2⟩ := info_parts info_partsS
  have HL := Lib.hid h.len
  have HZ := Lib.hid hz
  have HH := Lib.hid h
  have HBB := Lib.hid hb
  clear hz h hb
  go_enter Tryz.func80, Tryz.ntmps80
  go_wp2
  have hL0 : (w.alloc (.cells #[] 24)).ownsRow w.heap.size 24 1 (.slice (some ⟨w.heap.size, 0, none⟩) 0 0) 0 [] := World.ownsRow_lit (base := w.heap.size) (e := 24) (size := 1) w #[] 0 (Nat.le_refl _) (by simp [maxLen]) rfl
  have hB0 : Below w.heap.size w (w.alloc (.cells #[] 24)) := (Below.refl _ w).alloc (Nat.le_refl _) _
  go_loopw [5, 6] (fun v i wr => ∃ (k : Nat) (vs : List Value), k ≤ n ∧ i = .int .i64 (k : Int) ∧ OV wr w.heap.size v vs ((zs.take k).filter p) ∧ Below w.heap.size w wr) (fun _ i _ => n - (intOf i).toNat)
  case atStart => exact ⟨0, [], Nat.zero_le _, rfl, ⟨hL0, Inn.nil⟩, hB0⟩
  case round =>
    clear hL0 hB0
    obtain ⟨k, vs, hk, rfl, hov, hB⟩ := hrel
    by_cases hlt : k < n
    · have hkl : k < zs.length := by have := HL.out; omega
      have ho := (own_below HBB.out hB).cellAt k (by omega)
      have hbk : (bvs (zs.map p))[k]? = some (.bool (p (ent zs k))) := by
        unfold bvs ent; rw [List.getElem?_map, List.getElem?_map, List.getElem?_eq_getElem hkl]; rfl
      rw [hbk] at ho
      obtain ⟨ad, Ai, ci, rfl, hab, hc, hri⟩ := (HH.out.below hB).at_ hlt
      have hent : zs[k]?.getD [] = ent zs k := rfl
      rw [hent] at hc hri
      have hLz := HZ.out _ (ent_mem hkl)
      clear hbk hent
      cases hp : p (ent zs k)
      · have HT := Lib.hid (filt_no hkl hp)
        rw [hp] at ho
        clear hp hkl hri hc hab
        go_wp2
        go_roundw
        case rel => exact ⟨k + 1, vs, by omega, by go_num, by rw [HT.out]; exact hov, hB⟩
        case measure => simp [intOf]; omega
      · have HT := Lib.hid (filt_yes hkl hp)
        rw [hp] at ho
        have h6 := isC_len hLz
        obtain ⟨ai, rfl, hai, hcl⟩ := isRI_some hri (by omega)
        have hfl : ((zs.take k).filter p).length ≤ k := Nat.le_trans (List.length_filter_le _ _) (by rw [List.length_take]; omega)
        have hs := hB.size
        have hL0 := own_lit0 wr
        have hc2 := (World.cell?_alloc_lt wr (.cells #[] 3) (ad.add k) (by rw [block_of_add]; exact hab)).trans hc
        have hc1 : ∀ j u, (ivs (ent zs k))[j]? = some u → (wr.alloc (.cells #[] 3)).cell? (ai.add j) = some u := fun j u hu => (World.cell?_alloc_lt _ _ _ (by rw [block_of_add]; exact hai)).trans (hcl j u hu)
        have hone : ∀ u ∈ ivs (ent zs k), u.oneCell' = true := fun u hu => by
          simp only [ivs, List.mem_map] at hu
          obtain ⟨z, _, rfl⟩ := hu
          simp [Value.oneCell']
        have q1 : 0 + (ent zs k).length ≤ maxLen := by unfold maxLen; omega
        have q2 : (0 + (ent zs k).length) * 8 ≤ 140737488355328 := by omega
        have q3 : wr.heap.size ≤ (wr.alloc (.cells #[] 3)).heap.size := by simp
        have q4 : ((zs.take k).filter p).length + 1 ≤ maxLen := by unfold maxLen; omega
        have q5 : (((zs.take k).filter p).length + 1) * 24 ≤ 140737488355328 := by omega
        have hlen := Lib.hid h6.1
        generalize (zs.take k).filter p = Ls at *
        generalize hE : ent zs k = L at *
        clear hp hkl hri hLz h6 hE hcl hc hab
        go_wp2_with (at_builtin
                     first
                     | (refine wpList_append_own _ rfl _ _ 24 rfl wr.heap.size 3 i0 (.int .i64 0) 1 8 Tryz.underlying24 hi hz0 hz1 hz2 rfl (by decide) _ _ _ rfl hL0 ai L.length ci (ivs L) rfl (by simp [ivs]) hc1 hone q1 q2 q3 ?_
                        intro v1 w1 hown1 hgrow1 _
                        have hB1 : Below wr.heap.size wr w1 := ((Below.refl _ wr).alloc (Nat.le_refl _) _).grown hgrow1 q3 (fun k e => (hL0.lt k e).1)
                        have hown2 : w1.ownsRow wr.heap.size 3 1 v1 L.length (ivs L) := by simpa [ivs] using hown1
                        obtain ⟨g1, c1, rfl, hge, hlt1⟩ := hown2.form (by have := hlen.out; omega)
                        have hov1 := hov.below hB1
                        have hs1 := hB1.size
                        have q6 : ∀ o : Obj, w.heap.size ≤ (w1.alloc o).heap.size := fun o => by simp; omega)
                     | (refine wpList_append_own _ rfl _ _ 23 rfl w.heap.size 24 i1 (.slice none 0 0) 1 24 Tryz.underlying23 hj hj0 hj1 hj2 rfl (by decide) _ _ _ rfl (hov1.row.alloc _) ⟨w1.heap.size, 0, none⟩ 1 1 [.slice (some ⟨g1, 0, none⟩) L.length c1] rfl rfl (cell_one_new _ _ _) (by simp [Value.oneCell']) q4 q5 (q6 _) ?_
                        intro v2 w2 hown4 hgrow2 _))
        have hin := inn_app hov1.row hov1.inn ((OI.of hown2).less hs) (fresh_apart hov.inn (Nat.le_refl _) hown2) hgrow2
        have hB2 := below_app (hB.trans (hB1.mono hs)) hov1.row (Nat.le_refl _) hgrow2
        have HO : Hid (OV w2 w.heap.size v2 (vs ++ [.slice (some ⟨g1, 0, none⟩) L.length c1]) (Ls ++ [L])) := ⟨by rw [List.length_append]; exact hown4, hin⟩
        clear hin hown1 hown2 hown4 hgrow1 hgrow2 hov1 hov hL0 hc1 hone
        go_wp2
        go_roundw
        case rel => exact ⟨k + 1, _, by omega, by go_num, by rw [HT.out]; exact HO.out, hB2⟩
        case measure => simp [intOf]; omega
    · obtain rfl : k = n := by omega
      have e : zs.take k = zs := List.take_of_length_le (by have := HL.out; omega)
      rw [e] at hov
      go_wp2
      go_ret
      exact ⟨_, rfl, hov.oss, hB⟩
end

end Go.Proofs.YtkfiehndlgplgaaGreatDoor
