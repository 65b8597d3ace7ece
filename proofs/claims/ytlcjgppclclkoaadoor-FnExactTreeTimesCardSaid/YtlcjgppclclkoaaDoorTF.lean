/-
  Al.
-/
import Derived.Lib.Strings
import Derived.Lib.Slices
import Derived.Lib.Walk
import Derived.Lib.Bytealg
import Derived.Lib.ConvBytes
import Derived.Test.YtlcjgppclclkoaaDoorTD
import Derived.Test.YtlcjgppclclkoaaDoorTE
namespace Go.Proofs.YtlcjgppclclkoaaDoor
set_option maxRecDepth 100000
set_option linter.unusedVariables false
set_option linter.unusedSimpArgs false
set_option linter.unusedSectionVars false

/-! strings.IndexByte among the letters; (*impl.node).along. -/
section
open Go.RowKit

def abAB : ByteArray := ⟨#[65, 66, 97, 98]⟩
theorem idx_lt : ∀ c : Fin 4, Lib.indexByte abAB.data.toList (((ltB c).toNat : Int).toNat.toUInt8) = (c.val : Int) := by decide
theorem slIndex_any (c : Fin 4) (w : World) : Calls Tryd.prog 107 #[.string ⟨#[65, 66, 97, 98]⟩, .int .u8 ((ltB c).toNat : Int)] w fun e w' => e = .returned (.int .i64 (c.val : Int)) ∧ w' = w := by
  have HI := Lib.hid (idx_lt c)
  generalize ((ltB c).toNat : Int) = b at *
  go_enter Tryd.func107, Tryd.ntmps107
  go_wp2
  rw [run_callFunc_extern Tryd.func116 (by kernel_rfl) (by kernel_rfl) (by kernel_rfl) (e := Extern.BytealgIndexByte.indexByte) (by kernel_rfl), Lib.run_indexByteString]
  simp only [Result.andThen]
  rw [Oper.upon_value]
  go_wp2
  go_ret
  exact ⟨by rw [← HI.out]; rfl, rfl⟩
theorem index_any (c : Fin 4) (w : World) : Calls Tryd.prog 91 #[.string ⟨#[65, 66, 97, 98]⟩, .int .u8 ((ltB c).toNat : Int)] w fun e w' => e = .returned (.int .i64 (c.val : Int)) ∧ w' = w := by
  have HS := Lib.hid (slIndex_any c)
  generalize ((ltB c).toNat : Int) = b at *
  go_enter Tryd.func91, Tryd.ntmps91
  go_wp2_with fail
  refine (HS.out _).mono ?_
  rintro e w' ⟨rfl, rfl⟩
  go_wp2
  go_ret
  exact ⟨rfl, rfl⟩
set_option maxHeartbeats 2000000 in
theorem along_any (base : Nat) (N : List (List (Fin 4))) (m : List (Fin 4) → Nat) (u : List (Fin 4)) (ws : List (Fin 4)) (s : ByteArray) (hs : s.data.toList = ws.map ltB) (hl : ws.length ≤ 1048576) (w : World) (h : Gr w base N m) (hu : u ∈ N) (hb : base ≤ w.heap.size) :
    Calls Tryd.prog 80 #[.pointer (some ⟨m u, 0, none⟩), .string s] w fun e w' => ∃ N' m', e = .returned (.pointer (some ⟨m' (goW u ws), 0, none⟩)) ∧ More w w' base N N' m m' ∧ ∀ x, x ∈ N' ↔ x ∈ N ∨ ∃ t, t ≤ ws.length ∧ x = goW u (ws.take t) := by
  have hsz : s.size = ws.length := by
    have := congrArg List.length hs
    rw [List.length_map, Array.length_toList] at this
    exact this
  obtain ⟨cap, W1, hconv, hcl, hB1, hW1⟩ : ∃ cap W1, (convert 9 22 (.string s)).run Tryd.prog w = .ok (.slice (some ⟨w.heap.size, 0, none⟩) s.size cap) W1 ∧ (∀ j, j < s.size → W1.cell? ⟨w.heap.size, j, none⟩ = some (.int .u8 ((s.data.toList.getD j 0).toNat : Int))) ∧ Below w.heap.size w W1 ∧ w.heap.size < W1.heap.size := by
    refine ⟨_, _, Lib.run_convert_string_bytes w 9 22 5 s Tryd.underlying9 Tryd.underlying22 Tryd.underlying5, fun j hj => Lib.bytesWorld_cell w _ s j hj, ⟨rfl, rfl, rfl, by rw [Lib.bytesWorld_size]; omega, fun k hk => Lib.bytesWorld_at_old w _ s k hk⟩, by rw [Lib.bytesWorld_size]; omega⟩
  have hg1 := h.below hB1
  have HNB : Hid (∀ x ∈ N, m x ≠ w.heap.size) := fun x hx => by have := h.lt hx; omega
  have HCL := Lib.hid hcl
  have HSZ := Lib.hid hsz
  have HSS := Lib.hid hs
  have HB1 := Lib.hid hB1
  have hb1 : base ≤ W1.heap.size := by omega
  rw [hsz] at hconv
  clear h hcl hsz hs hB1
  go_enter Tryd.func80, Tryd.ntmps80
  go_wp2
  go_loopw [5, 12] (fun at_ i wr => ∃ (t : Nat) (N' : List (List (Fin 4))) (m' : List (Fin 4) → Nat), t ≤ ws.length ∧ i = .int .i64 (t : Int) ∧ at_ = .pointer (some ⟨m' (goW u (ws.take t)), 0, none⟩) ∧ More W1 wr base N N' m m' ∧ Hid (∀ x, x ∈ N' ↔ x ∈ N ∨ ∃ j, j ≤ t ∧ x = goW u (ws.take j))) (fun _ i _ => ws.length - (intOf i).toNat)
  case atStart =>
    refine ⟨0, N, m, Nat.zero_le _, rfl, rfl, More.refl hg1, fun x => ⟨.inl, fun e => ?_⟩⟩
    rcases e with e | ⟨j, hj, e⟩
    · exact e
    · obtain rfl : j = 0 := by omega
      rw [e]; exact hu
  case round =>
    obtain ⟨t, N', m', ht, rfl, rfl, hM, HX⟩ := hrel
    by_cases hlt : t < ws.length
    · obtain ⟨c, hc⟩ : ∃ c, ws[t]? = some c := ⟨_, List.getElem?_eq_getElem hlt⟩
      have hcell : wr.cell? ⟨w.heap.size, t, none⟩ = some (.int .u8 ((ltB c).toNat : Int)) := by
        have h1 := HCL.out t (by rw [HSZ.out]; exact hlt)
        have h2 : s.data.toList.getD t 0 = ltB c := by rw [HSS.out, List.getD_eq_getElem?_getD, List.getElem?_map, hc]; rfl
        rw [h2] at h1
        rw [World.cell?_of_block (hM.kp.block _ hW1 HNB.out)]
        exact h1
      have hin : goW u (ws.take t) ∈ N' := (HX.out _).2 (.inr ⟨t, Nat.le_refl _, rfl⟩)
      have hnb := neighbour_any base N' m' (goW u (ws.take t)) c wr hM.gr hin (by have := hM.kp.size; omega)
      have hst : goW u (ws.take (t + 1)) = stp (goW u (ws.take t)) c := by rw [List.take_add_one, hc]; exact goW_snoc _ _ _
      have HST := Lib.hid hst
      rw [← hst] at hnb
      have HIX := Lib.hid (index_any c)
      have htl : (t : Int) < (ws.length : Int) := by omega
      clear hst hin
      generalize ((ltB c).toNat : Int) = b at *
      generalize m' (goW u (ws.take t)) = g at *
      go_wp2_with fail
      refine (HIX.out _).mono ?_
      rintro e V1 ⟨rfl, rfl⟩
      go_wp2_with fail
      refine hnb.mono ?_
      rintro e V2 ⟨N2, m2, rfl, hM2, hX2⟩
      have HX3 : Hid (∀ x, x ∈ N2 ↔ x ∈ N ∨ ∃ j, j ≤ t + 1 ∧ x = goW u (ws.take j)) := fun x => by
        rw [hX2 x, HX.out x]
        constructor
        · rintro ((h | ⟨j, hj, e⟩) | e)
          · exact .inl h
          · exact .inr ⟨j, by omega, e⟩
          · exact .inr ⟨t + 1, Nat.le_refl _, e⟩
        · rintro (h | ⟨j, hj, e⟩)
          · exact .inl (.inl h)
          · by_cases hjt : j ≤ t
            · exact .inl (.inr ⟨j, hjt, e⟩)
            · obtain rfl : j = t + 1 := by omega
              exact .inr e
      have hM3 := hM.trans hM2
      clear hX2 hM2 hnb hM
      go_wp2
      go_roundw
      case rel => exact ⟨t + 1, N2, m2, by omega, by go_num, rfl, hM3, HX3⟩
      case measure => simp [intOf]; omega
    · obtain rfl : t = ws.length := by omega
      have HX4 := Lib.hid HX.out
      rw [List.take_length]
      have hM4 := More.ahead HB1.out hM
      go_wp2
      go_ret
      exact ⟨N', m', rfl, hM4, fun x => HX4.out x⟩
end

end Go.Proofs.YtlcjgppclclkoaaDoor
