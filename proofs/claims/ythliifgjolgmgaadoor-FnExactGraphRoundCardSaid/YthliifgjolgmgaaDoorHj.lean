/-
  strings.IndexByte among the letters, told by the byte; impl.graph.along.
-/
import Derived.Test.YthliifgjolgmgaaDoorHi
import Derived.Lib.Strings
import Derived.Lib.Slices
import Derived.Lib.Walk
import Derived.Lib.Bytealg
import Derived.Lib.ConvBytes
import Derived.Deep.RegionHeld3
namespace Go.Proofs.YthliifgjolgmgaaDoor
set_option maxRecDepth 100000
set_option linter.unusedVariables false
open Go.RowKit Go.Lib

def isLt (b : UInt8) : Prop := b = 65 ∨ b = 66 ∨ b = 97 ∨ b = 98
theorem lxB_lt (b : UInt8) : lxB b < 4 := by
  unfold lxB
  split
  · decide
  · split
    · decide
    · split <;> decide
theorem ix_lt {b : UInt8} (h : isLt b) : Lib.indexByte (⟨#[65, 66, 97, 98]⟩ : ByteArray).data.toList (((b.toNat : Nat) : Int).toNat.toUInt8) = (lxB b : Int) := by
  rcases h with rfl | rfl | rfl | rfl <;> decide
theorem slIx_any (b : UInt8) (h : isLt b) (w : World) : Calls Tryd.prog 74 #[.string ⟨#[65, 66, 97, 98]⟩, .int .u8 (b.toNat : Int)] w fun e w' => e = .returned (.int .i64 (lxB b : Int)) ∧ w' = w := by
  have HI := Lib.hid (ix_lt h)
  generalize (b.toNat : Int) = x at *
  go_enter Tryd.func74, Tryd.ntmps74
  go_wp2
  rw [run_callFunc_extern Tryd.func87 (by kernel_rfl) (by kernel_rfl) (by kernel_rfl) (e := Extern.BytealgIndexByte.indexByte) (by kernel_rfl), Lib.run_indexByteString]
  simp only [Result.andThen]
  rw [Oper.upon_value]
  go_wp2
  go_ret
  exact ⟨by rw [← HI.out]; rfl, rfl⟩
theorem sIx_any (b : UInt8) (h : isLt b) (w : World) : Calls Tryd.prog 55 #[.string ⟨#[65, 66, 97, 98]⟩, .int .u8 (b.toNat : Int)] w fun e w' => e = .returned (.int .i64 (lxB b : Int)) ∧ w' = w := by
  have HS := Lib.hid (slIx_any b h)
  generalize (b.toNat : Int) = x at *
  go_enter Tryd.func55, Tryd.ntmps55
  go_wp2_with fail
  refine (HS.out _).mono ?_
  rintro e w' ⟨rfl, rfl⟩
  go_wp2
  go_ret
  exact ⟨rfl, rfl⟩
set_option maxHeartbeats 2000000 in
theorem galong_any (A : Option Addr) (n L c : Nat) (T : List Int) (nx : Nat → Nat → Option Nat) (s : ByteArray) (w : World) (h : RI w A L T) (hn : n ≤ 1600) (h0 : 0 < n) (hs : s.size ≤ 1048576) (hT : ∀ l v, l < 4 → v < n → T[l * n + v]? = some (enc (nx l v))) (hx : ∀ c v u, nx c v = some u → u < n) (hw : ∀ b ∈ s.data.toList, isLt b) :
    Calls Tryd.prog 42 #[.agg #[.int .i64 (n : Int), .slice A L c], .string s] w fun e w' => e = .returned (.int .i64 (enc (rdW nx s.data.toList))) ∧ Below w.heap.size w w' := by
  have hB0 : Below w.heap.size w (w.alloc (.cells #[.int .i64 (n : Int), .slice A L c] 52)) := (Below.refl _ w).alloc (Nat.le_refl _) _
  have hA0 := Blk.new w 52 #[.int .i64 (n : Int), .slice A L c]
  have hlen : s.data.toList.length = s.size := by rw [Array.length_toList]; rfl
  obtain ⟨cap, W1, hconv, hcl, hB1, hW1⟩ : ∃ cap W1, (convert 9 73 (.string s)).run Tryd.prog (w.alloc (.cells #[.int .i64 (n : Int), .slice A L c] 52)) = .ok (.slice (some ⟨(w.alloc (.cells #[.int .i64 (n : Int), .slice A L c] 52)).heap.size, 0, none⟩) s.size cap) W1 ∧ (∀ j, j < s.size → W1.cell? ⟨(w.alloc (.cells #[.int .i64 (n : Int), .slice A L c] 52)).heap.size, j, none⟩ = some (.int .u8 ((s.data.toList.getD j 0).toNat : Int))) ∧ Below (w.alloc (.cells #[.int .i64 (n : Int), .slice A L c] 52)).heap.size (w.alloc (.cells #[.int .i64 (n : Int), .slice A L c] 52)) W1 ∧ (w.alloc (.cells #[.int .i64 (n : Int), .slice A L c] 52)).heap.size < W1.heap.size := by
    refine ⟨_, _, Lib.run_convert_string_bytes _ 9 73 5 s Tryd.underlying9 Tryd.underlying73 Tryd.underlying5, fun j hj => Lib.bytesWorld_cell _ _ s j hj, ⟨rfl, rfl, rfl, by rw [Lib.bytesWorld_size]; omega, fun k hk => Lib.bytesWorld_at_old _ _ s k hk⟩, by rw [Lib.bytesWorld_size]; omega⟩
  have hsz : (w.alloc (.cells #[.int .i64 (n : Int), .slice A L c] 52)).heap.size = w.heap.size + 1 := World.size_alloc _ _
  rw [hsz] at hconv hcl hW1
  have HA1 := Lib.hid (hA0.below hB1 hA0.lt)
  have HB1 := Lib.hid (hB0.trans (hB1.mono hB0.size))
  have HCL := Lib.hid hcl
  have HW1 := Lib.hid hW1
  have HLEN := Lib.hid hlen
  have HRI : Hid (∀ W : World, Below w.heap.size w W → RI W A L T) := fun W hW => h.below hW
  have HX := Lib.hid hx
  have HTT := Lib.hid hT
  have HLT := Lib.hid hw
  have HDA : Hid (∀ k x, s.data.toList[k]? = some x → s.data.toList.getD k 0 = x) := fun k x hk => by rw [List.getD_eq_getElem?_getD, hk]; rfl
  generalize hLs : s.data.toList = Ls at *
  clear hLs hB0 hA0 hlen hcl hB1 hW1 hsz h hT hx hw
  have HRL : Hid (∀ k v, rdW nx (Ls.take k) = some v → v < n) := fun k v hv => rdW_lt h0 HX.out _ v hv
  go_enter Tryd.func42, Tryd.ntmps42
  go_wp2
  go_loopg [5, 11] s.size (fun g0 s5 s11 wr => ∃ k v : Nat, k + g0 = s.size ∧ s11 = .int .i64 (k : Int) ∧ s5 = .int .i64 (v : Int) ∧ Hid (rdW nx (Ls.take k) = some v) ∧ Hid (Below W1.heap.size W1 wr))
  case atStart => exact ⟨0, 0, by omega, rfl, rfl, rdW_zero nx Ls, Below.refl _ _⟩
  case round =>
    obtain ⟨k, v, hkg, rfl, rfl, HO, HBW⟩ := hrel
    by_cases hlt : k < s.size
    · have hki : (k : Int) < (s.size : Int) := by omega
      obtain ⟨x, hxk⟩ : ∃ x, Ls[k]? = some x := ⟨_, List.getElem?_eq_getElem (by rw [HLEN.out]; exact hlt)⟩
      have hv := HRL.out k v HO.out
      have hbyte : wr.cell? ⟨w.heap.size + 1, k, none⟩ = some (.int .u8 (x.toNat : Int)) := by
        rw [HBW.out.cell (p := ⟨w.heap.size + 1, k, none⟩) HW1.out, HCL.out k hlt, HDA.out k x hxk]
      have hlx := HLT.out x (List.mem_of_getElem? hxk)
      have HIX := Lib.hid (fun W : World => sIx_any x hlx W)
      have HAR := Lib.hid (HA1.out.below HBW.out HA1.out.lt)
      have HBR := Lib.hid (HB1.out.trans (HBW.out.mono HB1.out.size))
      have HGL : Hid (∀ W : World, Below w.heap.size w W → Calls Tryd.prog 66 #[.agg #[.int .i64 (n : Int), .slice A L c], .int .i64 (v : Int), .int .i64 (lxB x : Int)] W fun e w' => e = .returned (.int .i64 (enc (nx (lxB x) v))) ∧ Below W.heap.size W w') := fun W hW =>
        gleads_any A n L c T v (lxB x) _ W (HRI.out W hW) hn (lxB_lt x) hv (HTT.out _ _ (lxB_lt x) hv)
      have HRS : Hid (rdW nx (Ls.take (k + 1)) = nx (lxB x) v) := by
        show _ = _
        rw [rdW_succ hxk, HO.out]; rfl
      have HRN : Hid (nx (lxB x) v = none → rdW nx Ls = none) := fun e => rdW_none (k := k + 1) (by rw [HRS.out]; exact e)
      have HCK : Hid (∀ w' : World, Below wr.heap.size wr w' → w'.cell? ⟨w.heap.size, 0, none⟩ = some (.int .i64 (n : Int)) ∧ w'.cell? ⟨w.heap.size, 1, none⟩ = some (.slice A L c)) := fun w' hW => ⟨(HAR.out.below hW HAR.out.lt).cell 0, (HAR.out.below hW HAR.out.lt).cell 1⟩
      have HBc : Below wr.heap.size wr wr.drew := (Below.refl _ _).drew
      have hle : wr.heap.size ≤ wr.heap.size := Nat.le_refl _
      clear hxk hlx
      generalize nx (lxB x) v = y at *
      generalize (x.toNat : Int) = bx at *
      generalize (lxB x : Int) = ly at *
      go_wp2_with fail
      go_region_held3 (fun w' => w'.cell? ⟨w.heap.size, 0, none⟩ = some (.int .i64 (n : Int)) ∧ w'.cell? ⟨w.heap.size, 1, none⟩ = some (.slice A L c)) (exact HCK.out _ (by first | exact HBc | exact HBc.alloc (by have := HBc.size; omega) _))
        (first
          | (go_at_call 55
             refine (HIX.out _).mono ?_
             rintro e q1 ⟨rfl, rfl⟩)
          | (go_at_call 66
             refine (HGL.out _ (HBR.out.trans (HBc.mono HBR.out.size))).mono ?_
             rintro e q2 ⟨rfl, hb2⟩
             have HBc := bel5 HBc hb2 hle
             clear hb2))
      have HBW2 := Lib.hid (HBW.out.trans (HBc.mono HBW.out.size))
      clear HBc hle HCK HGL HIX HAR HBR
      cases y with
      | none =>
        have HR : Hid (enc (rdW nx Ls) = -1) := by show _ = _; rw [HRN.out rfl]; rfl
        have HBF := Lib.hid (HB1.out.trans (HBW2.out.mono HB1.out.size))
        rw [show enc (none : Option Nat) = -1 from rfl]
        clear HRN HRS
        go_wp2
        go_ret
        exact ⟨by rw [HR.out]; rfl, HBF.out⟩
      | some u =>
        have hne : ((u : Int) == -1) = false := by rw [beq_eq_false_iff_ne]; omega
        rw [show enc (some u) = (u : Int) from rfl]
        clear HRN
        go_wp2
        go_roundg (s.size - (k + 1))
        case measure => omega
        case rel => exact ⟨k + 1, u, by omega, by go_num, rfl, HRS.out, HBW2.out⟩
    · obtain rfl : k = s.size := by omega
      have hki : ¬ (s.size : Int) < (s.size : Int) := by omega
      have HR : Hid (enc (rdW nx Ls) = (v : Int)) := by
        show _ = _
        have := HO.out
        rw [List.take_of_length_le (by rw [HLEN.out]; exact Nat.le_refl _)] at this
        rw [this]; rfl
      have HBF := Lib.hid (HB1.out.trans (HBW.out.mono HB1.out.size))
      go_wp2
      go_ret
      exact ⟨by rw [HR.out]; rfl, HBF.out⟩
end Go.Proofs.YthliifgjolgmgaaDoor
