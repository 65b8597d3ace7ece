/-
  Objects of an exact law in intervals of blocks: small words for its walk.
-/
import Derived.Test.YtckppfgooflooaaLists
namespace Go.Proofs.Ytckppfgooflooaa
set_option maxRecDepth 100000
open Go.RowKit

section
variable {w : World} {lo hi base n c : Nat} {A : Option Addr} {v : Value} {zs : List Int} {Ls : List (List Int)}
theorem OI.ofn (hl : zs.length = n) (h : w.ownsRow base 3 1 v n (ivs zs)) : OI w base w.heap.size v zs := by subst hl; exact OI.of h
theorem OI.form_ (h : OI w lo hi v zs) : ∃ (A : Option Addr) (n c : Nat), v = .slice A n c ∧ n = zs.length := by
  obtain ⟨A, c, e⟩ := h.slice
  exact ⟨A, _, c, e, rfl⟩
theorem OSS.form_ (h : OSS w lo hi v Ls) : ∃ (A : Option Addr) (n c : Nat), v = .slice A n c ∧ n = Ls.length := by
  obtain ⟨A, c, e⟩ := h.slice
  exact ⟨A, _, c, e, rfl⟩
theorem ri_oi_ (h : OI w lo hi (.slice A n c) zs) : RI w A n zs := by
  obtain ⟨rfl, hr⟩ := ri_oi h; exact hr
theorem rss_oss_ (h : OSS w lo hi (.slice A n c) Ls) : RSS w A n Ls := by
  obtain ⟨rfl, hr⟩ := RSS.of_own h; exact hr
theorem rss_mk {k : Nat} (h : OSS w lo hi (.slice A n c) (mkSS k Ls)) : RSS w A n (mkSS k Ls) := rss_oss_ h
theorem szT_min (left : Int) (Ls : List (List Int)) (h : 0 ≤ left) : -1 ≤ szT left Ls := by
  unfold szT
  by_cases hc : left - (Ls.length : Int) < 0
  · rw [if_pos hc]; omega
  · rw [if_neg hc]; exact szR_min Ls _ (by omega)
theorem totL_of_mem {L : List Int} : ∀ {Ls : List (List Int)}, L ∈ Ls → L.length ≤ totL Ls
  | M :: Ls, h => by
    rcases List.mem_cons.1 h with rfl | h
    · simp [totL]
    · have := totL_of_mem h; simp [totL]; omega
theorem totL_bound {Ls : List (List Int)} {a b : Nat} (h1 : Ls.length ≤ a) (h2 : ∀ L ∈ Ls, L.length ≤ b) : totL Ls ≤ a * b := by
  induction Ls generalizing a with
  | nil => simp [totL]
  | cons M Ls ih =>
    obtain ⟨a', rfl⟩ : ∃ a', a = a' + 1 := ⟨a - 1, by simp at h1; omega⟩
    have := ih (a := a') (by simp at h1; omega) (fun L hL => h2 L (List.mem_cons_of_mem _ hL))
    have := h2 M List.mem_cons_self
    simp only [totL]; rw [Nat.succ_mul]; omega
end
theorem heldOI_any (k : Nat) (K : Int) (lo hi : Nat) (A : Option Addr) (n c : Nat) (m : Nat) (w : World) (h : OI w lo hi (.slice A n c) (LT m (mk k))) (hK : K = (k : Int)) (hk : k ≤ 4194304) (hm : m ≤ 1048576) :
    Calls Try.prog 30 #[.slice A n c, .int .i64 K] w fun e w' => e = .returned (.int .i64 ((k + m : Nat) : Int)) ∧ w = w' := by
  have hn : n = m := by have := (ri_oi h).1; rwa [LT_length] at this
  subst hn
  exact held_at A n c k K w (ri_oi_ h) hK hk hm
end Go.Proofs.Ytckppfgooflooaa
