/- The program's numbers of yards: one bit is turned; an array of signs. -/
import Derived.Test.YtcnoipcpifackahXi
namespace Go.Proofs.Ytcnoipcpifackah
open Go.RowKit Go.Shelf

theorem xor_small : ∀ c, c < 1024 → ∀ k, k < 10 → c ^^^ 2 ^ k = if c / 2 ^ k % 2 = 1 then c - 2 ^ k else c + 2 ^ k := by decide +kernel
theorem xor_pow {c k : Nat} (hc : c < 1024) (hk : k < 10) : bits BinOp.xor IntKind.i64 (c : Int) (wrap64 ((2 : Int) ^ k)) = ((c ^^^ 2 ^ k : Nat) : Int) ∧ c ^^^ 2 ^ k < 1024 := by
  have hp : 2 ^ k ≤ 512 := Nat.le_trans (Nat.pow_le_pow_right (by decide) (by omega : k ≤ 9)) (by decide)
  have hlt : c ^^^ 2 ^ k < 1024 := Nat.xor_lt_two_pow (n := 10) hc (by omega)
  refine ⟨?_, hlt⟩
  have e0 : ((2 : Int) ^ k) = ((2 ^ k : Nat) : Int) := (Int.natCast_pow 2 k).symm
  rw [e0]
  obtain ⟨m, hm⟩ : ∃ m, m = 2 ^ k := ⟨_, rfl⟩
  rw [← hm] at hp hlt ⊢
  have e1 : wrap64 (m : Int) = (m : Int) := by unfold wrap64; omega
  rw [e1]
  have h1 : (BitVec.ofInt 64 (c : Int) ^^^ BitVec.ofInt 64 (m : Int)).toNat = c ^^^ m := by
    rw [BitVec.toNat_xor, BitVec.toNat_ofInt, BitVec.toNat_ofInt]
    have a1 : ((c : Int) % ((2 ^ 64 : Nat) : Int)).toNat = c := by omega
    have a2 : ((m : Int) % ((2 ^ 64 : Nat) : Int)).toNat = m := by omega
    rw [a1, a2]
  have h2 : bits BinOp.xor IntKind.i64 (c : Int) (m : Int) = IntKind.i64.wrap ((BitVec.ofInt 64 (c : Int) ^^^ BitVec.ofInt 64 (m : Int)).toNat : Int) := rfl
  rw [h2, h1]
  exact Go.IntWalk.i64_in _ (by omega)
/-- What the program's number of a move is. -/
theorem code_xor {y : YardM} (hd : y.devs.length ≤ 10) {c k : Nat} (hk : k < y.devs.length) (hc : c < 2 ^ y.devs.length) : c ^^^ 2 ^ k = ((y.at c).turn k).code := by
  have h1 : 2 ^ y.devs.length ≤ 1024 := Nat.le_trans (Nat.pow_le_pow_right (by decide) hd) (by decide)
  have h2 := xor_small c (by omega) k (by omega)
  have h3 := code_turned y c hk hc
  rw [h2]
  unfold bitN at h3
  by_cases h : c / 2 ^ k % 2 = 1
  · rw [if_pos h]
    rw [decide_eq_true h] at h3
    simp only [if_true] at h3
    omega
  · rw [if_neg h]
    rw [decide_eq_false h] at h3
    simp only [Bool.false_eq_true, if_false] at h3
    omega
theorem t76z : Try.t76.zero = some (.agg (Array.replicate 1024 (.bool false))) := by kernel_rfl
theorem zero76 (w : World) : (zeroValue 76).run Try.prog w = .ok (.agg (Array.replicate 1024 (.bool false))) w := by
  simp [zeroValue, t76z]
/-- An array of signs: which numbers are known. -/
structure KnownAt (w : World) (K : Nat) (kn : Nat → Bool) : Prop where
  blk : ∃ cs : Array Value, w.heap[K]? = some (.cells cs 76 (0, 0)) ∧ cs.size = 1024 ∧ ∀ c, c < 1024 → cs[c]? = some (.bool (kn c))
theorem KnownAt.start {w : World} {K : Nat} (h : w.heap[K]? = some (.cells (Array.replicate 1024 (.bool false)) 76 (0, 0))) : KnownAt w K (fun _ => false) := by
  refine ⟨_, h, Array.size_replicate, fun c hc => ?_⟩
  rw [Array.getElem?_replicate, if_pos hc]
theorem KnownAt.cell {w : World} {K : Nat} {kn : Nat → Bool} (h : KnownAt w K kn) {c : Nat} (hc : c < 1024) : w.cell? ⟨K, c, none⟩ = some (.bool (kn c)) ∧ w.frozen? ⟨K, c, none⟩ = false := by
  obtain ⟨cs, h1, _, h3⟩ := h.blk
  exact ⟨(cells_at h1 c).trans (h3 c hc), frozen_no h1 _⟩
theorem KnownAt.set {w : World} {K : Nat} {kn : Nat → Bool} (h : KnownAt w K kn) {c : Nat} (hc : c < 1024) : KnownAt (w.setCell ⟨K, c, none⟩ (.bool true)) K (fun x => if x = c then true else kn x) := by
  obtain ⟨cs, h1, h2, h3⟩ := h.blk
  refine ⟨_, set_any h1 c _, by rw [Array.size_setIfInBounds]; exact h2, fun x hx => ?_⟩
  rw [Array.getElem?_setIfInBounds]
  by_cases e : c = x
  · subst e
    rw [if_pos rfl, if_pos (by omega), if_pos rfl]
  · rw [if_neg e, if_neg (Ne.symm e)]
    exact h3 x hx
theorem KnownAt.keep {w w' : World} {K : Nat} {kn : Nat → Bool} (h : KnownAt w K kn) (hk : w'.heap[K]? = w.heap[K]?) : KnownAt w' K kn := by
  obtain ⟨cs, h1, h2, h3⟩ := h.blk
  exact ⟨cs, hk.trans h1, h2, h3⟩
end Go.Proofs.Ytcnoipcpifackah
