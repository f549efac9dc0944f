/- The program's iterator: its contract. -/
import Derived.Test.YtpbalclhdhjnoaaGreatDoorKBr0
import Derived.Test.YtpbalclhdhjnoaaGreatDoorKTail3
import Derived.Deep.QuietTactic
import Derived.BigQuiet
namespace Go.Proofs.YtpbalclhdhjnoaaGreatDoor.Bar
open Go.RowKit Go.Shelf Doc
attribute [local go_sem] Oper.semAt_some wide_fn wide_depth

/-- These blocks lie as they lay. -/
def KeptB (bs : List Nat) (W W' : World) : Prop := W.heap.size ≤ W'.heap.size ∧ ∀ k ∈ bs, W'.heap[k]? = W.heap[k]?
theorem KeptB.refl (bs : List Nat) (W : World) : KeptB bs W W := ⟨Nat.le_refl _, fun _ _ => rfl⟩
theorem KeptB.trans {bs : List Nat} {A B C : World} (h : KeptB bs A B) (k : KeptB bs B C) : KeptB bs A C := ⟨Nat.le_trans h.1 k.1, fun i hi => (k.2 i hi).trans (h.2 i hi)⟩
theorem KeptB.below {bs : List Nat} {A B : World} {n : Nat} (h : Below n A B) (hn : ∀ k ∈ bs, k < n) : KeptB bs A B := ⟨h.size, fun k hk => h.block k (hn k hk)⟩
theorem KeptB.cell {bs : List Nat} {A B : World} (h : KeptB bs A B) {b o : Nat} (hb : b ∈ bs) : B.cell? ⟨b, o, none⟩ = A.cell? ⟨b, o, none⟩ := World.cell?_of_block (h.2 b hb)
theorem KeptB.putObj {bs : List Nat} {A : World} {l : Nat} (o : Obj) (hl : l ∉ bs) : KeptB bs A (A.putObj l o) := ⟨by simp, fun _ hk => World.putObj_heap_other (fun e => hl (e ▸ hk))⟩

/-- A link and where it leads. -/
abbrev Lead (links : List LinkM) (u : Int) : Type := { x : LinkM × Int // x ∈ onw links u }
end Go.Proofs.YtpbalclhdhjnoaaGreatDoor.Bar
