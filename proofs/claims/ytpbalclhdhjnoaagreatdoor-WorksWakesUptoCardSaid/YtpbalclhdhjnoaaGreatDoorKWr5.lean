/- Two networks that are the same data are told to be the same, by the program's own equality. -/
import Derived.Test.YtpbalclhdhjnoaaGreatDoorKWr4
import Derived.Test.YtpbalclhdhjnoaaGreatDoorKSh1
import Derived.Test.YtpbalclhdhjnoaaGreatDoorKD8
namespace Go.Proofs.YtpbalclhdhjnoaaGreatDoor
open Go.RowKit Go.Shelf

end Go.Proofs.YtpbalclhdhjnoaaGreatDoor

namespace Go.Proofs.YtpbalclhdhjnoaaGreatDoor
open Go.RowKit Go.Shelf

/-- Two networks in their boxes, both the same data. -/
structure Two (W : World) (p q : Nat) (N : NetM) (b1 l1 g1 d1 t1 b2 l2 g2 d2 t2 : Value) : Prop where
  hp : W.heap[p]? = some (.cells #[.string N.name, b1, l1, g1, d1, t1] 28 (0, 0))
  hq : W.heap[q]? = some (.cells #[.string N.name, b2, l2, g2, d2, t2] 28 (0, 0))
  o1 : Owns W 0 b1 l1 g1 d1 t1 N
  o2 : Owns W 0 b2 l2 g2 d2 t2 N
theorem owns_later {W W' : World} {B : Nat} {N : NetM} {b l g d t : Value} (h : Owns W B b l g d t N) (hb : Below W.heap.size W W') : Owns W' B b l g d t N :=
  ⟨own_below h.hb hb (Nat.le_refl _), own_below h.hl hb (Nat.le_refl _), own_below h.hg hb (Nat.le_refl _), own_below h.hd hb (Nat.le_refl _), own_below h.ht hb (Nat.le_refl _)⟩
theorem Two.later {W W' : World} {p q : Nat} {N : NetM} {b1 l1 g1 d1 t1 b2 l2 g2 d2 t2 : Value} (h : Two W p q N b1 l1 g1 d1 t1 b2 l2 g2 d2 t2) (hb : Below W.heap.size W W') : Two W' p q N b1 l1 g1 d1 t1 b2 l2 g2 d2 t2 :=
  ⟨(hb.block p (Array.getElem?_eq_some_iff.1 h.hp).1).trans h.hp, (hb.block q (Array.getElem?_eq_some_iff.1 h.hq).1).trans h.hq, owns_later h.o1 hb, owns_later h.o2 hb⟩

end Go.Proofs.YtpbalclhdhjnoaaGreatDoor

namespace Go.Proofs.YtpbalclhdhjnoaaGreatDoor
open Go.RowKit Go.Shelf

set_option maxHeartbeats 800000 in
theorem show_idle (p0 p1 : Addr) (w : World) :
    CallsD Tryz.prog 29 #[.pointer (some p0), .pointer (some p1)] .returning w fun e u' w' => e = .returned (.tuple #[]) ∧ u' = .returning ∧ w' = w := by
  refine callsD_of_wpS Tryz.func29 rfl fun c₀ cs hu => ?_
  apply wpS_seq
  apply wpS_region
  simp [wpOpsS, go_sem, recoverD, hu, Tryz.ntmps29, Exit.thenS]
  apply wpS_seq
  apply wpS_region
  simp [wpOpsS, go_sem, Exit.thenS]
  refine wpS_cond (t := false) (by simp [Act.eval, Array.replicate]) ?_
  simp only [Bool.false_eq_true, if_false]
  refine wpS_of_wp (wp_skip ?_)
  cases c₀
  simp_all [bodyPostS, results, Tryz.results29]

/-- The world when the network is boxed and the two results' boxes are laid. -/
def showW (w : World) (nm : ByteArray) (b l g d t : Value) : World := ((w.alloc (.cells #[.string nm, b, l, g, d, t] 28)).alloc (.cells #[.string ⟨#[]⟩] 9)).alloc (.cells #[.int .i64 0] 34)
theorem show_size (w : World) (nm : ByteArray) (b l g d t : Value) : (showW w nm b l g d t).heap.size = w.heap.size + 3 := by simp [showW]
theorem show_below (w : World) (nm : ByteArray) (b l g d t : Value) : Below w.heap.size w (showW w nm b l g d t) := (((Below.refl _ w).alloc (Nat.le_refl _) _).alloc (by simp) _).alloc (by simp; omega) _
theorem show_net (w : World) (nm : ByteArray) (b l g d t : Value) : (showW w nm b l g d t).heap[w.heap.size]? = some (.cells #[.string nm, b, l, g, d, t] 28 (0, 0)) :=
  (Below.heap_alloc _ _ _ (by simp; omega)).trans ((Below.heap_alloc _ _ _ (by simp)).trans (World.alloc_heap_new w _))
theorem show_text (w : World) (nm : ByteArray) (b l g d t : Value) : (showW w nm b l g d t).heap[w.heap.size + 1]? = some (.cells #[.string ⟨#[]⟩] 9 (0, 0)) := by
  have := World.alloc_heap_new (w.alloc (.cells #[.string nm, b, l, g, d, t] 28)) (.cells #[.string ⟨#[]⟩] 9)
  rw [World.size_alloc] at this
  exact (Below.heap_alloc _ _ _ (by simp)).trans this
theorem show_fault (w : World) (nm : ByteArray) (b l g d t : Value) : (showW w nm b l g d t).heap[w.heap.size + 2]? = some (.cells #[.int .i64 0] 34 (0, 0)) := by
  have := World.alloc_heap_new ((w.alloc (.cells #[.string nm, b, l, g, d, t] 28)).alloc (.cells #[.string ⟨#[]⟩] 9)) (.cells #[.int .i64 0] 34)
  rw [World.size_alloc, World.size_alloc] at this
  exact this
theorem cell_one {w : World} {p t : Nat} {v : Value} (h : w.heap[p]? = some (.cells #[v] t (0, 0))) : w.cell? ⟨p, 0, none⟩ = some v ∧ w.frozen? ⟨p, 0, none⟩ = false :=
  ⟨by simp only [World.cell?, h]; rfl, by simp [World.frozen?, h]⟩

end Go.Proofs.YtpbalclhdhjnoaaGreatDoor
