/- How far each bus is: what the program has in memory while it reckons. -/
import Derived.Test.YtpbalclhdhjnoaaGreatDoorKBr2
import Derived.Test.YtpbalclhdhjnoaaGreatDoorKBr3
namespace Go.Proofs.YtpbalclhdhjnoaaGreatDoor.Bar
open Go.RowKit Go.Shelf Doc

def ints (l : List Int) : List Value := l.map (Value.int .i64)
/-- The lists at work: how far (block F, its box PF), reached (block r, its box PR), the place (box PI). -/
structure FarSt (W : World) (F PF PR PI base n : Nat) (s : Reach2) (i : Nat) (r cap : Nat) : Prop where
  hF : W.heap[F]? = some (.cells (ints s.1).toArray 3 (0, 0))
  hPF : W.heap[PF]? = some (.cells #[.slice (some ⟨F, 0, none⟩) n n] 30 (0, 0))
  hPR : W.heap[PR]? = some (.cells #[.slice (some ⟨r, 0, none⟩) s.2.length cap] 30 (0, 0))
  hR : W.ownsRow base 3 1 (.slice (some ⟨r, 0, none⟩) s.2.length cap) s.2.length (ints s.2)
  hPI : W.heap[PI]? = some (.cells #[.int .i64 i] 3 (0, 0))
  hFb : F < base
  hPFb : PF < base
  hPRb : base ≤ PR
  hPIb : base ≤ PI
  hFP : F ≠ PF
  hrPI : r ≠ PI
  hRI : PR ≠ PI
theorem FarSt.grow {W W' : World} {F PF PR PI base n i r cap : Nat} {s : Reach2} (h : FarSt W F PF PR PI base n s i r cap) (hb : ∀ (k : Nat) c t fz, W.heap[k]? = some (Obj.cells c t fz) → W'.heap[k]? = some (Obj.cells c t fz)) : FarSt W' F PF PR PI base n s i r cap := by
  refine ⟨hb _ _ _ _ h.hF, hb _ _ _ _ h.hPF, hb _ _ _ _ h.hPR, ?_, hb _ _ _ _ h.hPI, h.hFb, h.hPFb, h.hPRb, h.hPIb, h.hFP, h.hrPI, h.hRI⟩
  refine ⟨h.hR.1, ?_⟩
  rcases h.hR.2 with h2 | ⟨g, cp, cur, h3, h4, h5, h6⟩
  · exact .inl h2
  · exact .inr ⟨g, cp, cur, h3, h4, hb _ _ _ _ h5, h6⟩
theorem intsCell {w : World} {p t : Nat} {l : List Int} (h : w.heap[p]? = some (.cells (ints l).toArray t (0, 0))) {j : Nat} (hj : j < l.length) : w.cell? ⟨p, j, none⟩ = some (.int .i64 (l.getD j 0)) ∧ w.frozen? ⟨p, j, none⟩ = false := by
  refine ⟨?_, by simp [World.frozen?, h]⟩
  simp only [World.cell?, h]
  show (ints l).toArray[j]? = _
  rw [List.getElem?_toArray, ints, List.getElem?_map, (getD_in hj).1]
  rfl
theorem FarSt.blockR {W : World} {F PF PR PI base n i r cap : Nat} {s : Reach2} (h : FarSt W F PF PR PI base n s i r cap) : ∃ cur : Array Value, W.heap[r]? = some (.cells cur 3 (0, 0)) ∧ base ≤ r ∧ s.2.length ≤ cap ∧ cur.size = cap ∧ cur.toList.take s.2.length = ints s.2 := by
  rcases h.hR.2 with ⟨h2, _⟩ | ⟨g, cp, cur, h3, h4, h5, h6, h7, h8, h9⟩
  · cases h2
  · cases h3
    exact ⟨cur, h5, h4, h6, by simpa using h8, by simpa using h9⟩
end Go.Proofs.YtpbalclhdhjnoaaGreatDoor.Bar

namespace Go.Proofs.YtpbalclhdhjnoaaGreatDoor.Bar
open Go.RowKit Go.Shelf Doc

theorem visit_prefix (u : Int) (s : Reach2) (v : Int) : ∃ ext, (visit u s v).2 = s.2 ++ ext := by
  unfold visit
  split
  · exact ⟨[v], rfl⟩
  · exact ⟨[], by simp⟩
theorem Good.lead {n : Nat} {links : List LinkM} {u : Int} (hu : 0 ≤ u ∧ u < n) (he : Ends n links) : ∀ (pre : List (Lead links u)) {s : Reach2}, Good n s → Good n (pre.foldl (fun s x => Bar.visit u s x.1.2) s)
  | [], _, h => h
  | x :: r, _, h => Good.lead hu he r (h.visit hu (onw_ends he x.1 x.2))
theorem KeptB.setCell {bs : List Nat} {W : World} {k j : Nat} (h : k ∉ bs) (v : Value) : KeptB bs W (W.setCell ⟨k, j, none⟩ v) :=
  ⟨by rw [World.size_setCell]; exact Nat.le_refl _, fun i hi => Below.heap_setCell _ _ _ i (fun e => h (by rw [← show i = k from e]; exact hi))⟩
theorem KeptB.grown {bs : List Nat} {W W' : World} {k : Nat} (hg : W.grownBy W' (some k)) (h : k ∉ bs) (hb : ∀ i ∈ bs, i < W.heap.size) : KeptB bs W W' :=
  ⟨hg.size, fun i hi => hg.block i (hb i hi) (fun e => h (by cases e; exact hi))⟩
theorem KeptB.alloc {bs : List Nat} {W : World} (o : Obj) (hb : ∀ i ∈ bs, i < W.heap.size) : KeptB bs W (W.alloc o) := KeptB.below ((Below.refl _ W).alloc (Nat.le_refl _) o) hb
section
variable {W W' : World} {F PF PR PI base n i r cap : Nat} {s : Reach2}
theorem FarSt.neR (h : FarSt W F PF PR PI base n s i r cap) : F ≠ r ∧ PF ≠ r ∧ PR ≠ r ∧ PI ≠ r := by
  obtain ⟨cur, h1, h2, _⟩ := h.blockR
  have := h.hFb
  have := h.hPFb
  refine ⟨by omega, by omega, ?_, fun e => h.hrPI e.symm⟩
  rintro rfl
  rw [h.hPR] at h1
  cases h1
theorem FarSt.neP (h : FarSt W F PF PR PI base n s i r cap) : F ≠ PR ∧ F ≠ PI ∧ PF ≠ PR ∧ PF ≠ PI := by
  have := h.hFb
  have := h.hPFb
  have := h.hPRb
  have := h.hPIb
  exact ⟨by omega, by omega, by omega, by omega⟩
theorem own_other {W W' : World} {B e sz m : Nat} {v : Value} {xs : List Value} (h : W.ownsRow B e sz v m xs) (hb : ∀ k, v.ownBlock = some k → W'.heap[k]? = W.heap[k]?) : W'.ownsRow B e sz v m xs := by
  refine ⟨h.1, ?_⟩
  rcases h.2 with h2 | ⟨g, cp, cur, h3, h4, h5, h6⟩
  · exact .inl h2
  · exact .inr ⟨g, cp, cur, h3, h4, (hb g (by rw [h3]; rfl)).trans h5, h6⟩
theorem ints_set (l : List Int) (v : Nat) (x : Int) : (ints l).toArray.setIfInBounds v (.int .i64 x) = (ints (l.set v x)).toArray := by
  simp [ints, List.map_set]
theorem FarSt.set (h : FarSt W F PF PR PI base n s i r cap) (v : Nat) (x : Int) : FarSt (W.setCell ⟨F, v, none⟩ (.int .i64 x)) F PF PR PI base n (s.1.set v x, s.2) i r cap := by
  obtain ⟨r1, r2, r3, r4⟩ := h.neR
  obtain ⟨p1, p2, p3, p4⟩ := h.neP
  have ho : ∀ k, k ≠ F → (W.setCell ⟨F, v, none⟩ (.int .i64 x)).heap[k]? = W.heap[k]? := fun k hk => Below.heap_setCell _ _ _ k hk
  refine ⟨?_, (ho _ h.hFP.symm).trans h.hPF, (ho _ p1.symm).trans h.hPR, own_other h.hR (fun k hk => ho k (by cases hk; exact r1.symm)), (ho _ p2.symm).trans h.hPI, h.hFb, h.hPFb, h.hPRb, h.hPIb, h.hFP, h.hrPI, h.hRI⟩
  rw [set_any h.hF v (.int .i64 x), ints_set]
/-- The next place: in a box of its own. -/
theorem FarSt.next (h : FarSt W F PF PR PI base n s i r cap) (hb : base ≤ W.heap.size) : FarSt (W.alloc (.cells #[.int .i64 ((i : Int) + 1)] 3)) F PF PR W.heap.size base n s (i + 1) r cap := by
  have hk : ∀ k o, W.heap[k]? = some o → (W.alloc (.cells #[.int .i64 ((i : Int) + 1)] 3)).heap[k]? = some o := fun k o h1 => (Below.heap_alloc _ _ _ (Array.getElem?_eq_some_iff.1 h1).1).trans h1
  obtain ⟨cur, h1, _⟩ := h.blockR
  have hr := (Array.getElem?_eq_some_iff.1 h1).1
  have hp := (Array.getElem?_eq_some_iff.1 h.hPR).1
  refine ⟨hk _ _ h.hF, hk _ _ h.hPF, hk _ _ h.hPR, own_other h.hR (fun k e => by cases e; exact Below.heap_alloc _ _ _ hr), World.alloc_heap_new W _, h.hFb, h.hPFb, h.hPRb, hb, h.hFP, by omega, by omega⟩
/-- The start: one bus reached, at no distance. -/
theorem FarSt.start {w1 : World} {b : Nat} (hF : w1.heap[F]? = some (.cells (ints (List.replicate n (-1))).toArray 3 (0, 0))) (hl : F < w1.heap.size) (_hb : 0 ≤ (b : Int) ∧ (b : Int) < n) :
    FarSt (((((w1.alloc (.cells #[.slice (some ⟨F, 0, none⟩) n n] 30)).setCell ⟨F, b, none⟩ (.int .i64 0)).alloc (.cells #[.int .i64 (b : Int)] 3)).alloc (.cells #[.slice (some ⟨w1.heap.size + 1, 0, none⟩) 1 1] 30)).alloc (.cells #[.int .i64 0] 3)) F w1.heap.size (w1.heap.size + 1 + 1) (w1.heap.size + 1 + 1 + 1) (w1.heap.size + 1) n (Bar.start n (b : Int)) 0 (w1.heap.size + 1) 1 := by
  have e0 : ∀ (A : World) (o : Obj) (k : Nat), k = A.heap.size → (A.alloc o).heap[k]? = some o := fun A o k e => by subst e; exact World.alloc_heap_new A o
  refine ⟨?_, ?_, ?_, ⟨?_, .inr ⟨w1.heap.size + 1, 1, #[.int .i64 (b : Int)], rfl, Nat.le_refl _, ?_, Nat.le_refl _, ?_, rfl, rfl⟩⟩, ?_, by omega, by omega, by omega, by omega, by omega, by omega, by omega⟩
  · rw [Below.heap_alloc _ _ _ (by simp; omega), Below.heap_alloc _ _ _ (by simp; omega), Below.heap_alloc _ _ _ (by simp; omega)]
    have h1 : (w1.alloc (.cells #[.slice (some ⟨F, 0, none⟩) n n] 30)).heap[F]? = some (.cells (ints (List.replicate n (-1))).toArray 3 (0, 0)) := (Below.heap_alloc _ _ _ hl).trans hF
    rw [set_any h1 b (.int .i64 0), ints_set]
    rfl
  · rw [Below.heap_alloc _ _ _ (by simp; omega), Below.heap_alloc _ _ _ (by simp; omega), Below.heap_alloc _ _ _ (by simp), Below.heap_setCell _ _ _ _ (by show w1.heap.size ≠ F; omega)]
    exact World.alloc_heap_new _ _
  · rw [Below.heap_alloc _ _ _ (by simp)]
    exact e0 _ _ _ (by simp)
  · rfl
  · rw [Below.heap_alloc _ _ _ (by simp), Below.heap_alloc _ _ _ (by simp)]
    exact e0 _ _ _ (by simp)
  · unfold maxLen; omega
  · exact e0 _ _ _ (by simp)
end
end Go.Proofs.YtpbalclhdhjnoaaGreatDoor.Bar
