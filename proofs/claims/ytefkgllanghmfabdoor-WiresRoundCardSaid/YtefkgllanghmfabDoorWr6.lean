/- The program's own test that two networks are the same. -/
import Derived.Test.YtefkgllanghmfabDoorWr5
namespace Go.Proofs.YtefkgllanghmfabDoor
open Go.RowKit Go.Shelf

/-- Two networks in their boxes, both the same data. -/
structure Two (W : World) (p q : Nat) (N : NetM) (b1 l1 g1 d1 t1 b2 l2 g2 d2 t2 : Value) : Prop where
  hp : W.heap[p]? = some (.cells #[.string N.name, b1, l1, g1, d1, t1] 32 (0, 0))
  hq : W.heap[q]? = some (.cells #[.string N.name, b2, l2, g2, d2, t2] 32 (0, 0))
  o1 : Owns W 0 b1 l1 g1 d1 t1 N
  o2 : Owns W 0 b2 l2 g2 d2 t2 N
theorem owns_later {W W' : World} {B : Nat} {N : NetM} {b l g d t : Value} (h : Owns W B b l g d t N) (hb : Below W.heap.size W W') : Owns W' B b l g d t N :=
  ⟨own_below h.hb hb (Nat.le_refl _), own_below h.hl hb (Nat.le_refl _), own_below h.hg hb (Nat.le_refl _), own_below h.hd hb (Nat.le_refl _), own_below h.ht hb (Nat.le_refl _)⟩
theorem own_zero {w : World} {B e sz n : Nat} {v : Value} {xs : List Value} (h : w.ownsRow B e sz v n xs) : w.ownsRow 0 e sz v n xs := by
  refine ⟨h.1, ?_⟩
  rcases h.2 with h2 | ⟨g, cap, cur, h3, _, h5⟩
  · exact .inl h2
  · exact .inr ⟨g, cap, cur, h3, Nat.zero_le _, h5⟩
theorem owns_zero {W : World} {B : Nat} {N : NetM} {b l g d t : Value} (h : Owns W B b l g d t N) : Owns W 0 b l g d t N :=
  ⟨own_zero h.hb, own_zero h.hl, own_zero h.hg, own_zero h.hd, own_zero h.ht⟩
theorem Two.later {W W' : World} {p q : Nat} {N : NetM} {b1 l1 g1 d1 t1 b2 l2 g2 d2 t2 : Value} (h : Two W p q N b1 l1 g1 d1 t1 b2 l2 g2 d2 t2) (hb : Below W.heap.size W W') : Two W' p q N b1 l1 g1 d1 t1 b2 l2 g2 d2 t2 :=
  ⟨(hb.block p (Array.getElem?_eq_some_iff.1 h.hp).1).trans h.hp, (hb.block q (Array.getElem?_eq_some_iff.1 h.hq).1).trans h.hq, owns_later h.o1 hb, owns_later h.o2 hb⟩

set_option maxHeartbeats 4000000 in
set_option maxRecDepth 100000 in
theorem same_any (N : NetM) (B1 B2 : Nat) (b1 l1 g1 d1 t1 b2 l2 g2 d2 t2 : Value) (w : World) (hN : GoodM N) (h1 : Owns w B1 b1 l1 g1 d1 t1 N) (h2 : Owns w B2 b2 l2 g2 d2 t2 N) :
    Calls Tryd.prog 12 #[.agg #[.string N.name, b1, l1, g1, d1, t1], .agg #[.string N.name, b2, l2, g2, d2, t2]] w fun e w' => e = .returned (.bool true) ∧ Below w.heap.size w w' := by
  obtain ⟨f1, f2, f3⟩ := hN.fits
  have hg0 : N.gens.length = 0 := by rw [hN.gens]; rfl
  have hd0 : N.loads.length = 0 := by rw [hN.loads]; rfl
  obtain ⟨ag1, cg1, rfl⟩ := own_slice h1.hg
  obtain ⟨ad1, cd1, rfl⟩ := own_slice h1.hd
  obtain ⟨ag2, cg2, rfl⟩ := own_slice h2.hg
  obtain ⟨ad2, cd2, rfl⟩ := own_slice h2.hd
  rw [hg0, hd0] at h1 h2 ⊢
  obtain ⟨W, hW⟩ : ∃ W, W = (w.alloc (.cells #[.string N.name, b1, l1, .slice ag1 0 cg1, .slice ad1 0 cd1, t1] 32)).alloc (.cells #[.string N.name, b2, l2, .slice ag2 0 cg2, .slice ad2 0 cd2, t2] 32) := ⟨_, rfl⟩
  have hbW : Below w.heap.size w W := by rw [hW]; exact ((Below.refl _ w).alloc (Nat.le_refl _) _).alloc (by simp) _
  have hT : Two W w.heap.size (w.heap.size + 1) N b1 l1 (.slice ag1 0 cg1) (.slice ad1 0 cd1) t1 b2 l2 (.slice ag2 0 cg2) (.slice ad2 0 cd2) t2 := by
    refine ⟨?_, ?_, owns_later (owns_zero h1) hbW, owns_later (owns_zero h2) hbW⟩
    · rw [hW]
      exact (Below.heap_alloc _ _ _ (by simp)).trans (World.alloc_heap_new w _)
    · rw [hW]
      have := World.alloc_heap_new (w.alloc (.cells #[.string N.name, b1, l1, .slice ag1 0 cg1, .slice ad1 0 cd1, t1] 32)) (.cells #[.string N.name, b2, l2, .slice ag2 0 cg2, .slice ad2 0 cd2, t2] 32)
      rwa [World.size_alloc] at this
  have HC := hide' (eqTexts N.buses 0 0 _ _ W (by omega) hT.o1.hb hT.o2.hb)
  have HT := hide' hT
  have HB := hide' hbW
  have HW := hide' hW
  have HF : Hid (N.lines.length ≤ 1000 ∧ N.ties.length ≤ 1000) := ⟨by omega, by omega⟩
  clear h1 h2 hT hbW hW hg0 hd0 f1 f2 f3 hN
  go_enter Tryd.func12, Tryd.ntmps12
  go_wp2_with (first
    | (go_at_call 24; refine (eqTies N.ties 0 0 _ _ w4 HF.out.2 T4.out.o1.ht T4.out.o2.ht).mono ?_; rintro e w5 ⟨rfl, hb5⟩)
    | (go_at_call 23; refine (eqLoads0 _ _ _ _ w3).mono ?_; rintro e w4 ⟨rfl, hb4⟩; have T4 := hide' (T3.out.later hb4); obtain ⟨x41, x42, x43, x44, x45⟩ := cells32 T4.out.hp; obtain ⟨y41, y42, y43, y44, y45⟩ := cells32 T4.out.hq; clear x41 x42 x43 x44 y41 y42 y43 y44)
    | (go_at_call 22; refine (eqGens0 _ _ _ _ w2).mono ?_; rintro e w3 ⟨rfl, hb3⟩; have T3 := hide' (T2.out.later hb3); obtain ⟨x31, x32, x33, x34, x35⟩ := cells32 T3.out.hp; obtain ⟨y31, y32, y33, y34, y35⟩ := cells32 T3.out.hq; clear x31 x32 x33 x35 y31 y32 y33 y35)
    | (go_at_call 21; refine (eqLines N.lines 0 0 _ _ w1 HF.out.1 T1.out.o1.hl T1.out.o2.hl).mono ?_; rintro e w2 ⟨rfl, hb2⟩; have T2 := hide' (T1.out.later hb2); obtain ⟨x21, x22, x23, x24, x25⟩ := cells32 T2.out.hp; obtain ⟨y21, y22, y23, y24, y25⟩ := cells32 T2.out.hq; clear x21 x22 x24 x25 y21 y22 y24 y25)
    | (go_at_call 20; go_must (rw [← HW.out]; refine HC.out.mono ?_; rintro e w1 ⟨rfl, hb1⟩; have T1 := hide' (HT.out.later hb1); obtain ⟨x11, x12, x13, x14, x15⟩ := cells32 T1.out.hp; obtain ⟨y11, y12, y13, y14, y15⟩ := cells32 T1.out.hq; clear x11 x13 x14 x15 y11 y13 y14 y15)))
  go_ret
  have s0 := HB.out.size
  have s1 := hb1.size
  have s2 := hb2.size
  have s3 := hb3.size
  have s4 := hb4.size
  exact ⟨rfl, HB.out.trans ((hb1.mono s0).trans ((hb2.mono (by omega)).trans ((hb3.mono (by omega)).trans ((hb4.mono (by omega)).trans (hb5.mono (by omega))))))⟩
end Go.Proofs.YtefkgllanghmfabDoor
