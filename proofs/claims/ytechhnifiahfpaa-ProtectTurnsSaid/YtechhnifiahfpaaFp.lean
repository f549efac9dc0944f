/- Currents turned and doubled: what that does to their sums (pure); three rows that grow beside one another. -/
import Derived.Test.YtechhnifiahfpaaFz
namespace Go.Proofs.Ytechhnifiahfpaa
open Go.RowKit Go.Shelf

theorem sx_app (l r : List (Int × Int)) : ∀ k, k ≤ l.length → sx (l ++ r) k = sx l k ∧ sy (l ++ r) k = sy l k ∧ gq (l ++ r) k = gq l k
  | 0, _ => ⟨rfl, rfl, rfl⟩
  | k + 1, hk => by
    obtain ⟨h1, h2, h3⟩ := sx_app l r k (by omega)
    have e : (l ++ r).getD k (0, 0) = l.getD k (0, 0) := by
      rw [List.getD_eq_getElem?_getD, List.getD_eq_getElem?_getD, List.getElem?_append_left (by omega)]
    simp only [sx, sy, gq, h1, h2, h3, e, and_self]
theorem sx_snoc (l : List (Int × Int)) (z : Int × Int) : sx (l ++ [z]) (l ++ [z]).length = sx l l.length + z.1 ∧ sy (l ++ [z]) (l ++ [z]).length = sy l l.length + z.2 ∧ gq (l ++ [z]) (l ++ [z]).length = max (gq l l.length) (sqr z) := by
  obtain ⟨h1, h2, h3⟩ := sx_app l [z] l.length (Nat.le_refl _)
  have e : (l ++ [z]).getD l.length (0, 0) = z := by
    rw [List.getD_eq_getElem?_getD, List.getElem?_append_right (Nat.le_refl _)]; simp
  have hl : (l ++ [z]).length = l.length + 1 := by simp
  rw [hl]
  simp only [sx, sy, gq, h1, h2, h3, e, and_self]
theorem sx_cons (z : Int × Int) (l : List (Int × Int)) : ∀ k, sx (z :: l) (k + 1) = z.1 + sx l k ∧ sy (z :: l) (k + 1) = z.2 + sy l k ∧ gq (z :: l) (k + 1) = max (gq l k) (max 0 (sqr z))
  | 0 => by simp [sx, sy, gq]
  | k + 1 => by
    obtain ⟨h1, h2, h3⟩ := sx_cons z l k
    have e : (z :: l).getD (k + 1) (0, 0) = l.getD k (0, 0) := by simp
    refine ⟨?_, ?_, ?_⟩
    · rw [sx, h1, e, sx]; omega
    · rw [sy, h2, e, sy]; omega
    · rw [gq, h3, e, gq]; omega
theorem sqr_nn (z : Int × Int) : 0 ≤ sqr z := (sq_bd (Nat.le_max_left z.1.natAbs z.2.natAbs) (Nat.le_max_right _ _)).1
structure Turn (zs tz bz : List (Int × Int)) : Prop where
  tx : sx tz tz.length = -sy zs zs.length
  ty : sy tz tz.length = sx zs zs.length
  tg : gq tz tz.length = gq zs zs.length
  bx : sx bz bz.length = 0
  by' : sy bz bz.length = 0
theorem Turn.start : Turn [] [] [] := ⟨rfl, rfl, rfl, rfl, rfl⟩
theorem sqr_turn (a b : Int) : sqr (-b, a) = sqr (a, b) := by
  show -b * -b + a * a = a * a + b * b
  rw [Int.neg_mul_neg, Int.add_comm]
theorem Turn.next {zs tz bz : List (Int × Int)} (h : Turn zs tz bz) (x y : Int) : Turn (zs ++ [(x, y)]) ((-y, x) :: tz) ((bz ++ [(x, y)]) ++ [(-x, -y)]) := by
  obtain ⟨a1, a2, a3⟩ := sx_snoc zs (x, y)
  obtain ⟨b1, b2, b3⟩ := sx_cons (-y, x) tz tz.length
  obtain ⟨c1, c2, _⟩ := sx_snoc bz (x, y)
  obtain ⟨d1, d2, _⟩ := sx_snoc (bz ++ [(x, y)]) (-x, -y)
  refine ⟨?_, ?_, ?_, ?_, ?_⟩
  · rw [List.length_cons, b1, a2, h.tx]; show -y + -sy zs zs.length = -(sy zs zs.length + y); omega
  · rw [List.length_cons, b2, a1, h.ty]; show x + sx zs zs.length = sx zs zs.length + x; omega
  · rw [List.length_cons, b3, a3, h.tg, sqr_turn, Int.max_eq_right (sqr_nn _)]
  · rw [d1, c1, h.bx]; show 0 + x + -x = 0; omega
  · rw [d2, c2, h.by']; show 0 + y + -y = 0; omega
theorem Turn.same {zs tz bz : List (Int × Int)} (h : Turn zs tz bz) (s p : Int) : diffB tz s p = diffB zs s p := by
  unfold diffB
  rw [h.tx, h.ty, h.tg, sqr_turn]
theorem Turn.none {zs tz bz : List (Int × Int)} (h : Turn zs tz bz) {s p : Int} (hs : 0 ≤ s) : diffB bz s p = false := by
  unfold diffB
  rw [h.bx, h.by']
  have : ¬ s * s < sqr (0, 0) := by
    have := Int.mul_nonneg hs hs
    show ¬ s * s < 0 * 0 + 0 * 0
    omega
  rw [decide_eq_false this]
  rfl
theorem AllC.nil : AllC [] [] := ⟨rfl, fun k hk => absurd hk (Nat.not_lt_zero _), fun k hk => absurd hk (Nat.not_lt_zero _), fun k => by simp⟩
theorem AllC.snoc {cs : List (Nat × Nat)} {zs : List (Int × Int)} (h : AllC cs zs) {a b : Nat} {x y : Int} (ha : Wh a x) (hb : Wh b y) (hx : x.natAbs ≤ 32768) (hy : y.natAbs ≤ 32768) : AllC (cs ++ [(a, b)]) (zs ++ [(x, y)]) := by
  have hl := h.len
  have old : ∀ k, k < cs.length → (cs ++ [(a, b)]).getD k (0, 0) = cs.getD k (0, 0) ∧ (zs ++ [(x, y)]).getD k (0, 0) = zs.getD k (0, 0) := fun k hk => by
    constructor
    · rw [List.getD_eq_getElem?_getD, List.getD_eq_getElem?_getD, List.getElem?_append_left hk]
    · rw [List.getD_eq_getElem?_getD, List.getD_eq_getElem?_getD, List.getElem?_append_left (by omega)]
  have new1 : (cs ++ [(a, b)]).getD cs.length (0, 0) = (a, b) := by
    rw [List.getD_eq_getElem?_getD, List.getElem?_append_right (Nat.le_refl _)]; simp
  have new2 : (zs ++ [(x, y)]).getD zs.length (0, 0) = (x, y) := by
    rw [List.getD_eq_getElem?_getD, List.getElem?_append_right (Nat.le_refl _)]; simp
  refine ⟨by simp [hl], fun k hk => ?_, fun k hk => ?_, fun k => ?_⟩
  · by_cases hc : k < cs.length
    · rw [(old k hc).1, (old k hc).2]; exact h.re k hc
    · have e : k = cs.length := by simp at hk; omega
      subst e
      rw [new1, hl, new2]; exact ha
  · by_cases hc : k < cs.length
    · rw [(old k hc).1, (old k hc).2]; exact h.im k hc
    · have e : k = cs.length := by simp at hk; omega
      subst e
      rw [new1, hl, new2]; exact hb
  · by_cases hc : k < cs.length
    · rw [(old k hc).2]; exact h.bd k
    · by_cases he : k = zs.length
      · subst he; rw [new2]; exact ⟨hx, hy⟩
      · rw [List.getD_eq_getElem?_getD, List.getElem?_eq_none (by simp; omega)]; exact ⟨by decide, by decide⟩
theorem AllC.cons {cs : List (Nat × Nat)} {zs : List (Int × Int)} (h : AllC cs zs) {a b : Nat} {x y : Int} (ha : Wh a x) (hb : Wh b y) (hx : x.natAbs ≤ 32768) (hy : y.natAbs ≤ 32768) : AllC ((a, b) :: cs) ((x, y) :: zs) := by
  refine ⟨by simp [h.len], fun k hk => ?_, fun k hk => ?_, fun k => ?_⟩
  · cases k with
    | zero => exact ha
    | succ k => exact h.re k (by simp at hk; omega)
  · cases k with
    | zero => exact hb
    | succ k => exact h.im k (by simp at hk; omega)
  · cases k with
    | zero => exact ⟨hx, hy⟩
    | succ k => exact h.bd k
theorem own_lt {w : World} {B e sz n : Nat} {v : Value} {xs : List Value} (h : w.ownsRow B e sz v n xs) : ∀ k, v.ownBlock = some k → k < w.heap.size := fun k hk => by
  rcases h.2 with ⟨rfl, _⟩ | ⟨g, cap, cur, rfl, _, hg, _⟩
  · cases hk
  · cases hk
    exact (Array.getElem?_eq_some_iff.1 hg).1
/-- Three rows that grow beside one another, none in another's block. -/
structure TR (w wr : World) (lv tv bv : Value) (cs ts bs : List (Nat × Nat)) : Prop where
  ol : wr.ownsRow w.heap.size 28 1 lv cs.length (cs.map cpx)
  ot : wr.ownsRow w.heap.size 28 1 tv ts.length (ts.map cpx)
  ob : wr.ownsRow w.heap.size 28 1 bv bs.length (bs.map cpx)
  lt : ∀ k, lv.ownBlock = some k → tv.ownBlock ≠ some k
  lb : ∀ k, lv.ownBlock = some k → bv.ownBlock ≠ some k
  tb : ∀ k, tv.ownBlock = some k → bv.ownBlock ≠ some k
  bel : Below w.heap.size w wr
theorem TR.start (w wr : World) (h : Below w.heap.size w wr) : TR w wr (.slice none 0 0) (.slice none 0 0) (.slice none 0 0) [] [] [] :=
  ⟨World.ownsRow_nil _ _ _ _, World.ownsRow_nil _ _ _ _, World.ownsRow_nil _ _ _ _, fun k hk => (by cases hk), fun k hk => (by cases hk), fun k hk => (by cases hk), h⟩
theorem TR.down {w wr w2 : World} {lv tv bv : Value} {cs ts bs : List (Nat × Nat)} (h : TR w wr lv tv bv cs ts bs) (hb : Below wr.heap.size wr w2) : TR w w2 lv tv bv cs ts bs :=
  ⟨own_below h.ol hb (Nat.le_refl _), own_below h.ot hb (Nat.le_refl _), own_below h.ob hb (Nat.le_refl _), h.lt, h.lb, h.tb, h.bel.trans (hb.mono h.bel.size)⟩
theorem TR.l {w wr w2 : World} {lv tv bv v' : Value} {cs ts bs cs' : List (Nat × Nat)} (h : TR w wr lv tv bv cs ts bs) (ho : w2.ownsRow w.heap.size 28 1 v' cs'.length (cs'.map cpx)) (hg : wr.grownBy w2 lv.ownBlock) (hat : v'.ownBlock = lv.ownBlock ∨ v'.ownBlock = some wr.heap.size) : TR w w2 v' tv bv cs' ts bs := by
  have far : ∀ {u : Value} {xs : List (Nat × Nat)}, wr.ownsRow w.heap.size 28 1 u xs.length (xs.map cpx) → (∀ k, lv.ownBlock = some k → u.ownBlock ≠ some k) → ∀ k, v'.ownBlock = some k → u.ownBlock ≠ some k := fun hu hd k hk hc => by
    rcases hat with e | e
    · exact hd k (e ▸ hk) hc
    · rw [hk] at e; cases e
      have := own_lt hu _ hc
      omega
  refine ⟨ho, own_other h.ot (fun k hk => hg.block k (own_lt h.ot k hk) (fun e => h.lt k e.symm hk)), own_other h.ob (fun k hk => hg.block k (own_lt h.ob k hk) (fun e => h.lb k e.symm hk)), far h.ot h.lt, far h.ob h.lb, h.tb, h.bel.grown hg h.bel.size (fun k e => own_at h.ol k e)⟩
theorem TR.b {w wr w2 : World} {lv tv bv v' : Value} {cs ts bs bs' : List (Nat × Nat)} (h : TR w wr lv tv bv cs ts bs) (ho : w2.ownsRow w.heap.size 28 1 v' bs'.length (bs'.map cpx)) (hg : wr.grownBy w2 bv.ownBlock) (hat : v'.ownBlock = bv.ownBlock ∨ v'.ownBlock = some wr.heap.size) : TR w w2 lv tv v' cs ts bs' := by
  have far : ∀ {u : Value} {xs : List (Nat × Nat)}, wr.ownsRow w.heap.size 28 1 u xs.length (xs.map cpx) → (∀ k, u.ownBlock = some k → bv.ownBlock ≠ some k) → ∀ k, u.ownBlock = some k → v'.ownBlock ≠ some k := fun hu hd k hk hc => by
    rcases hat with e | e
    · exact hd k hk (e ▸ hc)
    · rw [hc] at e; cases e
      have := own_lt hu _ hk
      omega
  refine ⟨own_other h.ol (fun k hk => hg.block k (own_lt h.ol k hk) (fun e => h.lb k hk e.symm)), own_other h.ot (fun k hk => hg.block k (own_lt h.ot k hk) (fun e => h.tb k hk e.symm)), ho, h.lt, far h.ol h.lb, far h.ot h.tb, h.bel.grown hg h.bel.size (fun k e => own_at h.ob k e)⟩
theorem TR.t {w wr wa w2 : World} {lv tv bv v' nv : Value} {cs ts bs ts' : List (Nat × Nat)} (h : TR w wr lv tv bv cs ts bs) (ha : Below wr.heap.size wr wa) (ho : w2.ownsRow wr.heap.size 28 1 v' ts'.length (ts'.map cpx)) (hg : wa.grownBy w2 nv.ownBlock) (hn : ∀ k, nv.ownBlock = some k → wr.heap.size ≤ k) : TR w w2 lv v' bv cs ts' bs := by
  have h2 := h.down ha
  have old : ∀ k, k < wr.heap.size → nv.ownBlock ≠ some k := fun k hk e => by have := hn k e; omega
  refine ⟨own_other h2.ol (fun k hk => hg.block k (own_lt h2.ol k hk) (Ne.symm (old k (own_lt h.ol k hk)))), own_mono ho h.bel.size, own_other h2.ob (fun k hk => hg.block k (own_lt h2.ob k hk) (Ne.symm (old k (own_lt h.ob k hk)))), fun k hk e => ?_, h.lb, fun k hk e => ?_, h2.bel.grown hg h2.bel.size (fun k e => Nat.le_trans h.bel.size (hn k e))⟩
  · have := own_at ho k e
    have := own_lt h.ol k hk
    omega
  · have := own_at ho k hk
    have := own_lt h.ob k e
    omega
theorem cpx_one (l : List (Nat × Nat)) : ∀ u ∈ l.map cpx, u.oneCell' = true := fun u hu => by
  obtain ⟨c, _, rfl⟩ := List.mem_map.1 hu
  rfl
theorem own_lit (w : World) (c : Nat × Nat) : (w.alloc (.cells #[cpx c] 28)).ownsRow w.heap.size 28 1 (.slice (some ⟨w.heap.size, 0, none⟩) 1 1) 1 ([c].map cpx) :=
  ⟨rfl, .inr ⟨w.heap.size, 1, #[cpx c], rfl, Nat.le_refl _, heap_alloc_new w _, Nat.le_refl _, by decide, rfl, rfl⟩⟩
end Go.Proofs.Ytechhnifiahfpaa
