/- Contract: a line of the kind bus, in the document's answer. -/
import Derived.Test.YtjmadnpcadidhaaDoorA3
import Derived.OrdersHeld
namespace Go.Proofs.YtjmadnpcadidhaaDoor
open Go.RowKit

/-- What stands when a line's reading begins: the network's box at N, the answer's box at N + 1, the words. -/
structure RL (w W0 : World) (nm : ByteArray) (b l g d t : Value) : Prop where
  size : W0.heap.size = w.heap.size + 2
  below : Below w.heap.size w W0
  c0 : W0.cell? ⟨w.heap.size, 0, none⟩ = some (.string nm)
  c1 : W0.cell? ⟨w.heap.size, 1, none⟩ = some b
  c2 : W0.cell? ⟨w.heap.size, 2, none⟩ = some l
  c3 : W0.cell? ⟨w.heap.size, 3, none⟩ = some g
  c4 : W0.cell? ⟨w.heap.size, 4, none⟩ = some d
  c5 : W0.cell? ⟨w.heap.size, 5, none⟩ = some t
  f : ∀ j, W0.frozen? ⟨w.heap.size, j, none⟩ = false
  box : IsBox W0 w.heap.size
  box' : IsBox W0 (w.heap.size + 1)
  r : ∀ j, j < 6 → ∃ u, W0.cell? ⟨w.heap.size + 1, j, none⟩ = some u
  f' : ∀ j, W0.frozen? ⟨w.heap.size + 1, j, none⟩ = false
theorem RL.mk' (w : World) (nm : ByteArray) (b l g d t : Value) (W0 : World) (h : (w.alloc (Obj.cells #[Value.string nm, b, l, g, d, t] 28)).alloc (Obj.cells #[Value.string { data := #[] }, Value.slice none 0 0, Value.slice none 0 0, Value.slice none 0 0, Value.slice none 0 0, Value.slice none 0 0] 28) = W0) : RL w W0 nm b l g d t := by
  subst h
  have e : (w.alloc (Obj.cells #[Value.string nm, b, l, g, d, t] 28)).heap.size = w.heap.size + 1 := by simp
  refine ⟨by simp, ((Below.refl _ w).alloc (Nat.le_refl _) _).alloc (by simp) _, by simp, by simp, by simp, by simp, by simp, by simp, fun j => by simp, (IsBox.new w _).alloc _, ?_, fun j hj => ?_, fun j => ?_⟩
  · have := IsBox.new (w.alloc (Obj.cells #[Value.string nm, b, l, g, d, t] 28)) #[Value.string { data := #[] }, Value.slice none 0 0, Value.slice none 0 0, Value.slice none 0 0, Value.slice none 0 0, Value.slice none 0 0]
    rwa [e] at this
  · match j, hj with
    | 0, _ => exact ⟨_, by simp; rfl⟩
    | 1, _ => exact ⟨_, by simp; rfl⟩
    | 2, _ => exact ⟨_, by simp; rfl⟩
    | 3, _ => exact ⟨_, by simp; rfl⟩
    | 4, _ => exact ⟨_, by simp; rfl⟩
    | 5, _ => exact ⟨_, by simp; rfl⟩
  · simp

/-- A network's box at k: its six cells; none is frozen. -/
structure Box6 (W : World) (k : Nat) (c0 c1 c2 c3 c4 c5 : Value) : Prop where
  h0 : W.cell? ⟨k, 0, none⟩ = some c0
  h1 : W.cell? ⟨k, 1, none⟩ = some c1
  h2 : W.cell? ⟨k, 2, none⟩ = some c2
  h3 : W.cell? ⟨k, 3, none⟩ = some c3
  h4 : W.cell? ⟨k, 4, none⟩ = some c4
  h5 : W.cell? ⟨k, 5, none⟩ = some c5
  f : ∀ j, W.frozen? ⟨k, j, none⟩ = false
  box : IsBox W k
theorem RL.box6 {w W0 : World} {nm : ByteArray} {b l g d t : Value} (h : RL w W0 nm b l g d t) : Box6 W0 w.heap.size (.string nm) b l g d t := ⟨h.c0, h.c1, h.c2, h.c3, h.c4, h.c5, h.f, h.box⟩
theorem RL.res6 {w W0 : World} {nm : ByteArray} {b l g d t : Value} (h : RL w W0 nm b l g d t) : ∃ u0 u1 u2 u3 u4 u5, Box6 W0 (w.heap.size + 1) u0 u1 u2 u3 u4 u5 := by
  obtain ⟨u0, h0⟩ := h.r 0 (by omega)
  obtain ⟨u1, h1⟩ := h.r 1 (by omega)
  obtain ⟨u2, h2⟩ := h.r 2 (by omega)
  obtain ⟨u3, h3⟩ := h.r 3 (by omega)
  obtain ⟨u4, h4⟩ := h.r 4 (by omega)
  obtain ⟨u5, h5⟩ := h.r 5 (by omega)
  exact ⟨u0, u1, u2, u3, u4, u5, h0, h1, h2, h3, h4, h5, h.f', h.box'⟩
theorem Box6.of_block {W W' : World} {k : Nat} {c0 c1 c2 c3 c4 c5 : Value} (h : Box6 W k c0 c1 c2 c3 c4 c5) (e : W'.heap[k]? = W.heap[k]?) : Box6 W' k c0 c1 c2 c3 c4 c5 := by
  have hc : ∀ j, W'.cell? ⟨k, j, none⟩ = W.cell? ⟨k, j, none⟩ := fun j => World.cell?_of_block (a := ⟨k, j, none⟩) e
  have hf : ∀ j, W'.frozen? ⟨k, j, none⟩ = W.frozen? ⟨k, j, none⟩ := fun j => World.frozen?_of_block (a := ⟨k, j, none⟩) e
  obtain ⟨cur, hb⟩ := h.box
  exact ⟨(hc 0).trans h.h0, (hc 1).trans h.h1, (hc 2).trans h.h2, (hc 3).trans h.h3, (hc 4).trans h.h4, (hc 5).trans h.h5, fun j => (hf j).trans (h.f j), cur, e.trans hb⟩
theorem Box6.lt {W : World} {k : Nat} {c0 c1 c2 c3 c4 c5 : Value} (h : Box6 W k c0 c1 c2 c3 c4 c5) : k < W.heap.size := by
  obtain ⟨cur, hb⟩ := h.box
  exact (Array.getElem?_eq_some_iff.1 hb).1
theorem Box6.below {W W' : World} {B k : Nat} {c0 c1 c2 c3 c4 c5 : Value} (h : Box6 W k c0 c1 c2 c3 c4 c5) (hB : Below B W W') (hk : k < B) : Box6 W' k c0 c1 c2 c3 c4 c5 := h.of_block (hB.block k hk)
theorem Box6.grow {W W' : World} {o : Obj} {B e sz m k : Nat} {v : Value} {xs : List Value} {c0 c1 c2 c3 c4 c5 : Value} (h : Box6 W k c0 c1 c2 c3 c4 c5) (hg : (W.alloc o).grownBy W' v.ownBlock) (ho : W.ownsRow B e sz v m xs) (he : e ≠ 28) : Box6 W' k c0 c1 c2 c3 c4 c5 :=
  h.of_block ((hg.block k (by rw [World.size_alloc]; have := h.lt; omega) (own_ne_box ho h.box he)).trans (Below.heap_alloc W o k h.lt))
theorem Box6.setOther {W : World} {k : Nat} {c0 c1 c2 c3 c4 c5 : Value} (h : Box6 W k c0 c1 c2 c3 c4 c5) (p : Addr) (hp : k ≠ p.block) (u : Value) : Box6 (W.setCell p u) k c0 c1 c2 c3 c4 c5 := h.of_block (Below.heap_setCell W p u k hp)

theorem out_owns {w1 : World} {B N : Nat} {b l g d t : Value} {n : NetM} (h : Owns w1 B b l g d t n) (hb : IsBox w1 N) (hb' : IsBox w1 (N + 1)) (j : Nat) (u c0 c1 c2 c3 c4 c5 : Value) :
    Owns (((((((w1.setCell ⟨N, j, none⟩ u).setCell ⟨N + 1, 0, none⟩ c0).setCell ⟨N + 1, 1, none⟩ c1).setCell ⟨N + 1, 2, none⟩ c2).setCell ⟨N + 1, 3, none⟩ c3).setCell ⟨N + 1, 4, none⟩ c4).setCell ⟨N + 1, 5, none⟩ c5) B b l g d t n := by
  have h1 := h.setBox (p := ⟨N, j, none⟩) hb u
  have b1 := hb'.setCell ⟨N, j, none⟩ u
  have h2 := h1.setBox (p := ⟨N + 1, 0, none⟩) b1 c0
  have b2 := b1.setCell ⟨N + 1, 0, none⟩ c0
  have h3 := h2.setBox (p := ⟨N + 1, 1, none⟩) b2 c1
  have b3 := b2.setCell ⟨N + 1, 1, none⟩ c1
  have h4 := h3.setBox (p := ⟨N + 1, 2, none⟩) b3 c2
  have b4 := b3.setCell ⟨N + 1, 2, none⟩ c2
  have h5 := h4.setBox (p := ⟨N + 1, 3, none⟩) b4 c3
  have b5 := b4.setCell ⟨N + 1, 3, none⟩ c3
  have h6 := h5.setBox (p := ⟨N + 1, 4, none⟩) b5 c4
  have b6 := b5.setCell ⟨N + 1, 4, none⟩ c4
  exact h6.setBox (p := ⟨N + 1, 5, none⟩) b6 c5
theorem out_below {w w1 : World} {B N : Nat} (h : Below B w w1) (hN : B ≤ N) (j : Nat) (u c0 c1 c2 c3 c4 c5 : Value) :
    Below B w (((((((w1.setCell ⟨N, j, none⟩ u).setCell ⟨N + 1, 0, none⟩ c0).setCell ⟨N + 1, 1, none⟩ c1).setCell ⟨N + 1, 2, none⟩ c2).setCell ⟨N + 1, 3, none⟩ c3).setCell ⟨N + 1, 4, none⟩ c4).setCell ⟨N + 1, 5, none⟩ c5) := by
  have k : B ≤ N + 1 := by omega
  exact ((((((h.setCell (p := ⟨N, j, none⟩) hN u).setCell (p := ⟨N + 1, 0, none⟩) k c0).setCell (p := ⟨N + 1, 1, none⟩) k c1).setCell (p := ⟨N + 1, 2, none⟩) k c2).setCell (p := ⟨N + 1, 3, none⟩) k c3).setCell (p := ⟨N + 1, 4, none⟩) k c4).setCell (p := ⟨N + 1, 5, none⟩) k c5
/-- From the line's beginning to behind an append to one of the lists: nothing below B has turned. -/
theorem rl_below {w W0 wx w1 : World} {nm : ByteArray} {b l g d t v : Value} {B e sz m : Nat} {o : Obj} {xs : List Value} (h : RL w W0 nm b l g d t) (hB : B ≤ w.heap.size) (hx : Below (w.heap.size + 2) W0 wx) (hg : (wx.alloc o).grownBy w1 v.ownBlock) (ho : wx.ownsRow B e sz v m xs) : Below B w w1 := by
  have h1 : Below B w wx := (h.below.mono hB).trans (hx.mono (by omega))
  exact below_app h1 ho (Nat.le_refl _) (by have := h1.size; omega) hg

theorem err_below {w wx : World} {B N : Nat} (h : Below B w wx) (hN : B ≤ N) (c0 c1 c2 c3 c4 c5 : Value) :
    Below B w ((((((wx.setCell ⟨N + 1, 0, none⟩ c0).setCell ⟨N + 1, 1, none⟩ c1).setCell ⟨N + 1, 2, none⟩ c2).setCell ⟨N + 1, 3, none⟩ c3).setCell ⟨N + 1, 4, none⟩ c4).setCell ⟨N + 1, 5, none⟩ c5) := by
  have k : B ≤ N + 1 := by omega
  exact (((((h.setCell (p := ⟨N + 1, 0, none⟩) k c0).setCell (p := ⟨N + 1, 1, none⟩) k c1).setCell (p := ⟨N + 1, 2, none⟩) k c2).setCell (p := ⟨N + 1, 3, none⟩) k c3).setCell (p := ⟨N + 1, 4, none⟩) k c4).setCell (p := ⟨N + 1, 5, none⟩) k c5
theorem rl_below0 {w W0 wx : World} {nm : ByteArray} {b l g d t : Value} {B : Nat} (h : RL w W0 nm b l g d t) (hB : B ≤ w.heap.size) (hx : Below (w.heap.size + 2) W0 wx) : Below B w wx := (h.below.mono hB).trans (hx.mono (by omega))

theorem rowAt_one {W : World} {b off cap : Nat} {u0 : Value} (h0 : W.cell? ⟨b, off, none⟩ = some u0) : RowAt W (.slice (some ⟨b, off, none⟩) 1 cap) 1 1 [u0] :=
  ⟨rfl, _, _, rfl, fun j u hj => ⟨b, off, rfl, by
    match j, hj with
    | 0, hj => simp at hj; subst hj; exact h0⟩⟩
theorem rowAt_two {W : World} {b off cap : Nat} {u0 u1 : Value} (h0 : W.cell? ⟨b, off, none⟩ = some u0) (h1 : W.cell? ⟨b, off + 1, none⟩ = some u1) : RowAt W (.slice (some ⟨b, off, none⟩) 2 cap) 2 1 [u0, u1] :=
  ⟨rfl, _, _, rfl, fun j u hj => ⟨b, off, rfl, by
    match j, hj with
    | 0, hj => simp at hj; subst hj; exact h0
    | 1, hj => simp at hj; subst hj; exact h1⟩⟩
theorem cell_news (w : World) (vs : List Value) (e : TypeId) : ∀ j u, vs[j]? = some u → (w.alloc (.cells vs.toArray e)).cell? ((⟨w.heap.size, 0, none⟩ : Addr).add j) = some u := by
  intro j u hj
  rw [add_zero_off]
  have : (w.alloc (.cells vs.toArray e)).heap[w.heap.size]? = some (.cells vs.toArray e) := heap_alloc_new w _
  unfold World.cell?
  rw [this]
  simpa using hj
theorem own_cells {W : World} {B e n : Nat} {u : Value} {xs : List Value} (h : W.ownsRow B e 1 u n xs) (hn : 0 < n) : ∃ g cap, u = .slice (some ⟨g, 0, none⟩) n cap ∧ B ≤ g ∧ (∀ j v, xs[j]? = some v → W.cell? ⟨g, 0 + j, none⟩ = some v) ∧ n ≤ cap ∧ cap ≤ maxLen := by
  rcases h.2 with ⟨rfl, rfl⟩ | ⟨g, cap, cur, rfl, hB, hg, hnc, hcm, _⟩
  · omega
  · exact ⟨g, cap, rfl, hB, fun j v hj => by have := h.cells rfl j v hj; rwa [add_zero_off] at this, hnc, hcm⟩

/-- A network's value: a text and five slices. -/
def NetV (v : Value) : Prop := ∃ (nm : ByteArray) (a1 a2 a3 a4 a5 : Option Addr) (m1 c1 m2 c2 m3 c3 m4 c4 m5 c5 : Nat), v = .agg #[.string nm, .slice a1 m1 c1, .slice a2 m2 c2, .slice a3 m3 c3, .slice a4 m4 c4, .slice a5 m5 c5]
theorem netV_mk {nm : ByteArray} {a1 a2 a3 a4 a5 : Option Addr} {m1 c1 m2 c2 m3 c3 m4 c4 m5 c5 : Nat} : NetV (.agg #[.string nm, .slice a1 m1 c1, .slice a2 m2 c2, .slice a3 m3 c3, .slice a4 m4 c4, .slice a5 m5 c5]) := ⟨_, _, _, _, _, _, _, _, _, _, _, _, _, _, _, _, rfl⟩
theorem netV_of_owns {w : World} {B : Nat} {b l g d t : Value} {n : NetM} {nm : ByteArray} (h : Owns w B b l g d t n) : NetV (.agg #[.string nm, b, l, g, d, t]) := by
  obtain ⟨_, _, rfl⟩ := own_slice h.hb
  obtain ⟨_, _, rfl⟩ := own_slice h.hl
  obtain ⟨_, _, rfl⟩ := own_slice h.hg
  obtain ⟨_, _, rfl⟩ := own_slice h.hd
  obtain ⟨_, _, rfl⟩ := own_slice h.ht
  exact netV_mk
end Go.Proofs.YtjmadnpcadidhaaDoor
/- Laws of a region that leaves its order open and whose last operation writes a cell that the others read: the reads may be taken first, since the last operation waits for them. -/
namespace Go.Proofs.YtjmadnpcadidhaaDoor
open Go.RowKit

section
variable {P : Program} {ops : Array Oper} {Q : Exit → Act → World → Prop} {md : Region.Mode} {S : World → Prop} {tl : Nat}

/-- Whatever order is picked from here on, and S holds behind every operation but number tl. -/
def wpAnyT (P : Program) (md : Region.Mode) (ops : Array Oper) (Q : Exit → Act → World → Prop) (S : World → Prop) (tl : Nat) : Nat → Array Bool → Act → World → Prop
  | 0, listed, a, w => Region.ready md ops listed = [] ∧ Q .normal a w
  | fuel + 1, listed, a, w =>
    (Region.ready md ops listed = [] → Q .normal a w) ∧
    ∀ i ∈ Region.ready md ops listed, wpOp P ops Q i (fun a' w' => (i ≠ tl → S w') ∧ wpAnyT P md ops Q S tl fuel (listed.setIfInBounds i true) a' w') a w

theorem wpAny_of_tail : ∀ (fuel : Nat) (listed : Array Bool) (a : Act) (w : World), wpAnyT P md ops Q S tl fuel listed a w → wpAny P md ops Q fuel listed a w
  | 0, _, _, _, h => h
  | fuel + 1, _, _, _, h => ⟨h.1, fun i hi => wpOp_mono (fun a' w' h' => wpAny_of_tail fuel _ a' w' h'.2) (h.2 i hi)⟩

theorem wpAnyT_first {i : Nat} {oi : Oper} {v : Value} (hi : ops[i]? = some oi) (hsel : ∀ (j : Nat) (o : Oper) cs b, ops[j]? = some o → o.op ≠ .select cs b)
    (hQ : ∀ c a w, Q (.panic c) (a.put oi.dst v) w → Q (.panic c) a w) (hit : i ≠ tl) (hwait : ∀ ot, ops[tl]? = some ot → ∃ e ∈ ot.after, Region.binds md e = true ∧ e.on = i) :
    ∀ (fuel : Nat) (listed : Array Bool) (a : Act) (w : World),
      (∀ j oj, ops[j]? = some oj → j ≠ i → listed.getD j true = false → (∀ e ∈ oj.after, Region.binds md e = true → e.on ≠ i) → oi.apart ops oj = true) →
      i ∈ Region.ready md ops listed → YieldsIf P ops S oi v a → S w →
      wpAnyT P md ops Q S tl fuel (listed.setIfInBounds i true) (a.put oi.dst v) w → wpAnyT P md ops Q S tl (fuel + 1) listed a w := by
  intro fuel
  induction fuel with
  | zero =>
    intro listed a w _ hr hy hS H
    refine ⟨fun h => (by rw [h] at hr; cases hr), fun j hj => ?_⟩
    by_cases hji : j = i
    · subst hji; exact hy.wpOp hi hS ⟨fun _ => hS, H⟩
    · have := ready_mono hj hji
      rw [H.1] at this
      cases this
  | succ fuel ih =>
    intro listed a w hfree hr hy hS H
    refine ⟨fun h => (by rw [h] at hr; cases hr), fun j hj => ?_⟩
    by_cases hji : j = i
    · subst hji; exact hy.wpOp hi hS ⟨fun _ => hS, H⟩
    · have h1 := H.2 j (ready_mono hj hji)
      obtain ⟨hjun, oj, hoj, hall⟩ := mem_ready.1 hj
      have hnot : ∀ e ∈ oj.after, Region.binds md e = true → e.on ≠ i := fun e he hb heq => by
        have h1 := hall e he hb
        have h0 := (mem_ready.1 hr).1
        rw [heq] at h1
        rcases Nat.lt_or_ge i listed.size with h' | h'
        · simp [h'] at h0 h1; rw [h0] at h1; cases h1
        · simp [Array.getElem?_eq_none h'] at h1
      have hjt : j ≠ tl := by
        intro e1; subst e1
        obtain ⟨e, he, hb, hon⟩ := hwait oj hoj
        exact hnot e he hb hon
      have h2 := wpOp_putIf hoj (hfree j oj hoj hji hjun hnot) (fun cs b => hsel i oi cs b hi) (fun cs b => hsel j oj cs b hoj) hQ hy h1
      have hfree' : ∀ k ok, ops[k]? = some ok → k ≠ i → (listed.setIfInBounds j true).getD k true = false →
          (∀ e ∈ ok.after, Region.binds md e = true → e.on ≠ i) → oi.apart ops ok = true := fun k ok hk hki hun hno => by
        refine hfree k ok hk hki ?_ hno
        by_cases hjk : j = k
        · subst hjk; exact hjun
        · rw [getD_set_ne true hjk] at hun; exact hun
      refine wpOp_mono (fun a' w' h3 => ⟨h3.2.1, ih (listed.setIfInBounds j true) a' w' hfree' (ready_mono hr (Ne.symm hji)) h3.1 (h3.2.1 hjt) ?_⟩) h2
      rw [Array.setIfInBounds_comm _ _ hji]
      exact h3.2.2

/-- Does number tl wait for number i? -/
def waits (md : Region.Mode) (ops : Array Oper) (tl i : Nat) : Bool :=
  match ops[tl]? with
  | some ot => ot.after.any (fun e => Region.binds md e && e.on == i)
  | none => false
theorem waits_spec {i : Nat} (h : waits md ops tl i = true) : ∀ ot, ops[tl]? = some ot → ∃ e ∈ ot.after, Region.binds md e = true ∧ e.on = i := by
  intro ot ho
  simp only [waits, ho] at h
  obtain ⟨e, he, hb⟩ := Array.any_eq_true'.1 h
  simp only [Bool.and_eq_true, beq_iff_eq] at hb
  exact ⟨e, he, hb⟩

/-- Take number i first. -/
theorem wpAnyT_take {i : Nat} {oi : Oper} {v : Value} {fuel : Nat} {listed listed' : Array Bool} {a a' : Act} {w : World} (hi : ops[i]? = some oi)
    (hs : Region.noSelect ops = true) (hf : Region.free md ops listed i = true) (hr : (Region.ready md ops listed).contains i = true) (hit : (i == tl) = false) (hwt : waits md ops tl i = true)
    (hQ : ∀ c a w, Q (.panic c) (a.put oi.dst v) w → Q (.panic c) a w) (hy : YieldsIf P ops S oi v a) (hS : S w) (hl : listed.setIfInBounds i true = listed') (ha : a.put oi.dst v = a')
    (h : wpAnyT P md ops Q S tl fuel listed' a' w) : wpAnyT P md ops Q S tl (fuel + 1) listed a w := by
  subst hl; subst ha
  exact wpAnyT_first hi (Region.noSelect_spec hs) hQ (by simpa using hit) (waits_spec hwt) fuel listed a w (Region.free_spec hi hf) (by simpa using hr) hy hS h

/-- Take number i first; where it leaves its value is told. -/
theorem wpAnyT_takeAt (i : Nat) (d : Option Tmp) {v : Value} {fuel : Nat} {listed : Array Bool} {a : Act} {w : World} (hd : (ops[i]?).map Oper.dst = some d)
    (hs : Region.noSelect ops = true) (hf : Region.free md ops listed i = true) (hr : (Region.ready md ops listed).contains i = true) (hit : (i == tl) = false) (hwt : waits md ops tl i = true)
    (hQ : ∀ c a w, Q (.panic c) (a.put d v) w → Q (.panic c) a w) (hS : S w) (hy : ∀ o, ops[i]? = some o → Region.wanted o (yielded ops a.tmps) = true ∧ ∀ w, S w → (execOp a.eval o).run P w = .ok (.value v) w)
    (h : wpAnyT P md ops Q S tl fuel (listed.setIfInBounds i true) (a.put d v) w) : wpAnyT P md ops Q S tl (fuel + 1) listed a w := by
  cases ho : ops[i]? with
  | none => rw [ho] at hd; cases hd
  | some oi =>
    rw [ho] at hd
    have e : oi.dst = d := by simpa using hd
    subst e
    exact wpAnyT_take ho hs hf hr hit hwt hQ (Or.inl (hy oi ho)) hS rfl rfl h

/-- One alone may come up. -/
theorem wpAnyT_one {i : Nat} {o : Oper} {fuel : Nat} {listed listed' : Array Bool} {a : Act} {w : World} (hr : Region.ready md ops listed = [i]) (ho : ops[i]? = some o) (hl : listed.setIfInBounds i true = listed')
    (h : ∀ K' : Act → World → Prop, Hid (∀ a w, (i ≠ tl → S w) → wpAnyT P md ops Q S tl fuel listed' a w → K' a w) → if Region.wanted o (yielded ops a.tmps) = true then Oper.wp P o a w K' Q else K' (a.put o.dst undef) w) :
    wpAnyT P md ops Q S tl (fuel + 1) listed a w := by
  subst hl
  refine ⟨fun h0 => (by rw [hr] at h0; cases h0), ?_⟩
  rw [hr]
  intro j hj
  simp at hj
  subst hj
  exact wpOp_step ho (fun K' hK => h K' (fun a w hS hW => hK a w ⟨hS, hW⟩))

theorem wpAnyT_done {listed : Array Bool} {a : Act} {w : World} (hr : Region.ready md ops listed = []) (h : Q .normal a w) : ∀ fuel, wpAnyT P md ops Q S tl fuel listed a w
  | 0 => ⟨hr, h⟩
  | _ + 1 => ⟨fun _ => h, by rw [hr]; simp⟩

theorem wp_region_tail {id : Nat} {a : Act} {w : World} (S : World → Prop) (tl : Nat) (hm : P.follows .mixedOrders = true)
    (h : wpAnyT P .any ops Q S tl ops.size (Array.replicate ops.size false) a w.drew) : (Code.region id ops true).wp P Q a w :=
  wp_region_any hm (wpAny_of_tail _ _ _ _ h)
end
end Go.Proofs.YtjmadnpcadidhaaDoor
/- Contract: a line of the kind bus, in the document's answer. -/
namespace Go.Proofs.YtjmadnpcadidhaaDoor
open Go.RowKit

theorem later {W : World} {p : Addr} {v : Value} (h : W.cell? p = some v) : ∀ o, (W.alloc o).cell? p = some v := fun o => (World.cell?_of_block (w := W) (Below.heap_alloc W o _ (World.block_lt_of_cell? W p h))).trans h
theorem laterF {W : World} {p : Addr} {v : Value} (hc : W.cell? p = some v) (h : W.frozen? p = false) : ∀ o, (W.alloc o).frozen? p = false := fun o => (World.frozen?_of_block (w := W) (Below.heap_alloc W o _ (World.block_lt_of_cell? W p hc))).trans h
theorem grownC {W W' : World} {row : Option Nat} {p : Addr} {v : Value} (hg : W.grownBy W' row) (h : W.cell? p = some v) (hne : some p.block ≠ row) : W'.cell? p = some v := hg.cell h hne
theorem grownF {W W' : World} {row : Option Nat} {p : Addr} {v : Value} (hg : W.grownBy W' row) (hc : W.cell? p = some v) (h : W.frozen? p = false) (hne : some p.block ≠ row) : W'.frozen? p = false :=
  (World.frozen?_of_block (hg.block p.block (World.block_lt_of_cell? W p hc) hne)).trans h

theorem undrew {W W' : World} {row : Option Nat} (h : W.drew.grownBy W' row) : W.grownBy W' row := ⟨h.os, h.tape, h.output, h.size, h.block⟩

theorem nine : (9 : TypeId) ≠ 28 := by decide
theorem app_box {wx w1 : World} {o : Obj} {B e sz m k j : Nat} {v u : Value} {xs : List Value} (hg : (wx.alloc o).grownBy w1 v.ownBlock) (ho : wx.ownsRow B e sz v m xs) (hb : IsBox wx k) (he : e ≠ 28)
    (hc : wx.cell? ⟨k, j, none⟩ = some u) (hf : wx.frozen? ⟨k, j, none⟩ = false) : w1.cell? ⟨k, j, none⟩ = some u ∧ w1.frozen? ⟨k, j, none⟩ = false := by
  have hne : some k ≠ v.ownBlock := own_ne_box ho hb he
  exact ⟨grownC hg (later hc o) hne, grownF hg (later hc o) (laterF hc hf o) hne⟩

set_option maxRecDepth 100000 in
set_option maxHeartbeats 4000000 in
theorem readLine_bus (b l g d t : Value) (bw ow cw : Nat) (n : NetM) (x : ByteArray) (B : Nat) (w : World) (ho : Owns w B b l g d t n) (hf : Fits n)
    (hc0 : w.cell? ⟨bw, ow, none⟩ = some (.string kBus)) (hc1 : w.cell? ⟨bw, ow + 1, none⟩ = some (.string x)) (hbw : some bw ≠ b.ownBlock) (hB : B ≤ w.heap.size) (hx : x.size ≤ 20000) :
    Calls Tryd.prog 12 #[.agg #[.string n.name, b, l, g, d, t], .slice (some ⟨bw, ow, none⟩) 2 cw] w fun e w' => ∃ b' : Value, e = .returned (.tuple #[.agg #[.string n.name, b', l, g, d, t], .int .i64 (newNameE n x n.buses.length 16)]) ∧
      Owns w' B b' l g d t { n with buses := n.buses ++ [x] } ∧ Below B w w' := by
  obtain ⟨ab, cb, rfl⟩ := own_slice ho.hb
  obtain ⟨al, cl, rfl⟩ := own_slice ho.hl
  obtain ⟨ag, cg, rfl⟩ := own_slice ho.hg
  obtain ⟨ad, cd, rfl⟩ := own_slice ho.hd
  obtain ⟨at', ct, rfl⟩ := own_slice ho.ht
  obtain ⟨i0, hi, hz0, hz1, hz2⟩ := info_parts Tryd.info9
  have hbl : bw < w.heap.size := World.block_lt_of_cell? w _ hc1
  have HO := hide' ho
  have q0 : ∀ o1 o2, ((w.alloc o1).alloc o2).cell? ⟨bw, ow, none⟩ = some (.string kBus) := fun o1 o2 => ((((Below.refl _ w).alloc (Nat.le_refl _) o1).alloc (by simp) o2).cell (p := ⟨bw, ow, none⟩) hbl).trans hc0
  clear ho hc0
  have b0 : (kBus.toList == [110, 101, 116]) = false := by rw [lit_beq]; decide
  have b1 : (kBus.toList == [98, 117, 115]) = true := by rw [lit_beq]; decide
  go_enter Tryd.func12, Tryd.ntmps12
  go_wp2_with fail
  obtain ⟨W0, hW0⟩ : ∃ W0, (w.alloc (Obj.cells #[Value.string n.name, .slice ab n.buses.length cb, .slice al n.lines.length cl, .slice ag n.gens.length cg, .slice ad n.loads.length cd, .slice at' n.ties.length ct] 28)).alloc (Obj.cells #[Value.string { data := #[] }, Value.slice none 0 0, Value.slice none 0 0, Value.slice none 0 0, Value.slice none 0 0, Value.slice none 0 0] 28) = W0 := ⟨_, rfl⟩
  rw [hW0]
  have hR := hide' (RL.mk' w _ _ _ _ _ _ W0 hW0)
  have csOf : ∀ W, Below (w.heap.size + 2) W0 W → W.cell? ⟨w.heap.size, 0, none⟩ = some (.string n.name) ∧ W.cell? ⟨w.heap.size, 1, none⟩ = some (.slice ab n.buses.length cb) ∧ W.cell? ⟨w.heap.size, 2, none⟩ = some (.slice al n.lines.length cl) ∧ W.cell? ⟨w.heap.size, 3, none⟩ = some (.slice ag n.gens.length cg) ∧ W.cell? ⟨w.heap.size, 4, none⟩ = some (.slice ad n.loads.length cd) ∧ W.cell? ⟨w.heap.size, 5, none⟩ = some (.slice at' n.ties.length ct) ∧
      W.cell? ⟨bw, ow + 1, none⟩ = some (.string x) ∧ Below (w.heap.size + 2) W0 W := fun W hW =>
    ⟨(hW.cell (p := ⟨w.heap.size, 0, none⟩) (by simp)).trans hR.out.c0, (hW.cell (p := ⟨w.heap.size, 1, none⟩) (by simp)).trans hR.out.c1, (hW.cell (p := ⟨w.heap.size, 2, none⟩) (by simp)).trans hR.out.c2, (hW.cell (p := ⟨w.heap.size, 3, none⟩) (by simp)).trans hR.out.c3,
     (hW.cell (p := ⟨w.heap.size, 4, none⟩) (by simp)).trans hR.out.c4, (hW.cell (p := ⟨w.heap.size, 5, none⟩) (by simp)).trans hR.out.c5, (hW.cell (p := ⟨bw, ow + 1, none⟩) (by show bw < _; omega)).trans ((hR.out.below.cell (p := ⟨bw, ow + 1, none⟩) hbl).trans hc1), hW⟩
  have CS := hide' csOf
  clear csOf hW0 q0 hc1
  have HOW : Hid (∀ W, Below (w.heap.size + 2) W0 W → Owns W B (.slice ab n.buses.length cb) (.slice al n.lines.length cl) (.slice ag n.gens.length cg) (.slice ad n.loads.length cd) (.slice at' n.ties.length ct) n) := fun W hW => (HO.out.below hR.out.below (Nat.le_refl _)).below hW (by rw [hR.out.size]; exact Nat.le_refl _)
  go_region_held3 (fun W => W.cell? ⟨w.heap.size, 0, none⟩ = some (.string n.name) ∧ W.cell? ⟨w.heap.size, 1, none⟩ = some (.slice ab n.buses.length cb) ∧ W.cell? ⟨w.heap.size, 2, none⟩ = some (.slice al n.lines.length cl) ∧ W.cell? ⟨w.heap.size, 3, none⟩ = some (.slice ag n.gens.length cg) ∧ W.cell? ⟨w.heap.size, 4, none⟩ = some (.slice ad n.loads.length cd) ∧ W.cell? ⟨w.heap.size, 5, none⟩ = some (.slice at' n.ties.length ct) ∧
      W.cell? ⟨bw, ow + 1, none⟩ = some (.string x) ∧ Below (w.heap.size + 2) W0 W)
    (first | exact CS.out _ (Below.refl _ _).drew | exact CS.out _ ((Below.refl _ _).drew.trans (hB1.mono (by simp [hR.out.size]))))
    (first | (go_at_call 19; refine (newName_any _ n x _ _ _ ?_ hf hx).mono ?_; exact (HOW.out _ (Below.refl _ _).drew).at; rintro e wx ⟨rfl, hB1⟩))
  have hBx := hide' ((Below.refl (w.heap.size + 2) W0).drew.trans (hB1.mono (by simp [hR.out.size])))
  obtain ⟨-, k1, -, -, -, -, kw, -⟩ := CS.out wx hBx.out
  have how := hide' (HOW.out wx hBx.out)
  have fx1 : wx.frozen? ⟨w.heap.size, 1, none⟩ = false := (hBx.out.frozen (p := ⟨w.heap.size, 1, none⟩) (by simp)).trans (hR.out.f 1)
  have a1 := later k1
  have boxx : IsBox wx w.heap.size := hR.out.box.below hBx.out (by omega)
  have BX := hide' boxx
  have hszx : w.heap.size + 2 ≤ wx.heap.size := by have := hBx.out.size; rw [hR.out.size] at this; exact this
  have hl16 := hf.1
  clear boxx hB1
  go_wp2_with fail
  have HB1 : Hid (n.buses.length + 1 ≤ maxLen) := by show _ ≤ _; unfold maxLen; omega
  have HB2 : Hid ((n.buses.length + 1) * 16 ≤ 140737488355328) := by show _ ≤ _; omega
  have HB3 : Hid (∀ o, B ≤ (wx.alloc o).drew.heap.size) := fun o => by show B ≤ (wx.alloc o).heap.size; rw [World.size_alloc]; omega
  have HC1 : Hid (∀ j u, [Value.string x][j]? = some u → (wx.alloc (Obj.cells #[Value.string x] 9)).drew.cell? ((⟨wx.heap.size, 0, none⟩ : Addr).add j) = some u) := cell_one_new wx (.string x) 9
  have HA : Hid ((wx.alloc (Obj.cells #[Value.string x] 9)).drew.ownsRow B 9 1 (.slice ab n.buses.length cb) n.buses.length (n.buses.map Value.string)) := how.out.hb.alloc _
  go_region_law (
    refine step_append_own (hg := rfl) (s := .tmp 49) (x := .tmp 53) (t := 22) (hop := rfl) (base := B) (e := 9) (i := i0) (z := .string ⟨#[]⟩) (size := 1) (bytes := 16) (h1 := Tryd.underlying22) (h2 := hi) (h3 := hz0) (h4 := hz1) (h5 := hz2) (h6 := rfl) (h7 := Nat.one_pos) (v := .slice ab n.buses.length cb) (n := n.buses.length) (xs := n.buses.map Value.string) (hs := rfl) (hown := HA.out) (ad := ⟨wx.heap.size, 0, none⟩) (m := 1) (c := 1) (news := [.string x]) (hx := rfl) (hn := rfl) (hc := HC1.out) (h1c := one_cell rfl) (b1 := HB1.out) (b2 := HB2.out) (b3 := HB3.out _) (hK := ?_)
    intro v' w1 hown' hgrow0
    have hgrow := undrew hgrow0
    obtain ⟨a', c', rfl⟩ := own_slice hown'
    obtain ⟨k11, f11⟩ := app_box hgrow how.out.hb BX.out nine k1 fx1)
  all_goals
    have X1 := (hR.out.box6.below hBx.out (by omega)).grow hgrow how.out.hb nine
    obtain ⟨u0, u1, u2, u3, u4, u5, Y0⟩ := hR.out.res6
    have Y1 := (Y0.below hBx.out (by omega)).grow hgrow how.out.hb nine
    have x0 := X1.h0
    have x2 := X1.h2
    have x3 := X1.h3
    have x4 := X1.h4
    have x5 := X1.h5
    have y0 := Y1.h0
    have y1 := Y1.h1
    have y2 := Y1.h2
    have y3 := Y1.h3
    have y4 := Y1.h4
    have y5 := Y1.h5
    have fy := Y1.f
    have XX := hide' X1
    have YY := hide' Y1
    have HG := hide' hgrow
    have HOW1 := hide' hown'
    clear hgrow0 hgrow hown' X1 Y1 Y0 HC1 HA HB1 HB2 HB3 a1 CS HOW kw k1 fx1
    go_wp2
    refine bodyPost_ret (v := .tuple #[.agg #[.string n.name, .slice a' (n.buses.length + 1) c', .slice al n.lines.length cl, .slice ag n.gens.length cg, .slice ad n.loads.length cd, .slice at' n.ties.length ct], .int .i64 (newNameE n x n.buses.length 16)]) (by simp [results, Tryd.results12, go_sem, y0, y1, y2, y3, y4, y5]) rfl ⟨_, rfl, ?_, ?_⟩
    · refine out_owns (n := { n with buses := n.buses ++ [x] }) ⟨?_, own_kept (how.out.hl.alloc _) (how.out.hb.alloc _) (by decide) HG.out, own_kept (how.out.hg.alloc _) (how.out.hb.alloc _) (by decide) HG.out, own_kept (how.out.hd.alloc _) (how.out.hb.alloc _) (by decide) HG.out, own_kept (how.out.ht.alloc _) (how.out.hb.alloc _) (by decide) HG.out⟩ XX.out.box YY.out.box _ _ _ _ _ _ _ _
      have := HOW1.out
      rw [map_snoc] at this
      simpa using this
    · exact out_below (rl_below hR.out hB hBx.out HG.out how.out.hb) hB _ _ _ _ _ _ _ _
end Go.Proofs.YtjmadnpcadidhaaDoor
/- Contract: a line of the kind net, in the document's answer. -/
namespace Go.Proofs.YtjmadnpcadidhaaDoor
open Go.RowKit

def netE (x : ByteArray) : Int := if nameL (bytesOf x) = true then 0 else 5
theorem below_two (w : World) (o1 o2 : Obj) : Below w.heap.size w ((w.alloc o1).alloc o2) := ((Below.refl _ w).alloc (Nat.le_refl _) o1).alloc (by simp) o2
theorem below_alloc2 (w : World) (o1 o2 : Obj) (q : Nat) : Below w.heap.size w (((w.alloc o1).alloc o2).drewN q) := below_drewN (below_two w o1 o2) q

theorem IsBox.drewN {W : World} {k : Nat} (h : IsBox W k) (q : Nat) : IsBox (W.drewN q) k := h
theorem box_one (w : World) (c1 c2 : Array Value) (q : Nat) : IsBox (((w.alloc (.cells c1 28)).alloc (.cells c2 28)).drewN q) w.heap.size := ((IsBox.new w c1).alloc _).drewN q
theorem box_two (w : World) (c1 c2 : Array Value) (q : Nat) : IsBox (((w.alloc (.cells c1 28)).alloc (.cells c2 28)).drewN q) (w.heap.size + 1) := by
  have := IsBox.new (w.alloc (.cells c1 28)) c2
  rw [World.size_alloc] at this
  exact this.drewN q

set_option maxRecDepth 100000 in
set_option maxHeartbeats 1000000 in
theorem readLine_net (b l g d t : Value) (bw ow cw : Nat) (n : NetM) (x : ByteArray) (B : Nat) (w : World) (ho : Owns w B b l g d t n)
    (hc0 : w.cell? ⟨bw, ow, none⟩ = some (.string kNet)) (hc1 : w.cell? ⟨bw, ow + 1, none⟩ = some (.string x)) (hB : B ≤ w.heap.size) (hsx : x.size ≤ 20000) :
    Calls Tryd.prog 12 #[.agg #[.string n.name, b, l, g, d, t], .slice (some ⟨bw, ow, none⟩) 2 cw] w fun e w' => ∃ v' : Value, e = .returned (.tuple #[v', .int .i64 (netE x)]) ∧
      (netE x = 0 → v' = .agg #[.string x, b, l, g, d, t] ∧ Owns w' B b l g d t { n with name := x }) ∧ Below B w w' ∧ NetV v' := by
  obtain ⟨ab, cb, rfl⟩ := own_slice ho.hb
  obtain ⟨al, cl, rfl⟩ := own_slice ho.hl
  obtain ⟨ag, cg, rfl⟩ := own_slice ho.hg
  obtain ⟨ad, cd, rfl⟩ := own_slice ho.hd
  obtain ⟨at', ct, rfl⟩ := own_slice ho.ht
  have hbl : bw < w.heap.size := World.block_lt_of_cell? w _ hc1
  have HO := hide' ho
  have q0 : ∀ o1 o2, ((w.alloc o1).alloc o2).cell? ⟨bw, ow, none⟩ = some (.string kNet) := fun o1 o2 => ((below_two w o1 o2).cell (p := ⟨bw, ow, none⟩) hbl).trans hc0
  have q1 : ∀ o1 o2, ((w.alloc o1).alloc o2).cell? ⟨bw, ow + 1, none⟩ = some (.string x) := fun o1 o2 => ((below_two w o1 o2).cell (p := ⟨bw, ow + 1, none⟩) hbl).trans hc1
  clear ho hc0 hc1
  have b0 : (kNet.toList == [110, 101, 116]) = true := by rw [lit_beq]; decide
  cases hv : nameL (bytesOf x) with
  | false =>
    have HE : Hid (netE x = 5) := by show _ = _; unfold netE; rw [if_neg (by rw [hv]; decide)]
    go_enter Tryd.func12, Tryd.ntmps12
    go_wp2_with (go_at_call 18; refine (NameOk_any x _ hsx).mono ?_; rintro e w' ⟨rfl, q, rfl⟩)
    refine bodyPost_ret (v := .tuple #[.agg #[.string n.name, .slice ab n.buses.length cb, .slice al n.lines.length cl, .slice ag n.gens.length cg, .slice ad n.loads.length cd, .slice at' n.ties.length ct], .int .i64 5]) (by simp [results, Tryd.results12, go_sem]) rfl ⟨_, by rw [HE.out], fun h => absurd (HE.out.symm.trans h) (by decide), ?_, netV_mk⟩
    exact err_below ((below_alloc2 w _ _ q).mono hB) hB _ _ _ _ _ _
  | true =>
    have HE : Hid (netE x = 0) := by show _ = _; unfold netE; rw [if_pos hv]
    go_enter Tryd.func12, Tryd.ntmps12
    go_wp2_with (go_at_call 18; refine (NameOk_any x _ hsx).mono ?_; rintro e w' ⟨rfl, q, rfl⟩)
    refine bodyPost_ret (v := .tuple #[.agg #[.string x, .slice ab n.buses.length cb, .slice al n.lines.length cl, .slice ag n.gens.length cg, .slice ad n.loads.length cd, .slice at' n.ties.length ct], .int .i64 0]) (by simp [results, Tryd.results12, go_sem]) rfl ⟨_, by rw [HE.out], fun _ => ⟨rfl, ?_⟩, ?_, netV_mk⟩
    · have h : ∀ o1 o2, Owns (((w.alloc o1).alloc o2).drewN q) B (.slice ab n.buses.length cb) (.slice al n.lines.length cl) (.slice ag n.gens.length cg) (.slice ad n.loads.length cd) (.slice at' n.ties.length ct) { n with name := x } := fun o1 o2 => by
        have k := HO.out.below (below_alloc2 w o1 o2 q) (Nat.le_refl _)
        exact ⟨k.hb, k.hl, k.hg, k.hd, k.ht⟩
      exact out_owns (n := { n with name := x }) (h _ _) (box_one w _ _ q) (box_two w _ _ q) _ _ _ _ _ _ _ _
    · exact out_below ((below_alloc2 w _ _ q).mono hB) hB _ _ _ _ _ _ _ _
end Go.Proofs.YtjmadnpcadidhaaDoor
