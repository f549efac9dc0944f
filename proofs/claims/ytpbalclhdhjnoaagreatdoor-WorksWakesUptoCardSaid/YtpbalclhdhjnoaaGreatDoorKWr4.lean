/- The program's writer over a whole network: its text. -/
import Derived.Test.YtpbalclhdhjnoaaGreatDoorKWr1
import Derived.Test.YtpbalclhdhjnoaaGreatDoorKTail2
namespace Go.Proofs.YtpbalclhdhjnoaaGreatDoor
open Go.RowKit Go.Shelf

theorem textT_app (a b : List (List ByteArray)) : textT (a ++ b) = textT a ++ textT b := List.flatMap_append
theorem textT_one (ws : List ByteArray) : textT [ws] = lineT ws ++ [10] := by simp [textT]
theorem flat_get {α : Type} (f : α → List Value) (sz : Nat) (hf : ∀ x, (f x).length = sz) : ∀ (xs : List α) (k j : Nat) (hk : k < xs.length), j < sz → (xs.flatMap f)[k * sz + j]? = (f xs[k])[j]?
  | x :: r, 0, j, _, hj => by
    rw [List.flatMap_cons, Nat.zero_mul, Nat.zero_add, List.getElem?_append_left (by rw [hf]; exact hj)]; rfl
  | x :: r, k + 1, j, hk, hj => by
    have h := flat_get f sz hf r k j (by simpa using hk) hj
    rw [List.flatMap_cons, List.getElem?_append_right (by rw [hf, Nat.succ_mul]; omega), hf]
    rw [show (k + 1) * sz + j - sz = k * sz + j by rw [Nat.succ_mul]; omega, h]
    simp
theorem elem_cells {α : Type} {w : World} {f : α → List Value} {B e sz n cap : Nat} {a : Option Addr} {xs : List α} (hf : ∀ x, (f x).length = sz) (h : w.ownsRow B e sz (.slice a n cap) xs.length (xs.flatMap f)) (k : Nat) (hk : k < xs.length) (h0 : 0 < sz) :
    ∃ b off, a = some ⟨b, off, none⟩ ∧ ∀ j v, (f xs[k])[j]? = some v → w.cell? ⟨b, off + k * sz + j, none⟩ = some v := by
  obtain ⟨_, a', cap', e', hc⟩ := rowAt_of_own h
  cases e'
  have hlen := hf xs[k]
  obtain ⟨v0, hv0⟩ : ∃ v0, (f xs[k])[0]? = some v0 := ⟨(f xs[k])[0]'(by omega), List.getElem?_eq_getElem (by omega)⟩
  have e0 := flat_get f sz hf xs k 0 hk h0
  rw [hv0] at e0
  obtain ⟨b, off, rfl, _⟩ := hc _ _ e0
  refine ⟨b, off, rfl, fun j v hj => ?_⟩
  have hjlt : j < sz := by rw [← hlen]; exact (List.getElem?_eq_some_iff.1 hj).1
  have e1 := flat_get f sz hf xs k j hk hjlt
  rw [hj] at e1
  obtain ⟨b', off', e2, hcell⟩ := hc _ _ e1
  cases e2
  rwa [Nat.add_assoc]
/-- The world when the network is boxed and the writer laid. -/
def tellW (w : World) (nm : ByteArray) (b l g d t : Value) : World := (w.alloc (.cells #[.string nm, b, l, g, d, t] 28)).alloc (.cells #[.pointer none, .slice none 0 0, b] 77)
theorem tell_net (w : World) (nm : ByteArray) (b l g d t : Value) : (tellW w nm b l g d t).heap[w.heap.size]? = some (.cells #[.string nm, b, l, g, d, t] 28 (0, 0)) :=
  (Below.heap_alloc _ _ _ (by simp)).trans (World.alloc_heap_new w _)
theorem tell_wr (w : World) (nm : ByteArray) (b l g d t : Value) : IsWr (w.heap.size + 1) (w.heap.size + 1) [] b (tellW w nm b l g d t) := by
  have := World.alloc_heap_new (w.alloc (.cells #[.string nm, b, l, g, d, t] 28)) (.cells #[.pointer none, .slice none 0 0, b] 77)
  rw [World.size_alloc] at this
  exact .inl ⟨Nat.le_refl _, _, this, World.ownsRow_nil _ _ _ _⟩
theorem tell_below (w : World) (nm : ByteArray) (b l g d t : Value) : Below w.heap.size w (tellW w nm b l g d t) := ((Below.refl _ w).alloc (Nat.le_refl _) _).alloc (by simp) _
theorem words_cells {W : World} {ws : List ByteArray} (t : TypeId) : ∀ j x, ws[j]? = some x → (W.alloc (.cells (ws.map Value.string).toArray t)).cell? ⟨W.heap.size, 0 + j, none⟩ = some (.string x) := fun j x hj => by
  have := World.alloc_heap_new W (.cells (ws.map Value.string).toArray t)
  simp only [World.cell?, this]
  simp [hj]

theorem line_new (B V : Nat) (l : List UInt8) (uv : Value) (ws : List ByteArray) (bk n c : Nat) (W : World) (h : IsWr B V l uv W) (hbk : bk = W.heap.size) (hn : n = ws.length) (h0 : n ≤ c) (hN : n ≤ 10) (hlen : l.length + (lineT ws).length + 1 ≤ 20000) (hBw : B ≤ W.heap.size) :
    Calls Tryz.prog 34 #[.pointer (some ⟨V, 0, none⟩), .slice (some ⟨bk, 0, none⟩) n c] (W.alloc (.cells (ws.map Value.string).toArray 9)) fun e w' => e = .returned (.tuple #[]) ∧ WrAt B V (.pointer (some ⟨V, 0, none⟩)) (l ++ lineT ws ++ [10]) uv w' ∧ Below B W w' := by
  subst hbk hn
  refine (line_wr B V l uv W.heap.size 0 c ws _ (h.later ((Below.refl _ W).alloc (Nat.le_refl _) _)) (words_cells 9) (by simp) hN h0 hlen (by simp; omega)).mono ?_
  rintro e w' ⟨he, hw, hb⟩
  exact ⟨he, hw, ((Below.refl B W).alloc hBw _).trans hb⟩

theorem bus_cells {w : World} {B n c : Nat} {a : Option Addr} {xs : List ByteArray} (h : w.ownsRow B 9 1 (.slice a n c) xs.length (xs.map Value.string)) (h0 : 0 < xs.length) :
    ∃ bb ob, a = some ⟨bb, ob, none⟩ ∧ ∀ (j : Nat) (hj : j < xs.length), w.cell? ⟨bb, ob + j, none⟩ = some (.string xs[j]) := by
  obtain ⟨_, a', cap', e', hc⟩ := rowAt_of_own h
  cases e'
  have hx : ∀ (j : Nat) (hj : j < xs.length), (xs.map Value.string)[j]? = some (Value.string xs[j]) := fun j hj => by rw [List.getElem?_map, List.getElem?_eq_getElem hj]; rfl
  obtain ⟨b, off, rfl, _⟩ := hc _ _ (hx 0 h0)
  refine ⟨b, off, rfl, fun j hj => ?_⟩
  obtain ⟨b', off', e2, hcell⟩ := hc _ _ (hx j hj)
  cases e2
  exact hcell
/-- The writer at work on a network in its box: what it has told so far. -/
structure Tl (w wr : World) (N : NetM) (b l g d t : Value) (P : List (List ByteArray)) : Prop where
  is : IsWr (w.heap.size + 1) (w.heap.size + 1) (textT P) b wr
  net : wr.heap[w.heap.size]? = some (.cells #[.string N.name, b, l, g, d, t] 28 (0, 0))
  bel : Below w.heap.size w wr
  sz : w.heap.size + 2 ≤ wr.heap.size
theorem Tl.start (w : World) (N : NetM) (b l g d t : Value) : Tl w (tellW w N.name b l g d t) N b l g d t [] :=
  ⟨tell_wr _ _ _ _ _ _ _, tell_net _ _ _ _ _ _ _, tell_below _ _ _ _ _ _ _, by simp [tellW]⟩
theorem Tl.line {w wr wr' : World} {N : NetM} {b l g d t : Value} {P : List (List ByteArray)} (h : Tl w wr N b l g d t P) (hb : Below wr.heap.size wr wr') (ws : List ByteArray) {n bk : Nat} (hn : n = ws.length) (hbk : bk = wr'.heap.size) (hlen : (textT (P ++ [ws])).length ≤ 20000) (hN : n ≤ 10) :
    Calls Tryz.prog 34 #[.pointer (some ⟨w.heap.size + 1, 0, none⟩), .slice (some ⟨bk, 0, none⟩) n n] (wr'.alloc (.cells (ws.map Value.string).toArray 9)) fun e w' => e = .returned (.tuple #[]) ∧ Tl w w' N b l g d t (P ++ [ws]) := by
  have hs := h.sz
  have hs' := hb.size
  rw [textT_app, textT_one] at hlen
  simp only [List.length_append, List.length_cons, List.length_nil] at hlen
  refine (line_new _ _ _ _ ws bk n n wr' (h.is.later hb) hbk hn (Nat.le_refl _) hN (by omega) (by omega)).mono ?_
  rintro e w' ⟨he, hw, hb2⟩
  refine ⟨he, ?_, ?_, ?_, ?_⟩
  · rw [textT_app, textT_one, ← List.append_assoc]
    exact .inr hw
  · exact (hb2.block _ (by omega)).trans ((hb.block _ (by omega)).trans h.net)
  · exact h.bel.trans ((hb.mono (by omega)).trans (hb2.mono (by omega)))
  · have := hb2.size
    omega
theorem Tl.bus {w wr W : World} {N : NetM} {ab : Option Addr} {cb B1 : Nat} {l g d t : Value} {P : List (List ByteArray)} (h : Tl w wr N (.slice ab N.buses.length cb) l g d t P) (ho : w.ownsRow B1 9 1 (.slice ab N.buses.length cb) N.buses.length (N.buses.map Value.string)) (hb : Below wr.heap.size wr W) (i : Int) (h0 : 0 ≤ i) (h1 : i < N.buses.length) :
    Calls Tryz.prog 35 #[.pointer (some ⟨w.heap.size + 1, 0, none⟩), .int .i64 i] W fun e w' => e = .returned (.string (busAt N i)) ∧ w' = W := by
  obtain ⟨u, rfl⟩ := Int.eq_ofNat_of_zero_le h0
  have hu : u < N.buses.length := by omega
  obtain ⟨bb, ob, rfl, hx⟩ := bus_cells ho (by omega)
  have e : busAt N (u : Int) = N.buses[u] := by
    unfold busAt
    rw [Int.toNat_natCast, List.getD_eq_getElem?_getD, List.getElem?_eq_getElem hu]
    rfl
  rw [e]
  obtain ⟨p, -, v, hk, -⟩ := h.is.at
  have hkW : W.heap[w.heap.size + 1]? = _ := (hb.block _ (by have := h.sz; omega)).trans hk
  have hc := hx u hu
  have h3 := (h.bel.cell (World.block_lt_of_cell? w _ hc)).trans hc
  have h4 := (hb.cell (World.block_lt_of_cell? wr _ h3)).trans h3
  exact bus_wr _ bb ob cb u N.buses.length _ W (wr_cell hkW).2.2.1 hu h4
theorem take_snoc {α β : Type} (P : List β) (f : α → β) (xs : List α) (k : Nat) (hk : k < xs.length) : P ++ (xs.take k).map f ++ [f xs[k]] = P ++ (xs.take (k + 1)).map f := by
  rw [List.take_succ_eq_append_getElem hk, List.map_append, ← List.append_assoc]; rfl
theorem take_all {α β : Type} (P : List β) (f : α → β) (xs : List α) {k : Nat} (hk : k ≤ xs.length) (h : ¬ k < xs.length) : P ++ (xs.take k).map f = P ++ xs.map f := by
  rw [List.take_of_length_le (by omega)]
theorem cells32 {W : World} {p : Nat} {n : ByteArray} {b l g d t : Value} (h : W.heap[p]? = some (.cells #[.string n, b, l, g, d, t] 28 (0, 0))) :
    W.cell? ⟨p, 1, none⟩ = some b ∧ W.cell? ⟨p, 2, none⟩ = some l ∧ W.cell? ⟨p, 3, none⟩ = some g ∧ W.cell? ⟨p, 4, none⟩ = some d ∧ W.cell? ⟨p, 5, none⟩ = some t := by
  refine ⟨?_, ?_, ?_, ?_, ?_⟩ <;> (simp only [World.cell?, h]; rfl)

end Go.Proofs.YtpbalclhdhjnoaaGreatDoor
