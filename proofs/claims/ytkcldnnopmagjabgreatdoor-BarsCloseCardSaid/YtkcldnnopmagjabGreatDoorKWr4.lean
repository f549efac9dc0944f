/- The program's writer over a whole network: its text. -/
import Derived.Test.YtkcldnnopmagjabGreatDoorKWr1
import Derived.Test.YtkcldnnopmagjabGreatDoorKTail2
namespace Go.Proofs.YtkcldnnopmagjabGreatDoor
open Go.RowKit Go.Shelf

theorem textT_app (a b : List (List ByteArray)) : textT (a ++ b) = textT a ++ textT b := List.flatMap_append
theorem textT_one (ws : List ByteArray) : textT [ws] = lineT ws ++ [10] := by simp [textT]
theorem text_step {α : Type} (P : List (List ByteArray)) (f : α → List ByteArray) (xs : List α) (k : Nat) (hk : k < xs.length) : textT (P ++ (xs.take (k + 1)).map f) = textT (P ++ (xs.take k).map f) ++ lineT (f xs[k]) ++ [10] := by
  rw [List.take_succ_eq_append_getElem hk, List.map_append, ← List.append_assoc, textT_app, List.map_cons, List.map_nil, textT_one, List.append_assoc]
theorem text_take {α : Type} (P : List (List ByteArray)) (f : α → List ByteArray) (xs : List α) (k : Nat) : (textT (P ++ (xs.take k).map f)).length ≤ (textT (P ++ xs.map f)).length := by
  have e : xs.map f = (xs.take k).map f ++ (xs.drop k).map f := by rw [← List.map_append, List.take_append_drop]
  rw [e, ← List.append_assoc, textT_app, textT_app, textT_app]
  simp only [List.length_append]
  omega
theorem flat_get {α : Type} (f : α → List Value) (sz : Nat) (hf : ∀ x, (f x).length = sz) : ∀ (xs : List α) (k j : Nat) (hk : k < xs.length), j < sz → (xs.flatMap f)[k * sz + j]? = (f xs[k])[j]?
  | x :: r, 0, j, _, hj => by
    rw [List.flatMap_cons, Nat.zero_mul, Nat.zero_add, List.getElem?_append_left (by rw [hf]; exact hj)]; rfl
  | x :: r, k + 1, j, hk, hj => by
    have h := flat_get f sz hf r k j (by simpa using hk) hj
    rw [List.flatMap_cons, List.getElem?_append_right (by rw [hf, Nat.succ_mul]; omega), hf]
    rw [show (k + 1) * sz + j - sz = k * sz + j by rw [Nat.succ_mul]; omega, h]
    simp
theorem elem_cells {α : Type} {w : World} {f : α → List Value} {B e sz n cap : Nat} {a : Option Addr} {xs : List α} (hf : ∀ x, (f x).length = sz) (h : w.ownsRow B e sz (.slice a n cap) xs.length (xs.flatMap f)) (k : Nat) (hk : k < xs.length) (h0 : 0 < sz) :
    ∃ b off, a = some ⟨b, off, none⟩ ∧ ∀ j v, (f xs[k])[j]? = some v → w.cell? ⟨b, off + k * sz + j, none⟩ = some v := by
  obtain ⟨_, a', cap', e', hc⟩ := rowAt_of_own h
  cases e'
  have hlen := hf xs[k]
  obtain ⟨v0, hv0⟩ : ∃ v0, (f xs[k])[0]? = some v0 := ⟨(f xs[k])[0]'(by omega), List.getElem?_eq_getElem (by omega)⟩
  have e0 := flat_get f sz hf xs k 0 hk h0
  rw [hv0] at e0
  obtain ⟨b, off, rfl, _⟩ := hc _ _ e0
  refine ⟨b, off, rfl, fun j v hj => ?_⟩
  have hjlt : j < sz := by rw [← hlen]; exact (List.getElem?_eq_some_iff.1 hj).1
  have e1 := flat_get f sz hf xs k j hk hjlt
  rw [hj] at e1
  obtain ⟨b', off', e2, hcell⟩ := hc _ _ e1
  cases e2
  rwa [Nat.add_assoc]
/-- The world when the network is boxed and the writer laid. -/
def tellW (w : World) (nm : ByteArray) (b l g d t : Value) : World := (w.alloc (.cells #[.string nm, b, l, g, d, t] 28)).alloc (.cells #[.pointer none, .slice none 0 0, b] 99)
theorem tell_net (w : World) (nm : ByteArray) (b l g d t : Value) : (tellW w nm b l g d t).heap[w.heap.size]? = some (.cells #[.string nm, b, l, g, d, t] 28 (0, 0)) :=
  (Below.heap_alloc _ _ _ (by simp)).trans (World.alloc_heap_new w _)
theorem tell_wr (w : World) (nm : ByteArray) (b l g d t : Value) : IsWr (w.heap.size + 1) (w.heap.size + 1) [] b (tellW w nm b l g d t) := by
  have := World.alloc_heap_new (w.alloc (.cells #[.string nm, b, l, g, d, t] 28)) (.cells #[.pointer none, .slice none 0 0, b] 99)
  rw [World.size_alloc] at this
  exact .inl ⟨Nat.le_refl _, _, this, World.ownsRow_nil _ _ _ _⟩
theorem tell_below (w : World) (nm : ByteArray) (b l g d t : Value) : Below w.heap.size w (tellW w nm b l g d t) := ((Below.refl _ w).alloc (Nat.le_refl _) _).alloc (by simp) _
theorem words_cells {W : World} {ws : List ByteArray} (t : TypeId) : ∀ j x, ws[j]? = some x → (W.alloc (.cells (ws.map Value.string).toArray t)).cell? ⟨W.heap.size, 0 + j, none⟩ = some (.string x) := fun j x hj => by
  have := World.alloc_heap_new W (.cells (ws.map Value.string).toArray t)
  simp only [World.cell?, this]
  simp [hj]

theorem line_new (B V : Nat) (l : List UInt8) (uv : Value) (ws : List ByteArray) (bk n c : Nat) (W : World) (h : IsWr B V l uv W) (hbk : bk = W.heap.size) (hn : n = ws.length) (h0 : n ≤ c) (hN : n ≤ 10) (hlen : l.length + (lineT ws).length + 1 ≤ 20000) (hBw : B ≤ W.heap.size) :
    Calls Tryz.prog 47 #[.pointer (some ⟨V, 0, none⟩), .slice (some ⟨bk, 0, none⟩) n c] (W.alloc (.cells (ws.map Value.string).toArray 9)) fun e w' => e = .returned (.tuple #[]) ∧ WrAt B V (.pointer (some ⟨V, 0, none⟩)) (l ++ lineT ws ++ [10]) uv w' ∧ Below B W w' := by
  subst hbk hn
  refine (line_wr B V l uv W.heap.size 0 c ws _ (h.later ((Below.refl _ W).alloc (Nat.le_refl _) _)) (words_cells 9) (by simp) hN h0 hlen (by simp; omega)).mono ?_
  rintro e w' ⟨he, hw, hb⟩
  exact ⟨he, hw, ((Below.refl B W).alloc hBw _).trans hb⟩

theorem bus_cells {w : World} {B n c : Nat} {a : Option Addr} {xs : List ByteArray} (h : w.ownsRow B 9 1 (.slice a n c) xs.length (xs.map Value.string)) (h0 : 0 < xs.length) :
    ∃ bb ob, a = some ⟨bb, ob, none⟩ ∧ ∀ (j : Nat) (hj : j < xs.length), w.cell? ⟨bb, ob + j, none⟩ = some (.string xs[j]) := by
  obtain ⟨_, a', cap', e', hc⟩ := rowAt_of_own h
  cases e'
  have hx : ∀ (j : Nat) (hj : j < xs.length), (xs.map Value.string)[j]? = some (Value.string xs[j]) := fun j hj => by rw [List.getElem?_map, List.getElem?_eq_getElem hj]; rfl
  obtain ⟨b, off, rfl, _⟩ := hc _ _ (hx 0 h0)
  refine ⟨b, off, rfl, fun j hj => ?_⟩
  obtain ⟨b', off', e2, hcell⟩ := hc _ _ (hx j hj)
  cases e2
  exact hcell
/-- The writer at work on a network in its box: what it has told so far. -/
structure Tl (w wr : World) (N : NetM) (b l g d t : Value) (P : List (List ByteArray)) : Prop where
  is : IsWr (w.heap.size + 1) (w.heap.size + 1) (textT P) b wr
  net : wr.heap[w.heap.size]? = some (.cells #[.string N.name, b, l, g, d, t] 28 (0, 0))
  bel : Below w.heap.size w wr
  sz : w.heap.size + 2 ≤ wr.heap.size
theorem Tl.start (w : World) (N : NetM) (b l g d t : Value) : Tl w (tellW w N.name b l g d t) N b l g d t [] :=
  ⟨tell_wr _ _ _ _ _ _ _, tell_net _ _ _ _ _ _ _, tell_below _ _ _ _ _ _ _, by simp [tellW]⟩
theorem Tl.line {w wr wr' : World} {N : NetM} {b l g d t : Value} {P : List (List ByteArray)} (h : Tl w wr N b l g d t P) (hb : Below wr.heap.size wr wr') (ws : List ByteArray) {n bk : Nat} (hn : n = ws.length) (hbk : bk = wr'.heap.size) (hlen : (textT (P ++ [ws])).length ≤ 20000) (hN : n ≤ 10) :
    Calls Tryz.prog 47 #[.pointer (some ⟨w.heap.size + 1, 0, none⟩), .slice (some ⟨bk, 0, none⟩) n n] (wr'.alloc (.cells (ws.map Value.string).toArray 9)) fun e w' => e = .returned (.tuple #[]) ∧ Tl w w' N b l g d t (P ++ [ws]) := by
  have hs := h.sz
  have hs' := hb.size
  rw [textT_app, textT_one] at hlen
  simp only [List.length_append, List.length_cons, List.length_nil] at hlen
  refine (line_new _ _ _ _ ws bk n n wr' (h.is.later hb) hbk hn (Nat.le_refl _) hN (by omega) (by omega)).mono ?_
  rintro e w' ⟨he, hw, hb2⟩
  refine ⟨he, ?_, ?_, ?_, ?_⟩
  · rw [textT_app, textT_one, ← List.append_assoc]
    exact .inr hw
  · exact (hb2.block _ (by omega)).trans ((hb.block _ (by omega)).trans h.net)
  · exact h.bel.trans ((hb.mono (by omega)).trans (hb2.mono (by omega)))
  · have := hb2.size
    omega
theorem itoa_any (v : Int) (h0 : 0 ≤ v) (h1 : v < 100) (w : World) : Calls Tryz.prog 49 #[.int .i64 v] w fun e w' => e = .returned (.string (decB v)) ∧ w' = w := by
  obtain ⟨u, rfl⟩ := Int.eq_ofNat_of_zero_le h0
  have e : decB (u : Int) = ⟨(Lib.decDigits u).toArray⟩ := by
    unfold decB Lib.itoa
    rw [if_neg (by omega)]
    rfl
  rw [e]
  exact Tryz.strconv_Itoa_small u (by omega) w
theorem Tl.bus {w wr W : World} {N : NetM} {ab : Option Addr} {cb B1 : Nat} {l g d t : Value} {P : List (List ByteArray)} (h : Tl w wr N (.slice ab N.buses.length cb) l g d t P) (ho : w.ownsRow B1 9 1 (.slice ab N.buses.length cb) N.buses.length (N.buses.map Value.string)) (hb : Below wr.heap.size wr W) (i : Int) (h0 : 0 ≤ i) (h1 : i < N.buses.length) :
    Calls Tryz.prog 48 #[.pointer (some ⟨w.heap.size + 1, 0, none⟩), .int .i64 i] W fun e w' => e = .returned (.string (busAt N i)) ∧ w' = W := by
  obtain ⟨u, rfl⟩ := Int.eq_ofNat_of_zero_le h0
  have hu : u < N.buses.length := by omega
  obtain ⟨bb, ob, rfl, hx⟩ := bus_cells ho (by omega)
  have e : busAt N (u : Int) = N.buses[u] := by
    unfold busAt
    rw [Int.toNat_natCast, List.getD_eq_getElem?_getD, List.getElem?_eq_getElem hu]
    rfl
  rw [e]
  obtain ⟨p, -, v, hk, -⟩ := h.is.at
  have hkW : W.heap[w.heap.size + 1]? = _ := (hb.block _ (by have := h.sz; omega)).trans hk
  have hc := hx u hu
  have h3 := (h.bel.cell (World.block_lt_of_cell? w _ hc)).trans hc
  have h4 := (hb.cell (World.block_lt_of_cell? wr _ h3)).trans h3
  exact bus_wr _ bb ob cb u N.buses.length _ W (wr_cell hkW).2.2.1 hu h4
theorem take_snoc {α β : Type} (P : List β) (f : α → β) (xs : List α) (k : Nat) (hk : k < xs.length) : P ++ (xs.take k).map f ++ [f xs[k]] = P ++ (xs.take (k + 1)).map f := by
  rw [List.take_succ_eq_append_getElem hk, List.map_append, ← List.append_assoc]; rfl
theorem text_le {P Q : List (List ByteArray)} (h : (textT (P ++ Q)).length ≤ 20000) : (textT P).length ≤ 20000 := by
  rw [textT_app, List.length_append] at h
  omega
theorem take_le {α : Type} {P : List (List ByteArray)} {f : α → List ByteArray} {xs : List α} (h : (textT (P ++ xs.map f)).length ≤ 20000) (k : Nat) : (textT (P ++ (xs.take k).map f)).length ≤ 20000 :=
  Nat.le_trans (text_take P f xs k) h
theorem take_all {α β : Type} (P : List β) (f : α → β) (xs : List α) {k : Nat} (hk : k ≤ xs.length) (h : ¬ k < xs.length) : P ++ (xs.take k).map f = P ++ xs.map f := by
  rw [List.take_of_length_le (by omega)]
def told1 (N : NetM) : List (List ByteArray) := [[kNet, N.name]]
def told2 (N : NetM) : List (List ByteArray) := told1 N ++ N.buses.map fun b => [kBus, b]
def told3 (N : NetM) : List (List ByteArray) := told2 N ++ N.lines.map (wordsLine N)
theorem toldN_eq (N : NetM) : toldN N = told3 N ++ N.ties.map (wordsTie N) := by simp [toldN, told3, told2, told1]
theorem cells32 {W : World} {p : Nat} {n : ByteArray} {b l g d t : Value} (h : W.heap[p]? = some (.cells #[.string n, b, l, g, d, t] 28 (0, 0))) :
    W.cell? ⟨p, 1, none⟩ = some b ∧ W.cell? ⟨p, 2, none⟩ = some l ∧ W.cell? ⟨p, 3, none⟩ = some g ∧ W.cell? ⟨p, 4, none⟩ = some d ∧ W.cell? ⟨p, 5, none⟩ = some t := by
  refine ⟨?_, ?_, ?_, ?_, ?_⟩ <;> (simp only [World.cell?, h]; rfl)

set_option maxHeartbeats 1000000 in
set_option maxRecDepth 100000 in
theorem tell_ok (N : NetM) (B1 : Nat) (b l g d t : Value) (w : World) (hN : GoodM N) (hT : (textT (toldN N)).length ≤ 20000) (ho : Owns w B1 b l g d t N) :
    Calls Tryz.prog 28 #[.agg #[.string N.name, b, l, g, d, t]] w fun e w' => e = .returned (.string (textOf (textT (toldN N)))) ∧ Below w.heap.size w w' := by
  obtain ⟨ab, cb, rfl⟩ := own_slice ho.hb
  obtain ⟨al, cl, rfl⟩ := own_slice ho.hl
  obtain ⟨ag, cg, rfl⟩ := own_slice ho.hg
  obtain ⟨ad, cd, rfl⟩ := own_slice ho.hd
  obtain ⟨at', ct, rfl⟩ := own_slice ho.ht
  have hg0 : N.gens.length = 0 := by rw [hN.gens]; rfl
  have hd0 : N.loads.length = 0 := by rw [hN.loads]; rfl
  rw [hg0, hd0]
  obtain ⟨f1, f2, f3⟩ := hN.fits
  have hst := Tl.start w N (.slice ab N.buses.length cb) (.slice al N.lines.length cl) (.slice ag 0 cg) (.slice ad 0 cd) (.slice at' N.ties.length ct)
  have hT3 : (textT (told3 N ++ N.ties.map (wordsTie N))).length ≤ 20000 := by rw [← toldN_eq]; exact hT
  have hT2 : (textT (told2 N ++ N.lines.map (wordsLine N))).length ≤ 20000 := text_le hT3
  have hT1 : (textT (told1 N ++ N.buses.map fun b => [kBus, b])).length ≤ 20000 := text_le hT2
  have hT0 : (textT ([] ++ [[kNet, N.name]])).length ≤ 20000 := text_le hT1
  have hline := hst.line (Below.refl _ _) [kNet, N.name] (n := 2) (bk := w.heap.size + 1 + 1) rfl (by simp [tellW]) hT0 (by decide)
  have HL : Hid (Calls Tryz.prog 47 #[.pointer (some ⟨w.heap.size + 1, 0, none⟩), .slice (some ⟨w.heap.size + 1 + 1, 0, none⟩) 2 2] (((w.alloc (.cells #[.string N.name, .slice ab N.buses.length cb, .slice al N.lines.length cl, .slice ag 0 cg, .slice ad 0 cd, .slice at' N.ties.length ct] 28)).alloc (.cells #[.pointer none, .slice none 0 0, .slice ab N.buses.length cb] 99)).alloc (.cells #[.string ⟨#[110, 101, 116]⟩, .string N.name] 9)) _) := hline
  have HT1 := hide' hT1
  have HT2 := hide' hT2
  have HT3 := hide' hT3
  have HG := hide' hN
  have HO := hide' ho
  clear hst hline hT0 hT1 hT2 hT3 hT hN ho hg0 hd0
  go_enter Tryz.func28, Tryz.ntmps28
  go_wp2_with (go_at_call 47; go_must (refine HL.out.mono ?_))
  rintro e w1 ⟨rfl, htl⟩
  clear HL
  have HTL := hide' htl
  obtain ⟨c1, c2, c3, c4, c5⟩ := cells32 htl.net
  clear htl
  go_wp2_with fail
  go_loopw [24] (fun si wr => ∃ k : Nat, si = .int .i64 k ∧ k ≤ N.buses.length ∧ Hid (Tl w wr N (.slice ab N.buses.length cb) (.slice al N.lines.length cl) (.slice ag 0 cg) (.slice ad 0 cd) (.slice at' N.ties.length ct) (told1 N ++ (N.buses.take k).map fun b => [kBus, b]))) (fun si _ => N.buses.length - (intOf si).toNat)
  case atStart => exact ⟨0, rfl, Nat.zero_le _, HTL⟩
  case round =>
    clear HTL c1 c2 c3 c4 c5
    obtain ⟨k, rfl, hk, HTL⟩ := hrel
    by_cases hlt : k < N.buses.length
    · obtain ⟨bb, ob, rfl, hx⟩ := bus_cells HO.out.hb (by omega)
      have hx1 := HTL.out.bel.cell (World.block_lt_of_cell? w _ (hx k hlt))
      rw [hx k hlt] at hx1
      have hln := HTL.out.line (Below.refl _ _) [kBus, N.buses[k]] (n := 2) rfl rfl (by rw [take_snoc (told1 N) (fun b => [kBus, b]) N.buses k hlt]; exact take_le HT1.out _) (by decide)
      rw [take_snoc (told1 N) (fun b => [kBus, b]) N.buses k hlt] at hln
      obtain ⟨x, hxe⟩ : ∃ x, x = N.buses[k] := ⟨_, rfl⟩
      rw [← hxe] at hln hx1
      have HL : Hid (Calls Tryz.prog 47 #[.pointer (some ⟨w.heap.size + 1, 0, none⟩), .slice (some ⟨wr.heap.size, 0, none⟩) 2 2] (wr.alloc (.cells #[.string ⟨#[98, 117, 115]⟩, .string x] 9)) _) := hln
      clear hx hln hxe
      go_wp2_with (go_at_call 47; go_must (refine HL.out.mono ?_))
      rintro e w2 ⟨rfl, htl⟩
      have HTL2 := hide' htl
      clear htl
      go_wp2
      exact ⟨⟨k + 1, by go_num, by omega, HTL2⟩, by simp [intOf]; omega⟩
    · have HTL1 : Hid (Tl w wr N (.slice ab N.buses.length cb) (.slice al N.lines.length cl) (.slice ag 0 cg) (.slice ad 0 cd) (.slice at' N.ties.length ct) (told2 N)) := by
        have := HTL.out
        rwa [take_all _ _ _ hk hlt] at this
      obtain ⟨c1, c2, c3, c4, c5⟩ := cells32 HTL.out.net
      clear HTL
      go_wp2_with fail
      clear hlt hk c1 c2 c3 c4 c5
      go_loopw [35] (fun si wr => ∃ k : Nat, si = .int .i64 k ∧ k ≤ N.lines.length ∧ Hid (Tl w wr N (.slice ab N.buses.length cb) (.slice al N.lines.length cl) (.slice ag 0 cg) (.slice ad 0 cd) (.slice at' N.ties.length ct) (told2 N ++ (N.lines.take k).map (wordsLine N)))) (fun si _ => N.lines.length - (intOf si).toNat)
      case atStart => exact ⟨0, rfl, Nat.zero_le _, by have := HTL1.out; rwa [← List.append_nil (told2 N)] at this⟩
      case round =>
        clear HTL1
        obtain ⟨k, rfl, hk, HTL⟩ := hrel
        by_cases hlt : k < N.lines.length
        · obtain ⟨bx, ox, rfl, hx⟩ := elem_cells (f := LineM.cells) (sz := 5) (fun _ => rfl) HO.out.hl k hlt (by decide)
          have hg := HG.out.lines _ (List.getElem_mem hlt)
          obtain ⟨L, hL⟩ : ∃ L, L = N.lines[k] := ⟨_, rfl⟩
          rw [← hL] at hx hg
          have kp : ∀ {p v}, w.cell? p = some v → wr.cell? p = some v := fun h => (HTL.out.bel.cell (World.block_lt_of_cell? w _ h)).trans h
          have e0 : wr.cell? ⟨bx, ox + k * 5, none⟩ = some (.string L.name) := kp (hx 0 _ rfl)
          have e1 : wr.cell? ⟨bx, ox + k * 5 + 1, none⟩ = some (.int .i64 L.frm) := kp (hx 1 _ rfl)
          have e2 : wr.cell? ⟨bx, ox + k * 5 + 2, none⟩ = some (.int .i64 L.to) := kp (hx 2 _ rfl)
          have e3 : wr.cell? ⟨bx, ox + k * 5 + 3, none⟩ = some (.int .i64 L.worth) := kp (hx 3 _ rfl)
          have e4 : wr.cell? ⟨bx, ox + k * 5 + 4, none⟩ = some (.int .i64 L.limit) := kp (hx 4 _ rfl)
          have HGL := hide' hg
          have HL0 := hide' hL
          clear hx hg kp hL
          have hbl : ∀ o, Below wr.heap.size wr (wr.alloc o).drew := fun o => ((Below.refl _ wr).alloc (Nat.le_refl _) o).drew
          have hB1 := HTL.out.bus HO.out.hb (hbl (.cells #[.string L.name, .int .i64 L.frm, .int .i64 L.to, .int .i64 L.worth, .int .i64 L.limit] 70)) L.frm HGL.out.1 HGL.out.2.1
          have hB2 := HTL.out.bus HO.out.hb (hbl (.cells #[.string L.name, .int .i64 L.frm, .int .i64 L.to, .int .i64 L.worth, .int .i64 L.limit] 70)) L.to HGL.out.2.2.1 HGL.out.2.2.2.1
          have hI1 := itoa_any L.worth (by have := HGL.out; omega) HGL.out.2.2.2.2.2.2.1
          have hI2 := itoa_any L.limit HGL.out.2.2.2.2.2.2.2.1 HGL.out.2.2.2.2.2.2.2.2
          have hln := HTL.out.line (hbl (.cells #[.string L.name, .int .i64 L.frm, .int .i64 L.to, .int .i64 L.worth, .int .i64 L.limit] 70)) (wordsLine N N.lines[k]) (n := 6) rfl rfl (by rw [take_snoc (told2 N) (wordsLine N) N.lines k hlt]; exact take_le HT2.out _) (by decide)
          rw [take_snoc (told2 N) (wordsLine N) N.lines k hlt, ← HL0.out] at hln
          clear hbl
          go_wp2_with fail
          obtain ⟨WL, hWL⟩ : ∃ WL, WL = wr.alloc (.cells #[.string L.name, .int .i64 L.frm, .int .i64 L.to, .int .i64 L.worth, .int .i64 L.limit] 70) := ⟨_, rfl⟩
          have k0 : WL.cell? ⟨wr.heap.size, 0, none⟩ = some (.string L.name) := by rw [hWL]; simp [go_sem]
          have k1 : WL.cell? ⟨wr.heap.size, 1, none⟩ = some (.int .i64 L.frm) := by rw [hWL]; simp [go_sem]
          have k2 : WL.cell? ⟨wr.heap.size, 2, none⟩ = some (.int .i64 L.to) := by rw [hWL]; simp [go_sem]
          have k3 : WL.cell? ⟨wr.heap.size, 3, none⟩ = some (.int .i64 L.worth) := by rw [hWL]; simp [go_sem]
          have k4 : WL.cell? ⟨wr.heap.size, 4, none⟩ = some (.int .i64 L.limit) := by rw [hWL]; simp [go_sem]
          rw [← hWL] at hB1 hB2 hln ⊢
          have hln' : Calls Tryz.prog 47 #[.pointer (some ⟨w.heap.size + 1, 0, none⟩), .slice (some ⟨WL.heap.size, 0, none⟩) 6 6] (WL.drew.alloc (.cells #[.string ⟨#[108, 105, 110, 101]⟩, .string L.name, .string (busAt N L.frm), .string (busAt N L.to), .string (decB L.worth), .string (decB L.limit)] 9)) _ := hln
          have HB1 := hide' hB1
          have HB2 := hide' hB2
          have HI1 := hide' hI1
          have HI2 := hide' hI2
          have HLN := hide' hln'
          have hsame : ∀ o, (WL.drew.alloc o).cell? ⟨wr.heap.size, 0, none⟩ = some (.string L.name) ∧ (WL.drew.alloc o).cell? ⟨wr.heap.size, 1, none⟩ = some (.int .i64 L.frm) ∧ (WL.drew.alloc o).cell? ⟨wr.heap.size, 2, none⟩ = some (.int .i64 L.to) ∧ (WL.drew.alloc o).cell? ⟨wr.heap.size, 3, none⟩ = some (.int .i64 L.worth) ∧ (WL.drew.alloc o).cell? ⟨wr.heap.size, 4, none⟩ = some (.int .i64 L.limit) := fun o => ⟨later (W := WL.drew) k0 o, later (W := WL.drew) k1 o, later (W := WL.drew) k2 o, later (W := WL.drew) k3 o, later (W := WL.drew) k4 o⟩
          have HS := hide' hsame
          clear hB1 hB2 hI1 hI2 hln hln' hWL hsame e0 e1 e2 e3 e4
          refine wp_region_tail (fun W => W.cell? ⟨wr.heap.size, 0, none⟩ = some (.string L.name) ∧ W.cell? ⟨wr.heap.size, 1, none⟩ = some (.int .i64 L.frm) ∧ W.cell? ⟨wr.heap.size, 2, none⟩ = some (.int .i64 L.to) ∧ W.cell? ⟨wr.heap.size, 3, none⟩ = some (.int .i64 L.worth) ∧ W.cell? ⟨wr.heap.size, 4, none⟩ = some (.int .i64 L.limit)) 15 (by kernel_rfl) ?_
          refine wpAnyD_takeAt 0 (some 39) (v := ?_) rfl (by kernel_rfl) (by kernel_rfl) (by kernel_rfl) (by kernel_rfl) (by kernel_rfl) (fun _ _ _ h => h) (by exact ⟨k0, k1, k2, k3, k4⟩) (fun o hop => ?_) ?_
          rotate_left
          · injection hop with hop
            subst hop
            refine ⟨rfl, fun W hW => ?_⟩
            obtain ⟨s0, s1, s2, s3, s4⟩ := hW
            go_simp
            rfl
          try simp only [Act.put, List.setIfInBounds_toArray, List.set_cons_zero, List.set_cons_succ]
          refine wpAnyD_takeAt 1 (some 40) (v := ?_) rfl (by kernel_rfl) (by kernel_rfl) (by kernel_rfl) (by kernel_rfl) (by kernel_rfl) (fun _ _ _ h => h) (by exact ⟨k0, k1, k2, k3, k4⟩) (fun o hop => ?_) ?_
          rotate_left
          · injection hop with hop
            subst hop
            refine ⟨rfl, fun W hW => ?_⟩
            obtain ⟨s0, s1, s2, s3, s4⟩ := hW
            go_simp
            rfl
          try simp only [Act.put, List.setIfInBounds_toArray, List.set_cons_zero, List.set_cons_succ]
          refine wpAnyD_takeAt 2 (some 41) (v := ?_) rfl (by kernel_rfl) (by kernel_rfl) (by kernel_rfl) (by kernel_rfl) (by kernel_rfl) (fun _ _ _ h => h) (by exact ⟨k0, k1, k2, k3, k4⟩) (fun o hop => ?_) ?_
          rotate_left
          · injection hop with hop
            subst hop
            refine ⟨rfl, fun W hW => ?_⟩
            obtain ⟨s0, s1, s2, s3, s4⟩ := hW
            go_simp
            rfl
          try simp only [Act.put, List.setIfInBounds_toArray, List.set_cons_zero, List.set_cons_succ]
          refine wpAnyD_takeAt 3 (some 42) (v := ?_) rfl (by kernel_rfl) (by kernel_rfl) (by kernel_rfl) (by kernel_rfl) (by kernel_rfl) (fun _ _ _ h => h) (by exact ⟨k0, k1, k2, k3, k4⟩) (fun o hop => ?_) ?_
          rotate_left
          · injection hop with hop
            subst hop
            refine ⟨rfl, fun W hW => ?_⟩
            obtain ⟨s0, s1, s2, s3, s4⟩ := hW
            go_simp
            rfl
          try simp only [Act.put, List.setIfInBounds_toArray, List.set_cons_zero, List.set_cons_succ]
          refine wpAnyD_takeAt 5 (some 44) (v := ?_) rfl (by kernel_rfl) (by kernel_rfl) (by kernel_rfl) (by kernel_rfl) (by kernel_rfl) (fun _ _ _ h => h) (by exact ⟨k0, k1, k2, k3, k4⟩) (fun o hop => ?_) ?_
          rotate_left
          · injection hop with hop
            subst hop
            refine ⟨rfl, fun W hW => ?_⟩
            obtain ⟨s0, s1, s2, s3, s4⟩ := hW
            go_simp
            rfl
          try simp only [Act.put, List.setIfInBounds_toArray, List.set_cons_zero, List.set_cons_succ]
          refine wpAnyD_takeAt 6 (some 45) (v := ?_) rfl (by kernel_rfl) (by kernel_rfl) (by kernel_rfl) (by kernel_rfl) (by kernel_rfl) (fun _ _ _ h => h) (by exact ⟨k0, k1, k2, k3, k4⟩) (fun o hop => ?_) ?_
          rotate_left
          · injection hop with hop
            subst hop
            refine ⟨rfl, fun W hW => ?_⟩
            obtain ⟨s0, s1, s2, s3, s4⟩ := hW
            go_simp
            rfl
          try simp only [Act.put, List.setIfInBounds_toArray, List.set_cons_zero, List.set_cons_succ]
          refine wpAnyD_takeAt 8 (some 47) (v := ?_) rfl (by kernel_rfl) (by kernel_rfl) (by kernel_rfl) (by kernel_rfl) (by kernel_rfl) (fun _ _ _ h => h) (by exact ⟨k0, k1, k2, k3, k4⟩) (fun o hop => ?_) ?_
          rotate_left
          · injection hop with hop
            subst hop
            refine ⟨rfl, fun W hW => ?_⟩
            obtain ⟨s0, s1, s2, s3, s4⟩ := hW
            go_simp
            rfl
          try simp only [Act.put, List.setIfInBounds_toArray, List.set_cons_zero, List.set_cons_succ]
          refine wpAnyD_takeAt 9 (some 48) (v := ?_) rfl (by kernel_rfl) (by kernel_rfl) (by kernel_rfl) (by kernel_rfl) (by kernel_rfl) (fun _ _ _ h => h) (by exact ⟨k0, k1, k2, k3, k4⟩) (fun o hop => ?_) ?_
          rotate_left
          · injection hop with hop
            subst hop
            refine ⟨rfl, fun W hW => ?_⟩
            obtain ⟨s0, s1, s2, s3, s4⟩ := hW
            go_simp
            rfl
          try simp only [Act.put, List.setIfInBounds_toArray, List.set_cons_zero, List.set_cons_succ]
          refine wpAnyD_takeAt 11 (some 50) (v := ?_) rfl (by kernel_rfl) (by kernel_rfl) (by kernel_rfl) (by kernel_rfl) (by kernel_rfl) (fun _ _ _ h => h) (by exact ⟨k0, k1, k2, k3, k4⟩) (fun o hop => ?_) ?_
          rotate_left
          · injection hop with hop
            subst hop
            refine ⟨rfl, fun W hW => ?_⟩
            obtain ⟨s0, s1, s2, s3, s4⟩ := hW
            go_simp
            rfl
          try simp only [Act.put, List.setIfInBounds_toArray, List.set_cons_zero, List.set_cons_succ]
          refine wpAnyD_takeAt 12 (some 51) (v := ?_) rfl (by kernel_rfl) (by kernel_rfl) (by kernel_rfl) (by kernel_rfl) (by kernel_rfl) (fun _ _ _ h => h) (by exact ⟨k0, k1, k2, k3, k4⟩) (fun o hop => ?_) ?_
          rotate_left
          · injection hop with hop
            subst hop
            refine ⟨rfl, fun W hW => ?_⟩
            obtain ⟨s0, s1, s2, s3, s4⟩ := hW
            go_simp
            rfl
          try simp only [Act.put, List.setIfInBounds_toArray, List.set_cons_zero, List.set_cons_succ]
          refine wpAnyT_one (i := 4) (by kernel_rfl) rfl rfl (fun K' hK => ?_)
          go_simp
          go_at_call 48
          refine HB1.out.mono ?_
          rintro e w1 ⟨rfl, rfl⟩
          refine hK.out _ _ (fun _ => ⟨k0, k1, k2, k3, k4⟩) ?_
          clear hK K'
          refine wpAnyT_one (i := 7) (by kernel_rfl) rfl rfl (fun K' hK => ?_)
          go_simp
          go_at_call 48
          refine HB2.out.mono ?_
          rintro e w1 ⟨rfl, rfl⟩
          refine hK.out _ _ (fun _ => ⟨k0, k1, k2, k3, k4⟩) ?_
          clear hK K'
          refine wpAnyT_one (i := 10) (by kernel_rfl) rfl rfl (fun K' hK => ?_)
          go_simp
          go_at_call 49
          refine (HI1.out WL.drew).mono ?_
          rintro e w1 ⟨rfl, rfl⟩
          refine hK.out _ _ (fun _ => ⟨k0, k1, k2, k3, k4⟩) ?_
          clear hK K'
          refine wpAnyT_one (i := 13) (by kernel_rfl) rfl rfl (fun K' hK => ?_)
          go_simp
          go_at_call 49
          refine (HI2.out WL.drew).mono ?_
          rintro e w1 ⟨rfl, rfl⟩
          refine hK.out _ _ (fun _ => ⟨k0, k1, k2, k3, k4⟩) ?_
          clear hK K'
          refine wpAnyT_one (i := 14) (by kernel_rfl) rfl rfl (fun K' hK => ?_)
          go_simp
          refine hK.out _ _ (fun _ => HS.out _) ?_
          clear hK K'
          refine wpAnyT_one (i := 15) (by kernel_rfl) rfl rfl (fun K' hK => ?_)
          go_simp
          go_at_call 47
          refine HLN.out.mono ?_
          rintro e w2 ⟨rfl, htl⟩
          refine hK.out _ _ (fun h => absurd rfl h) ?_
          clear hK K'
          refine wpAnyT_done (by kernel_rfl) ?_ _
          have HTL2 := hide' htl
          clear htl HB1 HB2 HI1 HI2 HLN HS HL0 HGL k0 k1 k2 k3 k4
          go_wp2
          exact ⟨⟨k + 1, by go_num, by omega, HTL2⟩, by simp [intOf]; omega⟩
        · have HTL1 : Hid (Tl w wr N (.slice ab N.buses.length cb) (.slice al N.lines.length cl) (.slice ag 0 cg) (.slice ad 0 cd) (.slice at' N.ties.length ct) (told3 N)) := by
            have := HTL.out
            rwa [take_all _ _ _ hk hlt] at this
          obtain ⟨c1, c2, c3, c4, c5⟩ := cells32 HTL.out.net
          clear HTL
          go_wp2_with fail
          clear hlt hk c1 c2
          go_loopw [59] (fun si W => si = .int .i64 0 ∧ W = wr) (fun _ _ => 0)
          case atStart => exact ⟨rfl, rfl⟩
          case round =>
            obtain ⟨rfl, rfl⟩ := hrel
            go_wp2_with fail
            go_loopw [83] (fun si W => si = .int .i64 0 ∧ W = wr) (fun _ _ => 0)
            case atStart => exact ⟨rfl, rfl⟩
            case round =>
              obtain ⟨rfl, rfl⟩ := hrel
              go_wp2_with fail
              clear c3 c4 c5
              go_loopw [101] (fun si wr => ∃ k : Nat, si = .int .i64 k ∧ k ≤ N.ties.length ∧ Hid (Tl w wr N (.slice ab N.buses.length cb) (.slice al N.lines.length cl) (.slice ag 0 cg) (.slice ad 0 cd) (.slice at' N.ties.length ct) (told3 N ++ (N.ties.take k).map (wordsTie N)))) (fun si _ => N.ties.length - (intOf si).toNat)
              case atStart => exact ⟨0, rfl, Nat.zero_le _, by have := HTL1.out; rwa [← List.append_nil (told3 N)] at this⟩
              case round =>
                clear HTL1
                obtain ⟨k, rfl, hk, HTL⟩ := hrel
                by_cases hlt : k < N.ties.length
                · obtain ⟨bx, ox, rfl, hx⟩ := elem_cells (f := TieM.cells) (sz := 4) (fun _ => rfl) HO.out.ht k hlt (by decide)
                  have hg := HG.out.ties _ (List.getElem_mem hlt)
                  obtain ⟨L, hL⟩ : ∃ L, L = N.ties[k] := ⟨_, rfl⟩
                  rw [← hL] at hx hg
                  have kp : ∀ {p v}, w.cell? p = some v → wr.cell? p = some v := fun h => (HTL.out.bel.cell (World.block_lt_of_cell? w _ h)).trans h
                  have e0 : wr.cell? ⟨bx, ox + k * 4, none⟩ = some (.string L.name) := kp (hx 0 _ rfl)
                  have e1 : wr.cell? ⟨bx, ox + k * 4 + 1, none⟩ = some (.int .i64 L.frm) := kp (hx 1 _ rfl)
                  have e2 : wr.cell? ⟨bx, ox + k * 4 + 2, none⟩ = some (.int .i64 L.to) := kp (hx 2 _ rfl)
                  have e3 : wr.cell? ⟨bx, ox + k * 4 + 3, none⟩ = some (.bool L.closed) := kp (hx 3 _ rfl)
                  have HGL := hide' hg
                  have HL0 := hide' hL
                  clear hx hg kp hL
                  have hbl : ∀ o, Below wr.heap.size wr (wr.alloc o).drew := fun o => ((Below.refl _ wr).alloc (Nat.le_refl _) o).drew
                  have hB1 := HTL.out.bus HO.out.hb (hbl (.cells #[.string L.name, .int .i64 L.frm, .int .i64 L.to, .bool L.closed] 58)) L.frm HGL.out.1 HGL.out.2.1
                  have hB2 := HTL.out.bus HO.out.hb (hbl (.cells #[.string L.name, .int .i64 L.frm, .int .i64 L.to, .bool L.closed] 58)) L.to HGL.out.2.2.1 HGL.out.2.2.2.1
                  have hI1 := state_any L.closed
                  have hln := HTL.out.line (hbl (.cells #[.string L.name, .int .i64 L.frm, .int .i64 L.to, .bool L.closed] 58)) (wordsTie N N.ties[k]) (n := 5) rfl rfl (by rw [take_snoc (told3 N) (wordsTie N) N.ties k hlt]; exact take_le HT3.out _) (by decide)
                  rw [take_snoc (told3 N) (wordsTie N) N.ties k hlt, ← HL0.out] at hln
                  clear hbl
                  go_wp2_with fail
                  obtain ⟨WL, hWL⟩ : ∃ WL, WL = wr.alloc (.cells #[.string L.name, .int .i64 L.frm, .int .i64 L.to, .bool L.closed] 58) := ⟨_, rfl⟩
                  have k0 : WL.cell? ⟨wr.heap.size, 0, none⟩ = some (.string L.name) := by rw [hWL]; simp [go_sem]
                  have k1 : WL.cell? ⟨wr.heap.size, 1, none⟩ = some (.int .i64 L.frm) := by rw [hWL]; simp [go_sem]
                  have k2 : WL.cell? ⟨wr.heap.size, 2, none⟩ = some (.int .i64 L.to) := by rw [hWL]; simp [go_sem]
                  have k3 : WL.cell? ⟨wr.heap.size, 3, none⟩ = some (.bool L.closed) := by rw [hWL]; simp [go_sem]
                  rw [← hWL] at hB1 hB2 hln ⊢
                  have hln' : Calls Tryz.prog 47 #[.pointer (some ⟨w.heap.size + 1, 0, none⟩), .slice (some ⟨WL.heap.size, 0, none⟩) 5 5] (WL.drew.alloc (.cells #[.string ⟨#[116, 105, 101]⟩, .string L.name, .string (busAt N L.frm), .string (busAt N L.to), .string (if L.closed then kClosed else kOpen)] 9)) _ := hln
                  have HB1 := hide' hB1
                  have HB2 := hide' hB2
                  have HI1 := hide' hI1
                  have HLN := hide' hln'
                  have hsame : ∀ o, (WL.drew.alloc o).cell? ⟨wr.heap.size, 0, none⟩ = some (.string L.name) ∧ (WL.drew.alloc o).cell? ⟨wr.heap.size, 1, none⟩ = some (.int .i64 L.frm) ∧ (WL.drew.alloc o).cell? ⟨wr.heap.size, 2, none⟩ = some (.int .i64 L.to) ∧ (WL.drew.alloc o).cell? ⟨wr.heap.size, 3, none⟩ = some (.bool L.closed) := fun o => ⟨later (W := WL.drew) k0 o, later (W := WL.drew) k1 o, later (W := WL.drew) k2 o, later (W := WL.drew) k3 o⟩
                  have HS := hide' hsame
                  clear hB1 hB2 hI1 hln hln' hWL hsame e0 e1 e2 e3
                  refine wp_region_tail (fun W => W.cell? ⟨wr.heap.size, 0, none⟩ = some (.string L.name) ∧ W.cell? ⟨wr.heap.size, 1, none⟩ = some (.int .i64 L.frm) ∧ W.cell? ⟨wr.heap.size, 2, none⟩ = some (.int .i64 L.to) ∧ W.cell? ⟨wr.heap.size, 3, none⟩ = some (.bool L.closed)) 12 (by kernel_rfl) ?_
                  refine wpAnyD_takeAt 0 (some 105) (v := ?_) rfl (by kernel_rfl) (by kernel_rfl) (by kernel_rfl) (by kernel_rfl) (by kernel_rfl) (fun _ _ _ h => h) (by exact ⟨k0, k1, k2, k3⟩) (fun o hop => ?_) ?_
                  rotate_left
                  · injection hop with hop
                    subst hop
                    refine ⟨rfl, fun W hW => ?_⟩
                    obtain ⟨s0, s1, s2, s3⟩ := hW
                    go_simp
                    rfl
                  try simp only [Act.put, List.setIfInBounds_toArray, List.set_cons_zero, List.set_cons_succ]
                  refine wpAnyD_takeAt 1 (some 106) (v := ?_) rfl (by kernel_rfl) (by kernel_rfl) (by kernel_rfl) (by kernel_rfl) (by kernel_rfl) (fun _ _ _ h => h) (by exact ⟨k0, k1, k2, k3⟩) (fun o hop => ?_) ?_
                  rotate_left
                  · injection hop with hop
                    subst hop
                    refine ⟨rfl, fun W hW => ?_⟩
                    obtain ⟨s0, s1, s2, s3⟩ := hW
                    go_simp
                    rfl
                  try simp only [Act.put, List.setIfInBounds_toArray, List.set_cons_zero, List.set_cons_succ]
                  refine wpAnyD_takeAt 2 (some 107) (v := ?_) rfl (by kernel_rfl) (by kernel_rfl) (by kernel_rfl) (by kernel_rfl) (by kernel_rfl) (fun _ _ _ h => h) (by exact ⟨k0, k1, k2, k3⟩) (fun o hop => ?_) ?_
                  rotate_left
                  · injection hop with hop
                    subst hop
                    refine ⟨rfl, fun W hW => ?_⟩
                    obtain ⟨s0, s1, s2, s3⟩ := hW
                    go_simp
                    rfl
                  try simp only [Act.put, List.setIfInBounds_toArray, List.set_cons_zero, List.set_cons_succ]
                  refine wpAnyD_takeAt 3 (some 108) (v := ?_) rfl (by kernel_rfl) (by kernel_rfl) (by kernel_rfl) (by kernel_rfl) (by kernel_rfl) (fun _ _ _ h => h) (by exact ⟨k0, k1, k2, k3⟩) (fun o hop => ?_) ?_
                  rotate_left
                  · injection hop with hop
                    subst hop
                    refine ⟨rfl, fun W hW => ?_⟩
                    obtain ⟨s0, s1, s2, s3⟩ := hW
                    go_simp
                    rfl
                  try simp only [Act.put, List.setIfInBounds_toArray, List.set_cons_zero, List.set_cons_succ]
                  refine wpAnyD_takeAt 5 (some 110) (v := ?_) rfl (by kernel_rfl) (by kernel_rfl) (by kernel_rfl) (by kernel_rfl) (by kernel_rfl) (fun _ _ _ h => h) (by exact ⟨k0, k1, k2, k3⟩) (fun o hop => ?_) ?_
                  rotate_left
                  · injection hop with hop
                    subst hop
                    refine ⟨rfl, fun W hW => ?_⟩
                    obtain ⟨s0, s1, s2, s3⟩ := hW
                    go_simp
                    rfl
                  try simp only [Act.put, List.setIfInBounds_toArray, List.set_cons_zero, List.set_cons_succ]
                  refine wpAnyD_takeAt 6 (some 111) (v := ?_) rfl (by kernel_rfl) (by kernel_rfl) (by kernel_rfl) (by kernel_rfl) (by kernel_rfl) (fun _ _ _ h => h) (by exact ⟨k0, k1, k2, k3⟩) (fun o hop => ?_) ?_
                  rotate_left
                  · injection hop with hop
                    subst hop
                    refine ⟨rfl, fun W hW => ?_⟩
                    obtain ⟨s0, s1, s2, s3⟩ := hW
                    go_simp
                    rfl
                  try simp only [Act.put, List.setIfInBounds_toArray, List.set_cons_zero, List.set_cons_succ]
                  refine wpAnyD_takeAt 8 (some 113) (v := ?_) rfl (by kernel_rfl) (by kernel_rfl) (by kernel_rfl) (by kernel_rfl) (by kernel_rfl) (fun _ _ _ h => h) (by exact ⟨k0, k1, k2, k3⟩) (fun o hop => ?_) ?_
                  rotate_left
                  · injection hop with hop
                    subst hop
                    refine ⟨rfl, fun W hW => ?_⟩
                    obtain ⟨s0, s1, s2, s3⟩ := hW
                    go_simp
                    rfl
                  try simp only [Act.put, List.setIfInBounds_toArray, List.set_cons_zero, List.set_cons_succ]
                  refine wpAnyD_takeAt 9 (some 114) (v := ?_) rfl (by kernel_rfl) (by kernel_rfl) (by kernel_rfl) (by kernel_rfl) (by kernel_rfl) (fun _ _ _ h => h) (by exact ⟨k0, k1, k2, k3⟩) (fun o hop => ?_) ?_
                  rotate_left
                  · injection hop with hop
                    subst hop
                    refine ⟨rfl, fun W hW => ?_⟩
                    obtain ⟨s0, s1, s2, s3⟩ := hW
                    go_simp
                    rfl
                  try simp only [Act.put, List.setIfInBounds_toArray, List.set_cons_zero, List.set_cons_succ]
                  refine wpAnyT_one (i := 4) (by kernel_rfl) rfl rfl (fun K' hK => ?_)
                  go_simp
                  go_at_call 48
                  refine HB1.out.mono ?_
                  rintro e w1 ⟨rfl, rfl⟩
                  refine hK.out _ _ (fun _ => ⟨k0, k1, k2, k3⟩) ?_
                  clear hK K'
                  refine wpAnyT_one (i := 7) (by kernel_rfl) rfl rfl (fun K' hK => ?_)
                  go_simp
                  go_at_call 48
                  refine HB2.out.mono ?_
                  rintro e w1 ⟨rfl, rfl⟩
                  refine hK.out _ _ (fun _ => ⟨k0, k1, k2, k3⟩) ?_
                  clear hK K'
                  refine wpAnyT_one (i := 10) (by kernel_rfl) rfl rfl (fun K' hK => ?_)
                  go_simp
                  go_at_call 50
                  refine (HI1.out WL.drew).mono ?_
                  rintro e w1 ⟨rfl, rfl⟩
                  refine hK.out _ _ (fun _ => ⟨k0, k1, k2, k3⟩) ?_
                  clear hK K'
                  refine wpAnyT_one (i := 11) (by kernel_rfl) rfl rfl (fun K' hK => ?_)
                  go_simp
                  refine hK.out _ _ (fun _ => HS.out _) ?_
                  clear hK K'
                  refine wpAnyT_one (i := 12) (by kernel_rfl) rfl rfl (fun K' hK => ?_)
                  go_simp
                  go_at_call 47
                  refine HLN.out.mono ?_
                  rintro e w2 ⟨rfl, htl⟩
                  refine hK.out _ _ (fun h => absurd rfl h) ?_
                  clear hK K'
                  refine wpAnyT_done (by kernel_rfl) ?_ _
                  have HTL2 := hide' htl
                  clear htl HB1 HB2 HI1 HLN HS HL0 HGL k0 k1 k2 k3
                  go_wp2
                  exact ⟨⟨k + 1, by go_num, by omega, HTL2⟩, by simp [intOf]; omega⟩
                · have HTL1 : Hid (Tl w wr N (.slice ab N.buses.length cb) (.slice al N.lines.length cl) (.slice ag 0 cg) (.slice ad 0 cd) (.slice at' N.ties.length ct) (toldN N)) := by
                    have := HTL.out
                    rwa [take_all _ _ _ hk hlt, ← toldN_eq] at this
                  have hstr := string_wr _ _ _ _ wr HTL1.out.is (by rw [toldN_eq]; unfold told3 told2 told1 textT; simp)
                  have HSTR := hide' hstr
                  clear HTL hstr
                  go_wp2_with (go_at_call 51; refine HSTR.out.mono ?_; rintro e w3 ⟨rfl, hb3⟩)
                  go_ret
                  exact ⟨rfl, HTL1.out.bel.trans (hb3.mono (Nat.le_succ _))⟩
end Go.Proofs.YtkcldnnopmagjabGreatDoor
