/- Two networks that are the same data are told to be the same. -/
import Derived.Test.YtjmadnpcadidhaaDoorD6
import Derived.Test.YtjmadnpcadidhaaDoorB8
namespace Go.Proofs.YtjmadnpcadidhaaDoor
open Go.RowKit Go.Maps

set_option maxHeartbeats 2000000 in
set_option maxRecDepth 100000 in
theorem sameTexts_same (xs : List ByteArray) (ba oa ca bb ob cb : Nat) (w : World) (hn : xs.length ≤ 1000) (ha : ∀ j x, xs[j]? = some x → w.cell? ⟨ba, oa + j, none⟩ = some (.string x)) (hb : ∀ j x, xs[j]? = some x → w.cell? ⟨bb, ob + j, none⟩ = some (.string x)) :
    Calls Tryd.prog 13 #[.slice (some ⟨ba, oa, none⟩) xs.length ca, .slice (some ⟨bb, ob, none⟩) xs.length cb] w fun e w' => e = .returned (.bool true) ∧ Below w.heap.size w w' := by
  go_enter Tryd.func13, Tryd.ntmps13
  go_wp2
  go_loopw [5] (fun si W => ∃ k : Nat, si = .int .i64 k ∧ k ≤ xs.length ∧ Hid (Below w.heap.size w W)) (fun si _ => xs.length - (intOf si).toNat)
  case atStart => exact ⟨0, rfl, Nat.zero_le _, Below.refl _ _⟩
  case round =>
    obtain ⟨k, rfl, hk, HB⟩ := hrel
    by_cases hlt : k < xs.length
    · have hx : xs[k]? = some xs[k] := List.getElem?_eq_getElem hlt
      have h1 := ha k _ hx
      have h2 := hb k _ hx
      have c1 := (HB.out.cell (p := ⟨ba, oa + k, none⟩) (World.block_lt_of_cell? w _ h1)).trans h1
      have c2 := (HB.out.cell (p := ⟨bb, ob + k, none⟩) (World.block_lt_of_cell? w _ h2)).trans h2
      obtain ⟨x, hxe⟩ : ∃ x, x = xs[k] := ⟨_, rfl⟩
      rw [← hxe] at c1 c2
      clear ha hb hx h1 h2 hxe
      go_wp2
      go_region
      go_wp2
      exact ⟨⟨k + 1, by go_num, by omega, below_drew1 HB.out⟩, by simp [intOf]; omega⟩
    · clear ha hb
      go_wp2
      go_ret
      exact ⟨rfl, HB.out⟩
set_option maxHeartbeats 800000 in
theorem sameTexts_nil (a b : Option Addr) (ca cb : Nat) (w : World) :
    Calls Tryd.prog 13 #[.slice a 0 ca, .slice b 0 cb] w fun e w' => e = .returned (.bool true) ∧ Below w.heap.size w w' := by
  go_enter Tryd.func13, Tryd.ntmps13
  go_wp2
  go_loopw [5] (fun si W => si = .int .i64 0 ∧ W = w) (fun _ _ => 0)
  case atStart => exact ⟨rfl, rfl⟩
  case round =>
    obtain ⟨rfl, rfl⟩ := hrel
    go_wp2
    go_ret
    exact ⟨rfl, Below.refl _ _⟩
theorem sameTexts_any (xs : List ByteArray) (B B' : Nat) (va vb : Value) (w : World) (hn : xs.length ≤ 1000) (ha : w.ownsRow B 9 1 va xs.length (xs.map Value.string)) (hb : w.ownsRow B' 9 1 vb xs.length (xs.map Value.string)) :
    Calls Tryd.prog 13 #[va, vb] w fun e w' => e = .returned (.bool true) ∧ Below w.heap.size w w' := by
  obtain ⟨_, a, ca, rfl, h1⟩ := rowAt_of_own ha
  obtain ⟨_, b, cb, rfl, h2⟩ := rowAt_of_own hb
  clear ha hb
  by_cases h0 : xs.length = 0
  · rw [h0]
    exact sameTexts_nil a b ca cb w
  · have hx : ∀ j x, xs[j]? = some x → (xs.map Value.string)[j]? = some (Value.string x) := fun j x hj => by rw [List.getElem?_map, hj]; rfl
    have h00 : xs[0]? = some xs[0] := List.getElem?_eq_getElem (by omega)
    obtain ⟨ba, oa, rfl, _⟩ := h1 0 _ (hx 0 _ h00)
    obtain ⟨bb, ob, rfl, _⟩ := h2 0 _ (hx 0 _ h00)
    refine sameTexts_same xs ba oa ca bb ob cb w hn (fun j x hj => ?_) (fun j x hj => ?_)
    · obtain ⟨b', o', e, hc⟩ := h1 j _ (hx j x hj)
      cases e
      exact hc
    · obtain ⟨b', o', e, hc⟩ := h2 j _ (hx j x hj)
      cases e
      exact hc

/-- Two networks in their boxes, both the same data. -/
structure Two (W : World) (p q : Nat) (N : NetM) (b1 l1 g1 d1 t1 b2 l2 g2 d2 t2 : Value) : Prop where
  hp : W.heap[p]? = some (.cells #[.string N.name, b1, l1, g1, d1, t1] 28 (0, 0))
  hq : W.heap[q]? = some (.cells #[.string N.name, b2, l2, g2, d2, t2] 28 (0, 0))
  o1 : Owns W 0 b1 l1 g1 d1 t1 N
  o2 : Owns W 0 b2 l2 g2 d2 t2 N
theorem Two.later {W W' : World} {p q : Nat} {N : NetM} {b1 l1 g1 d1 t1 b2 l2 g2 d2 t2 : Value} (h : Two W p q N b1 l1 g1 d1 t1 b2 l2 g2 d2 t2) (hb : Below W.heap.size W W') : Two W' p q N b1 l1 g1 d1 t1 b2 l2 g2 d2 t2 :=
  ⟨(hb.block p (Array.getElem?_eq_some_iff.1 h.hp).1).trans h.hp, (hb.block q (Array.getElem?_eq_some_iff.1 h.hq).1).trans h.hq,
   ⟨own_below h.o1.hb hb (Nat.le_refl _), own_below h.o1.hl hb (Nat.le_refl _), own_below h.o1.hg hb (Nat.le_refl _), own_below h.o1.hd hb (Nat.le_refl _), own_below h.o1.ht hb (Nat.le_refl _)⟩,
   ⟨own_below h.o2.hb hb (Nat.le_refl _), own_below h.o2.hl hb (Nat.le_refl _), own_below h.o2.hg hb (Nat.le_refl _), own_below h.o2.hd hb (Nat.le_refl _), own_below h.o2.ht hb (Nat.le_refl _)⟩⟩
/-- The cells of element k. -/
theorem elem_cells {α : Type} {w : World} {f : α → List Value} {B e sz n cap : Nat} {a : Option Addr} {xs : List α} (hf : ∀ x, (f x).length = sz) (h : w.ownsRow B e sz (.slice a n cap) xs.length (xs.flatMap f)) (k : Nat) (hk : k < xs.length) (h0 : 0 < sz) :
    ∃ b off, a = some ⟨b, off, none⟩ ∧ ∀ j v, (f xs[k])[j]? = some v → w.cell? ⟨b, off + k * sz + j, none⟩ = some v := by
  obtain ⟨_, a', cap', e', hc⟩ := rowAt_of_own h
  cases e'
  have hlen := hf xs[k]
  obtain ⟨v0, hv0⟩ : ∃ v0, (f xs[k])[0]? = some v0 := ⟨(f xs[k])[0]'(by omega), List.getElem?_eq_getElem (by omega)⟩
  have e0 := flat_get f sz hf xs k 0 hk h0
  rw [hv0] at e0
  obtain ⟨b, off, rfl, _⟩ := hc _ _ e0
  refine ⟨b, off, rfl, fun j v hj => ?_⟩
  have hjlt : j < sz := by rw [← hlen]; exact (List.getElem?_eq_some_iff.1 hj).1
  have e1 := flat_get f sz hf xs k j hk hjlt
  rw [hj] at e1
  obtain ⟨b', off', e2, hcell⟩ := hc _ _ e1
  cases e2
  rwa [Nat.add_assoc]

set_option maxHeartbeats 4000000 in
set_option maxRecDepth 100000 in
theorem sameNet_any (N : NetM) (B1 B2 : Nat) (b1 l1 g1 d1 t1 b2 l2 g2 d2 t2 : Value) (w : World) (hf : Fits N) (h1 : Owns w B1 b1 l1 g1 d1 t1 N) (h2 : Owns w B2 b2 l2 g2 d2 t2 N) :
    Calls Tryd.prog 6 #[.agg #[.string N.name, b1, l1, g1, d1, t1], .agg #[.string N.name, b2, l2, g2, d2, t2]] w fun e w' => e = .returned (.bool true) ∧ Below w.heap.size w w' := by
  obtain ⟨ab1, cb1, rfl⟩ := own_slice h1.hb
  obtain ⟨al1, cl1, rfl⟩ := own_slice h1.hl
  obtain ⟨ag1, cg1, rfl⟩ := own_slice h1.hg
  obtain ⟨ad1, cd1, rfl⟩ := own_slice h1.hd
  obtain ⟨at1, ct1, rfl⟩ := own_slice h1.ht
  obtain ⟨ab2, cb2, rfl⟩ := own_slice h2.hb
  obtain ⟨al2, cl2, rfl⟩ := own_slice h2.hl
  obtain ⟨ag2, cg2, rfl⟩ := own_slice h2.hg
  obtain ⟨ad2, cd2, rfl⟩ := own_slice h2.hd
  obtain ⟨at2, ct2, rfl⟩ := own_slice h2.ht
  obtain ⟨W, hW⟩ : ∃ W, W = (w.alloc (.cells #[.string N.name, .slice ab1 N.buses.length cb1, .slice al1 N.lines.length cl1, .slice ag1 N.gens.length cg1, .slice ad1 N.loads.length cd1, .slice at1 N.ties.length ct1] 28)).alloc (.cells #[.string N.name, .slice ab2 N.buses.length cb2, .slice al2 N.lines.length cl2, .slice ag2 N.gens.length cg2, .slice ad2 N.loads.length cd2, .slice at2 N.ties.length ct2] 28) := ⟨_, rfl⟩
  have hbW : Below w.heap.size w W := by rw [hW]; exact ((Below.refl _ w).alloc (Nat.le_refl _) _).alloc (by simp) _
  have hT : Two W w.heap.size (w.heap.size + 1) N (.slice ab1 N.buses.length cb1) (.slice al1 N.lines.length cl1) (.slice ag1 N.gens.length cg1) (.slice ad1 N.loads.length cd1) (.slice at1 N.ties.length ct1) (.slice ab2 N.buses.length cb2) (.slice al2 N.lines.length cl2) (.slice ag2 N.gens.length cg2) (.slice ad2 N.loads.length cd2) (.slice at2 N.ties.length ct2) := by
    refine ⟨?_, ?_, ⟨own_below (own_base h1.hb (Nat.zero_le _)) hbW (Nat.le_refl _), own_below (own_base h1.hl (Nat.zero_le _)) hbW (Nat.le_refl _), own_below (own_base h1.hg (Nat.zero_le _)) hbW (Nat.le_refl _), own_below (own_base h1.hd (Nat.zero_le _)) hbW (Nat.le_refl _), own_below (own_base h1.ht (Nat.zero_le _)) hbW (Nat.le_refl _)⟩,
      ⟨own_below (own_base h2.hb (Nat.zero_le _)) hbW (Nat.le_refl _), own_below (own_base h2.hl (Nat.zero_le _)) hbW (Nat.le_refl _), own_below (own_base h2.hg (Nat.zero_le _)) hbW (Nat.le_refl _), own_below (own_base h2.hd (Nat.zero_le _)) hbW (Nat.le_refl _), own_below (own_base h2.ht (Nat.zero_le _)) hbW (Nat.le_refl _)⟩⟩
    · rw [hW]
      exact (Below.heap_alloc _ _ _ (by simp)).trans (World.alloc_heap_new w _)
    · rw [hW]
      have := World.alloc_heap_new (w.alloc (.cells #[.string N.name, .slice ab1 N.buses.length cb1, .slice al1 N.lines.length cl1, .slice ag1 N.gens.length cg1, .slice ad1 N.loads.length cd1, .slice at1 N.ties.length ct1] 28)) (.cells #[.string N.name, .slice ab2 N.buses.length cb2, .slice al2 N.lines.length cl2, .slice ag2 N.gens.length cg2, .slice ad2 N.loads.length cd2, .slice at2 N.ties.length ct2] 28)
      rwa [World.size_alloc] at this
  obtain ⟨f1, f2, f3, f4, f5⟩ := hf
  have hcall := sameTexts_any N.buses 0 0 _ _ W (by omega) hT.o1.hb hT.o2.hb
  have HC := hide' hcall
  have HT := hide' hT
  have HB := hide' hbW
  have HW := hide' hW
  obtain ⟨x0, x1, x2, x3, x4, x5, _⟩ := cells28 hT.hp
  obtain ⟨y0, y1, y2, y3, y4, y5, _⟩ := cells28 hT.hq
  clear h1 h2 hcall hT hbW hW
  go_enter Tryd.func6, Tryd.ntmps6
  go_wp2_with (first | (go_at_call 13; go_must (rw [← HW.out]; refine HC.out.mono ?_; rintro e w1 ⟨rfl, hb1⟩; obtain ⟨x0', x1', x2', x3', x4', x5', _⟩ := cells28 (HT.out.later hb1).hp; obtain ⟨y0', y1', y2', y3', y4', y5', _⟩ := cells28 (HT.out.later hb1).hq)))
  have HT1 := hide' (HT.out.later hb1)
  have HB1 := hide' (HB.out.trans (hb1.mono HB.out.size))
  clear HT HB HC HW x0 x1 x2 x3 x4 x5 y0 y1 y2 y3 y4 y5 x0' x1' x2' x3' x4' x5' y0' y1' y2' y3' y4' y5' hb1
  go_loopw [5] (fun si wr => ∃ k : Nat, si = .int .i64 k ∧ k ≤ N.lines.length ∧ Hid (Two wr w.heap.size (w.heap.size + 1) N (.slice ab1 N.buses.length cb1) (.slice al1 N.lines.length cl1) (.slice ag1 N.gens.length cg1) (.slice ad1 N.loads.length cd1) (.slice at1 N.ties.length ct1) (.slice ab2 N.buses.length cb2) (.slice al2 N.lines.length cl2) (.slice ag2 N.gens.length cg2) (.slice ad2 N.loads.length cd2) (.slice at2 N.ties.length ct2)) ∧ Hid (Below w.heap.size w wr)) (fun si _ => N.lines.length - (intOf si).toNat)
  case atStart => exact ⟨0, rfl, Nat.zero_le _, HT1, HB1⟩
  case round =>
    clear HT1 HB1
    obtain ⟨k, rfl, hk, HT, HB⟩ := hrel
    obtain ⟨x0, x1, x2, x3, x4, x5, _⟩ := cells28 HT.out.hp
    obtain ⟨y0, y1, y2, y3, y4, y5, _⟩ := cells28 HT.out.hq
    clear x0 x1 y0 y1 x3 y3 x4 y4 x5 y5
    by_cases hlt : k < N.lines.length
    · obtain ⟨bx, ox, rfl, hx⟩ := elem_cells (f := LineM.cells) (sz := 5) (fun _ => rfl) HT.out.o1.hl k hlt (by decide)
      obtain ⟨bz, oz, rfl, hz⟩ := elem_cells (f := LineM.cells) (sz := 5) (fun _ => rfl) HT.out.o2.hl k hlt (by decide)
      obtain ⟨L, hL⟩ : ∃ L, L = N.lines[k] := ⟨_, rfl⟩
      rw [← hL] at hx hz
      have e0 : wr.cell? ⟨bx, ox + k * 5, none⟩ = some (.string L.name) := hx 0 _ rfl
      have z0 : wr.cell? ⟨bz, oz + k * 5, none⟩ = some (.string L.name) := hz 0 _ rfl
      have e1 : wr.cell? ⟨bx, ox + k * 5 + 1, none⟩ = some (.int .i64 L.frm) := hx 1 _ rfl
      have z1 : wr.cell? ⟨bz, oz + k * 5 + 1, none⟩ = some (.int .i64 L.frm) := hz 1 _ rfl
      have e2 : wr.cell? ⟨bx, ox + k * 5 + 2, none⟩ = some (.int .i64 L.to) := hx 2 _ rfl
      have z2 : wr.cell? ⟨bz, oz + k * 5 + 2, none⟩ = some (.int .i64 L.to) := hz 2 _ rfl
      have e3 : wr.cell? ⟨bx, ox + k * 5 + 3, none⟩ = some (.int .i64 L.worth) := hx 3 _ rfl
      have z3 : wr.cell? ⟨bz, oz + k * 5 + 3, none⟩ = some (.int .i64 L.worth) := hz 3 _ rfl
      have e4 : wr.cell? ⟨bx, ox + k * 5 + 4, none⟩ = some (.int .i64 L.limit) := hx 4 _ rfl
      have z4 : wr.cell? ⟨bz, oz + k * 5 + 4, none⟩ = some (.int .i64 L.limit) := hz 4 _ rfl
      clear hx hz hL
      go_wp2
      go_region
      go_wp2
      exact ⟨⟨k + 1, by go_num, by omega, HT.out.later (below_drew1 (Below.refl _ _)), below_drew1 HB.out⟩, by simp [intOf]; omega⟩
    · have HT1 := HT
      have HB1 := HB
      clear HT HB
      go_wp2_with fail
      clear hlt hk x2 y2
      go_loopw [6] (fun si wr => ∃ k : Nat, si = .int .i64 k ∧ k ≤ N.gens.length ∧ Hid (Two wr w.heap.size (w.heap.size + 1) N (.slice ab1 N.buses.length cb1) (.slice al1 N.lines.length cl1) (.slice ag1 N.gens.length cg1) (.slice ad1 N.loads.length cd1) (.slice at1 N.ties.length ct1) (.slice ab2 N.buses.length cb2) (.slice al2 N.lines.length cl2) (.slice ag2 N.gens.length cg2) (.slice ad2 N.loads.length cd2) (.slice at2 N.ties.length ct2)) ∧ Hid (Below w.heap.size w wr)) (fun si _ => N.gens.length - (intOf si).toNat)
      case atStart => exact ⟨0, rfl, Nat.zero_le _, HT1, HB1⟩
      case round =>
        clear HT1 HB1
        obtain ⟨k, rfl, hk, HT, HB⟩ := hrel
        obtain ⟨x0, x1, x2, x3, x4, x5, _⟩ := cells28 HT.out.hp
        obtain ⟨y0, y1, y2, y3, y4, y5, _⟩ := cells28 HT.out.hq
        clear x0 x1 y0 y1 x2 y2 x4 y4 x5 y5
        by_cases hlt : k < N.gens.length
        · obtain ⟨bx, ox, rfl, hx⟩ := elem_cells (f := GenM.cells) (sz := 5) (fun _ => rfl) HT.out.o1.hg k hlt (by decide)
          obtain ⟨bz, oz, rfl, hz⟩ := elem_cells (f := GenM.cells) (sz := 5) (fun _ => rfl) HT.out.o2.hg k hlt (by decide)
          obtain ⟨L, hL⟩ : ∃ L, L = N.gens[k] := ⟨_, rfl⟩
          rw [← hL] at hx hz
          have e0 : wr.cell? ⟨bx, ox + k * 5, none⟩ = some (.string L.name) := hx 0 _ rfl
          have z0 : wr.cell? ⟨bz, oz + k * 5, none⟩ = some (.string L.name) := hz 0 _ rfl
          have e1 : wr.cell? ⟨bx, ox + k * 5 + 1, none⟩ = some (.int .i64 L.bus) := hx 1 _ rfl
          have z1 : wr.cell? ⟨bz, oz + k * 5 + 1, none⟩ = some (.int .i64 L.bus) := hz 1 _ rfl
          have e2 : wr.cell? ⟨bx, ox + k * 5 + 2, none⟩ = some (.int .i64 L.least) := hx 2 _ rfl
          have z2 : wr.cell? ⟨bz, oz + k * 5 + 2, none⟩ = some (.int .i64 L.least) := hz 2 _ rfl
          have e3 : wr.cell? ⟨bx, ox + k * 5 + 3, none⟩ = some (.int .i64 L.most) := hx 3 _ rfl
          have z3 : wr.cell? ⟨bz, oz + k * 5 + 3, none⟩ = some (.int .i64 L.most) := hz 3 _ rfl
          have e4 : wr.cell? ⟨bx, ox + k * 5 + 4, none⟩ = some (.int .i64 L.cost) := hx 4 _ rfl
          have z4 : wr.cell? ⟨bz, oz + k * 5 + 4, none⟩ = some (.int .i64 L.cost) := hz 4 _ rfl
          clear hx hz hL
          go_wp2
          go_region
          go_wp2
          exact ⟨⟨k + 1, by go_num, by omega, HT.out.later (below_drew1 (Below.refl _ _)), below_drew1 HB.out⟩, by simp [intOf]; omega⟩
        · have HT1 := HT
          have HB1 := HB
          clear HT HB
          go_wp2_with fail
          clear hlt hk x3 y3
          go_loopw [7] (fun si wr => ∃ k : Nat, si = .int .i64 k ∧ k ≤ N.loads.length ∧ Hid (Two wr w.heap.size (w.heap.size + 1) N (.slice ab1 N.buses.length cb1) (.slice al1 N.lines.length cl1) (.slice ag1 N.gens.length cg1) (.slice ad1 N.loads.length cd1) (.slice at1 N.ties.length ct1) (.slice ab2 N.buses.length cb2) (.slice al2 N.lines.length cl2) (.slice ag2 N.gens.length cg2) (.slice ad2 N.loads.length cd2) (.slice at2 N.ties.length ct2)) ∧ Hid (Below w.heap.size w wr)) (fun si _ => N.loads.length - (intOf si).toNat)
          case atStart => exact ⟨0, rfl, Nat.zero_le _, HT1, HB1⟩
          case round =>
            clear HT1 HB1
            obtain ⟨k, rfl, hk, HT, HB⟩ := hrel
            obtain ⟨x0, x1, x2, x3, x4, x5, _⟩ := cells28 HT.out.hp
            obtain ⟨y0, y1, y2, y3, y4, y5, _⟩ := cells28 HT.out.hq
            clear x0 x1 y0 y1 x2 y2 x3 y3 x5 y5
            by_cases hlt : k < N.loads.length
            · obtain ⟨bx, ox, rfl, hx⟩ := elem_cells (f := LoadM.cells) (sz := 3) (fun _ => rfl) HT.out.o1.hd k hlt (by decide)
              obtain ⟨bz, oz, rfl, hz⟩ := elem_cells (f := LoadM.cells) (sz := 3) (fun _ => rfl) HT.out.o2.hd k hlt (by decide)
              obtain ⟨L, hL⟩ : ∃ L, L = N.loads[k] := ⟨_, rfl⟩
              rw [← hL] at hx hz
              have e0 : wr.cell? ⟨bx, ox + k * 3, none⟩ = some (.string L.name) := hx 0 _ rfl
              have z0 : wr.cell? ⟨bz, oz + k * 3, none⟩ = some (.string L.name) := hz 0 _ rfl
              have e1 : wr.cell? ⟨bx, ox + k * 3 + 1, none⟩ = some (.int .i64 L.bus) := hx 1 _ rfl
              have z1 : wr.cell? ⟨bz, oz + k * 3 + 1, none⟩ = some (.int .i64 L.bus) := hz 1 _ rfl
              have e2 : wr.cell? ⟨bx, ox + k * 3 + 2, none⟩ = some (.int .i64 L.power) := hx 2 _ rfl
              have z2 : wr.cell? ⟨bz, oz + k * 3 + 2, none⟩ = some (.int .i64 L.power) := hz 2 _ rfl
              clear hx hz hL
              go_wp2
              go_region
              go_wp2
              exact ⟨⟨k + 1, by go_num, by omega, HT.out.later (below_drew1 (Below.refl _ _)), below_drew1 HB.out⟩, by simp [intOf]; omega⟩
            · have HT1 := HT
              have HB1 := HB
              clear HT HB
              go_wp2_with fail
              clear hlt hk x4 y4
              go_loopw [8] (fun si wr => ∃ k : Nat, si = .int .i64 k ∧ k ≤ N.ties.length ∧ Hid (Two wr w.heap.size (w.heap.size + 1) N (.slice ab1 N.buses.length cb1) (.slice al1 N.lines.length cl1) (.slice ag1 N.gens.length cg1) (.slice ad1 N.loads.length cd1) (.slice at1 N.ties.length ct1) (.slice ab2 N.buses.length cb2) (.slice al2 N.lines.length cl2) (.slice ag2 N.gens.length cg2) (.slice ad2 N.loads.length cd2) (.slice at2 N.ties.length ct2)) ∧ Hid (Below w.heap.size w wr)) (fun si _ => N.ties.length - (intOf si).toNat)
              case atStart => exact ⟨0, rfl, Nat.zero_le _, HT1, HB1⟩
              case round =>
                clear HT1 HB1
                obtain ⟨k, rfl, hk, HT, HB⟩ := hrel
                obtain ⟨x0, x1, x2, x3, x4, x5, _⟩ := cells28 HT.out.hp
                obtain ⟨y0, y1, y2, y3, y4, y5, _⟩ := cells28 HT.out.hq
                clear x0 x1 y0 y1 x2 y2 x3 y3 x4 y4
                by_cases hlt : k < N.ties.length
                · obtain ⟨bx, ox, rfl, hx⟩ := elem_cells (f := TieM.cells) (sz := 4) (fun _ => rfl) HT.out.o1.ht k hlt (by decide)
                  obtain ⟨bz, oz, rfl, hz⟩ := elem_cells (f := TieM.cells) (sz := 4) (fun _ => rfl) HT.out.o2.ht k hlt (by decide)
                  obtain ⟨L, hL⟩ : ∃ L, L = N.ties[k] := ⟨_, rfl⟩
                  rw [← hL] at hx hz
                  have e0 : wr.cell? ⟨bx, ox + k * 4, none⟩ = some (.string L.name) := hx 0 _ rfl
                  have z0 : wr.cell? ⟨bz, oz + k * 4, none⟩ = some (.string L.name) := hz 0 _ rfl
                  have e1 : wr.cell? ⟨bx, ox + k * 4 + 1, none⟩ = some (.int .i64 L.frm) := hx 1 _ rfl
                  have z1 : wr.cell? ⟨bz, oz + k * 4 + 1, none⟩ = some (.int .i64 L.frm) := hz 1 _ rfl
                  have e2 : wr.cell? ⟨bx, ox + k * 4 + 2, none⟩ = some (.int .i64 L.to) := hx 2 _ rfl
                  have z2 : wr.cell? ⟨bz, oz + k * 4 + 2, none⟩ = some (.int .i64 L.to) := hz 2 _ rfl
                  have e3 : wr.cell? ⟨bx, ox + k * 4 + 3, none⟩ = some (.bool L.closed) := hx 3 _ rfl
                  have z3 : wr.cell? ⟨bz, oz + k * 4 + 3, none⟩ = some (.bool L.closed) := hz 3 _ rfl
                  clear hx hz hL
                  go_wp2
                  go_region
                  go_wp2
                  exact ⟨⟨k + 1, by go_num, by omega, HT.out.later (below_drew1 (Below.refl _ _)), below_drew1 HB.out⟩, by simp [intOf]; omega⟩
                · have HT1 := HT
                  have HB1 := HB
                  clear HT HB
                  go_wp2_with fail
                  go_ret
                  exact ⟨rfl, HB1.out⟩
end Go.Proofs.YtjmadnpcadidhaaDoor
