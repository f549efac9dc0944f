/- The raw numbers' own helpers: a number within a range, a small number's form. -/
import Derived.Test.YtjcpcjickdcpmacGreatDoorKWr5
import Derived.Laws.IdiomStrings
import Derived.Test.YtjcpcjickdcpmacGreatDoorKM1
import Derived.Test.YtjcpcjickdcpmacGreatDoorKBrf
import Derived.Laws.BitsLemmas
namespace Go.Proofs.YtjcpcjickdcpmacGreatDoor
open Go.RowKit Go.Shelf

theorem tmod_within (a : Int) (f : Nat) (ha : 0 ≤ a) (hf : 0 < f) : ∃ p : Nat, a.tmod f = p ∧ p < f := by
  have h1 := Int.tmod_nonneg (f : Int) ha
  have h2 := Int.tmod_lt_of_pos a (show (0 : Int) < f by omega)
  exact ⟨(a.tmod f).toNat, (Int.toNat_of_nonneg h1).symm, by omega⟩
set_option maxHeartbeats 1000000 in
theorem picked_any (n : Int) (f : Nat) (w : World) (h0 : -9223372036854775808 ≤ n) (h1 : n ≤ 9223372036854775807) (hf : 0 < f) (hf1 : f ≤ 1000) :
    Calls Tryz.prog 6 #[.int .i64 n, .int .i64 f] w fun e w' => (∃ p : Nat, e = .returned (.int .i64 p) ∧ p < f) ∧ w' = w := by
  have hf0 : ((f : Int) == 0) = false := by simp; omega
  by_cases hn : n < 0
  · obtain ⟨p, hp, hlt⟩ := tmod_within (-(n + 1)) f (by omega) hf
    rw [Int.neg_tmod] at hp
    go_enter Tryz.func6, Tryz.ntmps6
    go_wp2
    go_ret
    exact ⟨⟨p, by first | rfl | rw [hp], hlt⟩, rfl⟩
  · obtain ⟨p, hp, hlt⟩ := tmod_within n f (by omega) hf
    go_enter Tryz.func6, Tryz.ntmps6
    go_wp2
    go_ret
    exact ⟨⟨p, by first | rfl | rw [hp], hlt⟩, rfl⟩

/-- The last digit. -/
def dg (m : Nat) : UInt8 := UInt8.ofNat (48 + m % 10)
/-- A small number's digits. -/
def digs (k : Nat) : List UInt8 := if k < 10 then [UInt8.ofNat (48 + k)] else [UInt8.ofNat (48 + k / 10), UInt8.ofNat (48 + k % 10)]
theorem digs_dec : ∀ u : Nat, u < 100 → digs u = Lib.decDigits u := by decide +kernel
theorem digs_text {k : Nat} (hk : k < 100) : textOf (digs k) = decB k := by
  unfold decB Lib.itoa
  rw [if_neg (by omega), digs_dec k hk]
  rfl
theorem textOf_cons (c : UInt8) (l : List UInt8) : textOf [c] ++ textOf l = textOf (c :: l) := by
  apply ByteArray.ext
  simp [textOf]
set_option maxRecDepth 100000 in
theorem conv_digit (m : Nat) (w : World) : (convert 64 9 (.slice (some ⟨w.heap.size, 0, none⟩) 1 1)).run Tryz.prog (w.alloc (.cells #[.int .u8 (48 + (m : Int) % 10)] 5)) = .ok (.string (textOf [dg m])) (w.alloc (.cells #[.int .u8 (48 + (m : Int) % 10)] 5)) := by
  refine run_convert_bytes_back _ 64 9 5 ⟨w.heap.size, 0, none⟩ 1 [dg m] Tryz.underlying64 Tryz.underlying5 Tryz.underlying9 (fun j hj => ?_)
  have hj0 : j = 0 := by simpa using hj
  subst hj0
  have h2 : ((dg m).toNat : Int) = 48 + (m : Int) % 10 := by
    rw [dg, UInt8.toNat_ofNat']
    omega
  simp only [List.getElem_cons_zero]
  rw [h2]
  simp [go_sem]
/-- How far the digits are told. -/
def DS (k m : Nat) (l : List UInt8) : Prop := (m = k ∧ l = []) ∨ (m = k / 10 ∧ l = [dg k]) ∨ (m = 0 ∧ l = digs k)
theorem DS.next {k m : Nat} {l : List UInt8} (hk : k < 100) (hm : 0 < m) (h : DS k m l) : DS k (m / 10) (dg m :: l) := by
  rcases h with ⟨rfl, rfl⟩ | ⟨rfl, rfl⟩ | ⟨rfl, _⟩
  · exact .inr (.inl ⟨rfl, rfl⟩)
  · refine .inr (.inr ⟨by omega, ?_⟩)
    unfold digs
    rw [if_neg (by omega), dg, dg, Nat.mod_eq_of_lt (show k / 10 < 10 by omega)]
  · omega
theorem DS.last {k : Nat} {l : List UInt8} (h0 : k ≠ 0) (h : DS k 0 l) : l = digs k := by
  rcases h with ⟨rfl, rfl⟩ | ⟨h1, rfl⟩ | ⟨_, rfl⟩
  · exact absurd rfl h0
  · unfold digs
    rw [if_pos (by omega), dg, Nat.mod_eq_of_lt (by omega)]
  · rfl
set_option maxHeartbeats 2000000 in
set_option maxRecDepth 100000 in
theorem dec_any (k : Nat) (hk : k < 100) (w : World) : Calls Tryz.prog 9 #[.int .i64 k] w fun e w' => e = .returned (.string (decB k)) ∧ Below w.heap.size w w' := by
  by_cases h0 : k = 0
  · subst h0
    go_enter Tryz.func9, Tryz.ntmps9
    go_wp2
    go_ret
    refine ⟨?_, Below.refl _ _⟩
    rw [show ((0 : Nat) : Int) = ((0 : Nat) : Int) from rfl, ← digs_text (k := 0) (by omega)]
    rfl
  · have hk0 : ((k : Int) == 0) = false := by simp; omega
    have hkn : decide ((k : Int) < 0) = false := by simp
    go_enter Tryz.func9, Tryz.ntmps9
    go_wp2
    go_loopw [3, 4] (fun s3 s4 W => ∃ (m : Nat) (l : List UInt8), s3 = .string (textOf l) ∧ s4 = .int .i64 m ∧ Hid (DS k m l) ∧ m ≤ 100 ∧ l.length + m ≤ 100 ∧ Hid (Below w.heap.size w W)) (fun _ s4 _ => (intOf s4).toNat)
    case atStart => exact ⟨k, [], rfl, rfl, .inl ⟨rfl, rfl⟩, by omega, by simp; omega, Below.refl _ _⟩
    case round =>
      obtain ⟨m, l, rfl, rfl, HD, hm, hlen, HB⟩ := hrel
      by_cases hm0 : 0 < m
      · have hcv := conv_digit m wr
        have hsz : ¬ 9223372036854775807 < (textOf [dg m]).size + (textOf l).size := by
          rw [size_textOf, size_textOf, List.length_singleton]
          omega
        have hap := textOf_cons (dg m) l
        obtain ⟨tx, htx⟩ : ∃ tx, tx = textOf [dg m] := ⟨_, rfl⟩
        obtain ⟨tl, htl⟩ : ∃ tl, tl = textOf l := ⟨_, rfl⟩
        rw [← htx] at hcv hsz hap
        rw [← htl] at hsz hap ⊢
        have HAP := hide' hap
        clear htx htl hap
        go_wp2
        refine ⟨⟨m / 10, dg m :: l, ?_, ?_, HD.out.next hk hm0, by omega, by simp; omega, HB.out.alloc HB.out.size _⟩, ?_⟩
        · rw [HAP.out]
        · simp
        · simp [intOf]; omega
      · have hm1 : m = 0 := by omega
        subst hm1
        have hl := HD.out.last h0
        clear HD hlen
        go_wp2
        go_ret
        refine ⟨?_, HB.out⟩
        rw [← digs_text hk, ← hl]
        rfl
end Go.Proofs.YtjcpcjickdcpmacGreatDoor

/- Which of so many things a raw number speaks of, told outright. -/
namespace Go.Proofs.YtjcpcjickdcpmacGreatDoor.Bar
open Go.RowKit Go.Shelf

theorem picked_is (n : Int) (f : Nat) (h0 : -9223372036854775808 ≤ n) (h1 : n ≤ 9223372036854775807) (hf : 0 < f) (hf1 : f ≤ 1000) :
    ∃ p : Nat, p < f ∧ ∀ w : World, Calls Tryz.prog 6 #[.int .i64 n, .int .i64 f] w fun e w' => e = .returned (.int .i64 (p : Int)) ∧ w' = w := by
  have hf0 : ((f : Int) == 0) = false := by simp; omega
  by_cases hn : n < 0
  · obtain ⟨p, hp, hlt⟩ := tmod_within (-(n + 1)) f (by omega) hf
    rw [Int.neg_tmod] at hp
    refine ⟨p, hlt, fun w => ?_⟩
    go_enter Tryz.func6, Tryz.ntmps6
    go_wp2
    go_ret
    exact ⟨by first | rfl | rw [hp], rfl⟩
  · obtain ⟨p, hp, hlt⟩ := tmod_within n f (by omega) hf
    refine ⟨p, hlt, fun w => ?_⟩
    go_enter Tryz.func6, Tryz.ntmps6
    go_wp2
    go_ret
    exact ⟨by first | rfl | rw [hp], rfl⟩
end Go.Proofs.YtjcpcjickdcpmacGreatDoor.Bar

/- The keeping law's helpers: how many numbers there are, which lines are out, a tie that is closed. -/
namespace Go.Proofs.YtjcpcjickdcpmacGreatDoor.Bar
open Go.RowKit Go.Shelf Doc

theorem row_of_own4 {w : World} {B g n : Nat} {xs : List Value} (h : w.ownsRow B 4 1 (.slice (some ⟨g, 0, none⟩) n n) n xs) : w.heap[g]? = some (.cells xs.toArray 4 (0, 0)) := by
  rcases h.2 with ⟨h1, _⟩ | ⟨g', cap, cur, h1, _, h2, _, _, h3, h4⟩
  · cases h1
  · cases h1
    rw [h2]
    have : cur = xs.toArray := by
      rw [← h4, List.take_of_length_le (by rw [Array.length_toList, h3]; exact Nat.le_refl _)]
    rw [this]
theorem made_false (n : Nat) : (madeCells (Value.bool false).cells (n * 1)).toList = List.replicate n (.bool false) := by
  apply List.ext_getElem
  · simp [madeCells]
  · intro i h1 h2
    simp [madeCells, Value.cells, Nat.mod_one]
/-- Which lines are out, at work. -/
structure OSt (w W : World) (g : Array Value) (o : List Bool) : Prop where
  bx : NBx w W g
  hF : W.heap[w.heap.size + 1]? = some (.cells (o.map Value.bool).toArray 4 (0, 0))
theorem OSt.set {w W : World} {g : Array Value} {o : List Bool} (h : OSt w W g o) (k : Nat) (x : Bool) : OSt w (W.setCell ⟨w.heap.size + 1, k, none⟩ (.bool x)) g (o.set k x) := by
  refine ⟨⟨h.bx.bel.setCell (p := ⟨w.heap.size + 1, k, none⟩) (Nat.le_succ _) _, (Below.heap_setCell _ _ _ _ (Nat.ne_of_lt (Nat.lt_succ_self _))).trans h.bx.box⟩, ?_⟩
  rw [set_any h.hF k (.bool x)]
  congr 2
  apply Array.ext'
  simp [List.map_set]
theorem OSt.cell {w W : World} {g : Array Value} {o : List Bool} (h : OSt w W g o) {k : Nat} (hk : k < o.length) : W.cell? ⟨w.heap.size + 1, k, none⟩ = some (.bool (o.getD k false)) ∧ W.frozen? ⟨w.heap.size + 1, k, none⟩ = false := by
  refine ⟨?_, by simp [World.frozen?, h.hF]⟩
  simp only [World.cell?, h.hF]
  show (o.map Value.bool).toArray[k]? = _
  rw [List.getElem?_toArray, List.getElem?_map, List.getD_eq_getElem?_getD, List.getElem?_eq_getElem hk]
  rfl
theorem OSt.row {w W : World} {g : Array Value} {o : List Bool} {n : Nat} (h : OSt w W g o) (hn : o.length = n) : RowAt W (.slice (some ⟨w.heap.size + 1, 0, none⟩) n n) o.length 1 (o.map Value.bool) := by
  subst hn
  refine ⟨by simp, _, _, rfl, fun j u hj => ⟨_, 0, rfl, ?_⟩⟩
  simp only [World.cell?, h.hF]
  show (o.map Value.bool).toArray[0 + j]? = _
  rw [Nat.zero_add, List.getElem?_toArray, hj]

set_option maxRecDepth 100000 in
set_option maxHeartbeats 4000000 in
theorem OutFrom_any (N : NetM) (v outv : Value) (out : List Bool) (w : World) (hx : NetAt w v N) (hfit : Fits N) (ho : RowAt w outv out.length 1 (out.map Value.bool)) :
    Calls Tryz.prog 5 #[v, outv] w fun e w' => ∃ (o : List Bool) (a : Option Addr) (c : Nat), o.length = N.lines.length ∧ e = .returned (.slice a o.length c) ∧ RowAt w' (.slice a o.length c) o.length 1 (o.map Value.bool) ∧ Below w.heap.size w w' := by
  obtain ⟨vb, vl, vg, vd, vt, rfl, hb, hl, hg, hd, ht⟩ := hx
  obtain ⟨ab, cb, rfl⟩ := rowAt_slice hb
  obtain ⟨al, cl, rfl⟩ := rowAt_slice hl
  obtain ⟨ag, cg, rfl⟩ := rowAt_slice hg
  obtain ⟨ad, cd, rfl⟩ := rowAt_slice hd
  obtain ⟨at', ct, rfl⟩ := rowAt_slice ht
  have HO := hide' ho
  obtain ⟨ao, co, rfl⟩ := rowAt_slice ho
  have hll16 : N.lines.length ≤ 30 := hfit.2.1
  obtain ⟨i4, hi4, hyy0, hyy1, hyy2⟩ := info_parts Tryz.info4
  clear hb hl hg hd ht ho hfit
  go_enter Tryz.func5, Tryz.ntmps5
  go_wp2_with (at_make; refine wpList_make_full _ rfl _ _ 26 rfl (w.heap.size + 1) 4 i4 (.bool false) 1 Tryz.underlying26' hi4 hyy0 hyy1 .i64 .i64 _ _ N.lines.length rfl rfl rfl rfl (by rw [hyy2]; omega) (by unfold maxLen; omega) (by simp) ?_; intro w1 hown1 hg1; refine Still.go ?_)
  unfold Still
  have HST : Hid (OSt w w1 #[.string N.name, .slice ab N.buses.length cb, .slice al N.lines.length cl, .slice ag N.gens.length cg, .slice ad N.loads.length cd, .slice at' N.ties.length ct] (List.replicate N.lines.length false)) := by
    have h1 := row_of_own4 hown1
    rw [World.size_alloc, made_false] at h1
    refine ⟨⟨((Below.refl _ w).alloc (Nat.le_refl _) _).grown hg1 (by simp) (fun k e => by cases e), (hg1.block _ (by simp) (fun e => by cases e)).trans (World.alloc_heap_new w _)⟩, ?_⟩
    rw [h1, List.map_replicate]
  clear hown1 hg1
  go_wp2_with fail
  go_loopw [6] (fun i wr => ∃ (k : Nat) (o : List Bool), i = .int .i64 k ∧ k ≤ N.lines.length ∧ o.length = N.lines.length ∧ Hid (OSt w wr #[.string N.name, .slice ab N.buses.length cb, .slice al N.lines.length cl, .slice ag N.gens.length cg, .slice ad N.loads.length cd, .slice at' N.ties.length ct] o)) (fun i _ => N.lines.length - (intOf i).toNat)
  case atStart => exact ⟨0, _, rfl, Nat.zero_le _, List.length_replicate, HST⟩
  case round =>
    clear HST
    obtain ⟨k, o, rfl, hk, hol2, HS⟩ := hrel
    have HOL := hide' hol2
    clear hol2
    by_cases hlt : k < N.lines.length
    · by_cases hlo : k < out.length
      · obtain ⟨bo, oo, co', exo, hbo, hco⟩ := Row1.cell HO.out k hlo
        cases exo
        have d3 := (HS.out.bx.bel.cell (World.block_lt_of_cell? w _ hco)).trans hco
        obtain ⟨x, hx⟩ : ∃ x, x = out.getD k false := ⟨_, rfl⟩
        rw [← hx] at d3
        obtain ⟨cK, fK⟩ := HS.out.cell (k := k) (by rw [HOL.out]; exact hlt)
        obtain ⟨y, hy⟩ : ∃ y, y = o.getD k false := ⟨_, rfl⟩
        rw [← hy] at cK
        clear hco hbo hx hy
        go_wp2
        go_roundw
        case rel => exact ⟨k + 1, o.set k x, by go_num, by omega, by rw [List.length_set]; exact HOL.out, HS.out.set k x⟩
        case measure => simp [intOf]; omega
      · go_wp2
        go_ret
        exact ⟨o, _, _, HOL.out, by rw [HOL.out]; rfl, by rw [← HOL.out]; exact HS.out.row rfl, HS.out.bx.bel⟩
    · have hkn : k = N.lines.length := by omega
      go_wp2
      go_ret
      exact ⟨o, _, _, HOL.out, by rw [HOL.out]; rfl, by rw [← HOL.out]; exact HS.out.row rfl, HS.out.bx.bel⟩
end Go.Proofs.YtjcpcjickdcpmacGreatDoor.Bar

/- A raw number's network may be; a tie of it is closed where it lies. -/
namespace Go.Proofs.YtjcpcjickdcpmacGreatDoor.Bar
open Go.RowKit Go.Shelf Doc

theorem good_may {N : NetM} (h : GoodM N) : MayM N := by
  refine { fits := ⟨h.fits.1, h.fits.2.1, by rw [h.gens]; simp, by rw [h.loads]; simp, h.fits.2.2⟩, names := h.names, nodup := h.nodup, lines := (fun l hl => by have := h.lines l hl; omega), gens := (fun x hx => by rw [h.gens] at hx; cases hx), loads := (fun x hx => by rw [h.loads] at hx; cases hx), ties := h.ties, nm := h.nm }
theorem good_small {N : NetM} (h : GoodM N) : SmallM N := by
  have hsz : ∀ x ∈ namesM N, x.size ≤ 2000000 := fun x hx => by have := (h.wordy x (List.mem_cons_of_mem _ hx)).2; omega
  have h1 := h.fits
  refine ⟨by have := (h.wordy N.name (by simp)).2; omega, ⟨by omega, by omega, by rw [h.gens]; simp, by rw [h.loads]; simp, by omega⟩, fun x hx => hsz x ?_, fun x hx => ⟨hsz _ ?_, ?_⟩, fun x hx => ?_, fun x hx => ?_, fun x hx => ⟨hsz _ ?_, ?_⟩⟩
  · simp only [namesM, List.mem_append]; exact .inl (.inl (.inl (.inl hx)))
  · simp only [namesM, List.mem_append]; exact .inl (.inl (.inl (.inr (List.mem_map.2 ⟨x, hx, rfl⟩))))
  · have := h.lines x hx
    unfold I6
    omega
  · rw [h.gens] at hx; cases hx
  · rw [h.loads] at hx; cases hx
  · simp only [namesM, List.mem_append]; exact .inr (List.mem_map.2 ⟨x, hx, rfl⟩)
  · have := h.ties x hx
    unfold I6
    omega
end Go.Proofs.YtjcpcjickdcpmacGreatDoor.Bar

/- The raw network's builder: its state, and what an append to one of its lists leaves. -/
namespace Go.Proofs.YtjcpcjickdcpmacGreatDoor
open Go.RowKit Go.Shelf

def nm (c : UInt8) (k : Nat) : ByteArray := (⟨#[c]⟩ : ByteArray) ++ decB k
/-- The builder at work: the raw value's box, the result's, the network's; its lists are its own. -/
structure Nf (w wr : World) (raw : Array Value) (N : NetM) (b l g d t : Value) : Prop where
  box : wr.heap[w.heap.size + 2]? = some (.cells #[.string N.name, b, l, g, d, t] 33 (0, 0))
  raw : wr.heap[w.heap.size]? = some (.cells raw 25 (0, 0))
  res : wr.heap[w.heap.size + 1]? = some (.cells #[.string ⟨#[]⟩, .slice none 0 0, .slice none 0 0, .slice none 0 0, .slice none 0 0, .slice none 0 0] 33 (0, 0))
  owns : Owns wr (w.heap.size + 3) b l g d t N
  bel : Below w.heap.size w wr
  sz : w.heap.size + 3 ≤ wr.heap.size
section
variable {w W w2 : World} {raw : Array Value} {N : NetM} {b l g d t v v' : Value} {e sz m : Nat} {xs : List Value}
theorem Nf.later (h : Nf w W raw N b l g d t) (hb : Below W.heap.size W w2) : Nf w w2 raw N b l g d t := by
  have hs := h.sz
  have hs2 := hb.size
  exact ⟨(hb.block _ (by omega)).trans h.box, (hb.block _ (by omega)).trans h.raw, (hb.block _ (by omega)).trans h.res, owns_later h.owns hb, h.bel.trans (hb.mono (by omega)), by omega⟩
theorem Nf.cell (h : Nf w W raw N b l g d t) (j : Nat) {u : Value} (hv : (#[.string N.name, b, l, g, d, t] : Array Value)[j]? = some u) : W.cell? ⟨w.heap.size + 2, j, none⟩ = some u := by
  simp only [World.cell?, h.box]
  exact hv
theorem Nf.rawc (h : Nf w W raw N b l g d t) (j : Nat) {u : Value} (hv : raw[j]? = some u) : W.cell? ⟨w.heap.size, j, none⟩ = some u := by
  simp only [World.cell?, h.raw]
  exact hv
theorem Nf.keep (h : Nf w W raw N b l g d t) {p : Addr} {u : Value} (hp : w.cell? p = some u) : W.cell? p = some u := (h.bel.cell (World.block_lt_of_cell? w _ hp)).trans hp
/-- What an append to a list leaves as it was. -/
theorem Nf.grown (h : Nf w W raw N b l g d t) (o : Obj) (hv : W.ownsRow (w.heap.size + 3) e sz v m xs) (hg : (W.alloc o).grownBy w2 v.ownBlock) :
    (∀ k, k < w.heap.size + 3 → w2.heap[k]? = W.heap[k]?) ∧ Below w.heap.size w w2 ∧ w.heap.size + 3 ≤ w2.heap.size ∧ (∀ e' sz' v' m' xs', e' ≠ e → W.ownsRow (w.heap.size + 3) e' sz' v' m' xs' → w2.ownsRow (w.heap.size + 3) e' sz' v' m' xs') := by
  have hblk : ∀ k, k < W.heap.size → some k ≠ v.ownBlock → w2.heap[k]? = W.heap[k]? := fun k hk hne => (hg.block k (by rw [World.size_alloc]; omega) hne).trans (((Below.refl _ W).alloc (Nat.le_refl _) o).block k hk)
  have hrow : ∀ k, some k = v.ownBlock → w.heap.size + 3 ≤ k ∧ ∃ cur, W.heap[k]? = some (.cells cur e (0, 0)) := by
    intro k hk
    rcases hv.2 with ⟨rfl, _⟩ | ⟨g', cap, cur, rfl, h4, h5, _⟩
    · simp [Value.ownBlock] at hk
    · simp only [Value.ownBlock, Option.some.injEq] at hk
      subst hk
      exact ⟨h4, cur, h5⟩
  have hs := h.sz
  have hs2 : W.heap.size ≤ w2.heap.size := by have := hg.size; rw [World.size_alloc] at this; omega
  have h1 : ∀ k, k < w.heap.size + 3 → w2.heap[k]? = W.heap[k]? := fun k hk => hblk k (by omega) fun hk' => by
    have := (hrow k hk').1
    omega
  refine ⟨h1, h.bel.trans ⟨hg.os, hg.tape, hg.output, hs2, fun k hk => h1 k (by omega)⟩, by omega, ?_⟩
  intro e' sz' v' m' xs' hne h'
  refine ⟨h'.1, ?_⟩
  rcases h'.2 with h2 | ⟨g', cap, cur', h3, h4, h5, h6⟩
  · exact .inl h2
  · refine .inr ⟨g', cap, cur', h3, h4, (hblk g' (Array.getElem?_eq_some_iff.1 h5).1 ?_).trans h5, h6⟩
    intro hk
    obtain ⟨_, cur, hc⟩ := hrow g' hk
    rw [h5] at hc; cases hc; exact hne rfl
theorem set_own32 {K j : Nat} {cur : Array Value} {B : Nat} {u : Value} (h : w2.ownsRow B e sz v m xs) (hK : w2.heap[K]? = some (.cells cur 33 (0, 0))) (he : e ≠ 33) : (w2.setCell ⟨K, j, none⟩ u).ownsRow B e sz v m xs :=
  own_block h hK he fun k _ hk => Below.heap_setCell w2 _ _ k hk
theorem Nf.set (h : Nf w W raw N b l g d t) (h1 : ∀ k, k < w.heap.size + 3 → w2.heap[k]? = W.heap[k]?) (h2 : Below w.heap.size w w2) (h3 : w.heap.size + 3 ≤ w2.heap.size) (j : Nat) (u : Value) {N' : NetM} {b' l' g' d' t' : Value}
    (hc : (#[.string N.name, b, l, g, d, t] : Array Value).setIfInBounds j u = #[.string N'.name, b', l', g', d', t']) (ho : Owns w2 (w.heap.size + 3) b' l' g' d' t' N') : Nf w (w2.setCell ⟨w.heap.size + 2, j, none⟩ u) raw N' b' l' g' d' t' := by
  have hK := (h1 (w.heap.size + 2) (by omega)).trans h.box
  refine ⟨?_, ?_, ?_, ⟨set_own32 ho.hb hK (by decide), set_own32 ho.hl hK (by decide), set_own32 ho.hg hK (by decide), set_own32 ho.hd hK (by decide), set_own32 ho.ht hK (by decide)⟩, ?_, ?_⟩
  · have := set_any hK j u
    rwa [hc] at this
  · exact (Below.heap_setCell w2 _ _ _ (by show w.heap.size ≠ w.heap.size + 2; omega)).trans ((h1 _ (by omega)).trans h.raw)
  · exact (Below.heap_setCell w2 _ _ _ (by show w.heap.size + 1 ≠ w.heap.size + 2; omega)).trans ((h1 _ (by omega)).trans h.res)
  · exact h2.setCell (p := ⟨w.heap.size + 2, j, none⟩) (by show w.heap.size ≤ w.heap.size + 2; omega) _
  · rw [World.size_setCell]
    exact h3
theorem Nf.bus (h : Nf w W raw N b l g d t) {o : Obj} {x : ByteArray} (hg : (W.alloc o).grownBy w2 b.ownBlock) (ho : w2.ownsRow (w.heap.size + 3) 9 1 v' (N.buses.length + 1) (N.buses.map Value.string ++ [.string x])) :
    Nf w (w2.setCell ⟨w.heap.size + 2, 1, none⟩ v') raw { N with buses := N.buses ++ [x] } v' l g d t := by
  obtain ⟨h1, h2, h3, h4⟩ := h.grown o h.owns.hb hg
  refine h.set h1 h2 h3 1 v' rfl ⟨?_, h4 _ _ _ _ _ (by decide) h.owns.hl, h4 _ _ _ _ _ (by decide) h.owns.hg, h4 _ _ _ _ _ (by decide) h.owns.hd, h4 _ _ _ _ _ (by decide) h.owns.ht⟩
  have e1 : (N.buses ++ [x]).length = N.buses.length + 1 := by simp
  have e2 : (N.buses ++ [x]).map Value.string = N.buses.map Value.string ++ [.string x] := by simp
  show w2.ownsRow _ 9 1 v' (N.buses ++ [x]).length ((N.buses ++ [x]).map Value.string)
  rw [e1, e2]
  exact ho
theorem Nf.line (h : Nf w W raw N b l g d t) {o : Obj} {x : LineM} (hg : (W.alloc o).grownBy w2 l.ownBlock) (ho : w2.ownsRow (w.heap.size + 3) 49 5 v' (N.lines.length + 1) (N.lines.flatMap LineM.cells ++ x.cells)) :
    Nf w (w2.setCell ⟨w.heap.size + 2, 2, none⟩ v') raw { N with lines := N.lines ++ [x] } b v' g d t := by
  obtain ⟨h1, h2, h3, h4⟩ := h.grown o h.owns.hl hg
  refine h.set h1 h2 h3 2 v' rfl ⟨h4 _ _ _ _ _ (by decide) h.owns.hb, ?_, h4 _ _ _ _ _ (by decide) h.owns.hg, h4 _ _ _ _ _ (by decide) h.owns.hd, h4 _ _ _ _ _ (by decide) h.owns.ht⟩
  have e1 : (N.lines ++ [x]).length = N.lines.length + 1 := by simp
  have e2 : (N.lines ++ [x]).flatMap LineM.cells = N.lines.flatMap LineM.cells ++ x.cells := by simp
  show w2.ownsRow _ 49 5 v' (N.lines ++ [x]).length ((N.lines ++ [x]).flatMap LineM.cells)
  rw [e1, e2]
  exact ho
theorem Nf.tie (h : Nf w W raw N b l g d t) {o : Obj} {x : TieM} (hg : (W.alloc o).grownBy w2 t.ownBlock) (ho : w2.ownsRow (w.heap.size + 3) 47 4 v' (N.ties.length + 1) (N.ties.flatMap TieM.cells ++ x.cells)) :
    Nf w (w2.setCell ⟨w.heap.size + 2, 5, none⟩ v') raw { N with ties := N.ties ++ [x] } b l g d v' := by
  obtain ⟨h1, h2, h3, h4⟩ := h.grown o h.owns.ht hg
  refine h.set h1 h2 h3 5 v' rfl ⟨h4 _ _ _ _ _ (by decide) h.owns.hb, h4 _ _ _ _ _ (by decide) h.owns.hl, h4 _ _ _ _ _ (by decide) h.owns.hg, h4 _ _ _ _ _ (by decide) h.owns.hd, ?_⟩
  have e1 : (N.ties ++ [x]).length = N.ties.length + 1 := by simp
  have e2 : (N.ties ++ [x]).flatMap TieM.cells = N.ties.flatMap TieM.cells ++ x.cells := by simp
  show w2.ownsRow _ 47 4 v' (N.ties ++ [x]).length ((N.ties ++ [x]).flatMap TieM.cells)
  rw [e1, e2]
  exact ho
/-- Behind the append, ahead of the store. -/
theorem Nf.mid (h : Nf w W raw N b l g d t) (o : Obj) (hv : W.ownsRow (w.heap.size + 3) e sz v m xs) (hg : (W.alloc o).grownBy w2 v.ownBlock) (j : Nat) {u : Value} (hu : (#[.string N.name, b, l, g, d, t] : Array Value)[j]? = some u) : w2.cell? ⟨w.heap.size + 2, j, none⟩ = some u ∧ w2.frozen? ⟨w.heap.size + 2, j, none⟩ = false := by
  obtain ⟨h1, _⟩ := h.grown o hv hg
  have hK := (h1 (w.heap.size + 2) (by omega)).trans h.box
  refine ⟨?_, by simp [World.frozen?, hK]⟩
  simp only [World.cell?, hK]
  exact hu
end
end Go.Proofs.YtjcpcjickdcpmacGreatDoor

/- Plain facts: what the raw network's builder tells is a good network. -/
namespace Go.Proofs.YtjcpcjickdcpmacGreatDoor
open Go.RowKit Go.Shelf

def busN (k : Nat) : NetM := ⟨⟨#[110]⟩, (List.range k).map (nm 98), [], [], [], []⟩
theorem busN_snoc (k : Nat) : { busN k with buses := (busN k).buses ++ [nm 98 k] } = busN (k + 1) := by
  simp [busN, List.range_succ]
theorem wrap_small (z : Int) (h0 : -1000000 ≤ z) (h1 : z ≤ 1000000) : IntKind.i64.wrap z = z := by
  rw [IntKind.wrap_i64]
  omega
theorem other_end {bn p1 p2 : Nat} (h1 : p1 < bn) (h2 : p2 < bn - 1) : ∃ q : Nat, ((p1 : Int) + 1 + p2).tmod bn = q ∧ ((p1 : Int) + 1 + p2) % bn = q ∧ q < bn ∧ q ≠ p1 := by
  have e : ((p1 : Int) + 1 + p2) % bn = ((p1 + 1 + p2) % bn : Nat) := by push_cast; rfl
  refine ⟨(p1 + 1 + p2) % bn, ?_, e, Nat.mod_lt _ (by omega), ?_⟩
  · rw [Int.tmod_eq_emod_of_nonneg (by omega), e]
  · by_cases hlt : p1 + 1 + p2 < bn
    · rw [Nat.mod_eq_of_lt hlt]; omega
    · rw [Nat.mod_eq_sub_mod (by omega), Nat.mod_eq_of_lt (by omega)]; omega
/-- A line that the builder tells: number i. -/
def LineOk (bn i : Nat) (x : LineM) : Prop := x.name = nm 108 i ∧ 0 ≤ x.frm ∧ x.frm < bn ∧ 0 ≤ x.to ∧ x.to < bn ∧ x.frm ≠ x.to ∧ 1 ≤ x.worth ∧ x.worth < 100 ∧ x.limit = 0
def TieOk (bn i : Nat) (x : TieM) : Prop := x.name = nm 116 i ∧ 0 ≤ x.frm ∧ x.frm < bn ∧ 0 ≤ x.to ∧ x.to < bn ∧ x.frm ≠ x.to
def AllOk {α : Type} (f : Nat → α → Prop) (xs : List α) : Prop := ∀ (i : Nat) (h : i < xs.length), f i xs[i]
theorem AllOk.nil {α : Type} (f : Nat → α → Prop) : AllOk f [] := fun i h => by simp at h
theorem AllOk.snoc {α : Type} {f : Nat → α → Prop} {xs : List α} {x : α} (h : AllOk f xs) (hx : f xs.length x) : AllOk f (xs ++ [x]) := by
  intro i hi
  by_cases hlt : i < xs.length
  · rw [List.getElem_append_left hlt]
    exact h i hlt
  · have e : i = xs.length := by simp at hi; omega
    subst e
    simpa using hx
def lineN (bn : Nat) (Ls : List LineM) : NetM := { busN bn with lines := Ls }
def tieN (bn : Nat) (Ls : List LineM) (Ts : List TieM) : NetM := { lineN bn Ls with ties := Ts }

theorem bytes_nm (c : UInt8) {k : Nat} (hk : k < 100) : bytesOf (nm c k) = c :: digs k := by
  unfold nm
  rw [← digs_text hk]
  show bytesOf (textOf [c] ++ textOf (digs k)) = _
  rw [textOf_cons, bytesOf_textOf]
theorem names_map {α : Type} (f : α → ByteArray) (c : UInt8) (xs : List α) (h : ∀ (i : Nat) (hi : i < xs.length), f xs[i] = nm c i) : xs.map f = (List.range xs.length).map (nm c) := by
  refine List.ext_getElem (by simp) fun i h1 h2 => ?_
  simp only [List.getElem_map, List.getElem_range]
  exact h i (by simpa using h1)
/-- The names' bytes. -/
def bys (a b c : Nat) : List (List UInt8) := (List.range a).map (fun i => (98 : UInt8) :: digs i) ++ (List.range b).map (fun i => (108 : UInt8) :: digs i) ++ (List.range c).map (fun i => (116 : UInt8) :: digs i)
theorem bys_nodup : (bys 8 12 8).Nodup := by decide +kernel
theorem bys_good : ∀ x ∈ bys 8 12 8, nameL x = true ∧ (!x.isEmpty && x.all (fun c => !blankU c && c != 10 && c != 35)) = true ∧ x.length ≤ 32 := by decide +kernel
theorem bys_sub {a b c : Nat} (ha : a ≤ 8) (hb : b ≤ 12) (hc : c ≤ 8) : (bys a b c).Sublist (bys 8 12 8) :=
  List.Sublist.append (List.Sublist.append ((List.range_sublist.2 ha).map _) ((List.range_sublist.2 hb).map _)) ((List.range_sublist.2 hc).map _)
theorem good_names_eq {bn : Nat} {Ls : List LineM} {Ts : List TieM} (hL : AllOk (LineOk bn) Ls) (hT : AllOk (TieOk bn) Ts) (h8 : bn ≤ 8) (h12 : Ls.length ≤ 12) (ht8 : Ts.length ≤ 8) : (namesM (tieN bn Ls Ts)).map bytesOf = bys bn Ls.length Ts.length := by
  have e : namesM (tieN bn Ls Ts) = (List.range bn).map (nm 98) ++ (List.range Ls.length).map (nm 108) ++ (List.range Ts.length).map (nm 116) := by
    rw [← names_map LineM.name 108 Ls (fun i hi => (hL i hi).1), ← names_map TieM.name 116 Ts (fun i hi => (hT i hi).1)]
    simp [namesM, tieN, lineN, busN]
  have hm : ∀ (c : UInt8) (m : Nat), m ≤ 12 → ((List.range m).map (nm c)).map bytesOf = (List.range m).map (fun i => c :: digs i) := fun c m hm => by
    rw [List.map_map]
    refine List.map_congr_left fun i hi => ?_
    exact bytes_nm c (by have := List.mem_range.1 hi; omega)
  rw [e, List.map_append, List.map_append, hm 98 bn (by omega), hm 108 _ h12, hm 116 _ (by omega)]
  rfl
theorem good_tieN {bn : Nat} {Ls : List LineM} {Ts : List TieM} (h8 : bn ≤ 8) (hL : AllOk (LineOk bn) Ls) (hT : AllOk (TieOk bn) Ts) (h12 : Ls.length ≤ 12) (ht8 : Ts.length ≤ 8) : GoodM (tieN bn Ls Ts) := by
  have hn := good_names_eq hL hT h8 h12 ht8
  have hsub := bys_sub h8 h12 ht8
  have hmem : ∀ x ∈ namesM (tieN bn Ls Ts), bytesOf x ∈ bys 8 12 8 := fun x hx => hsub.subset (by rw [← hn]; exact List.mem_map.2 ⟨x, hx, rfl⟩)
  have hbl : (tieN bn Ls Ts).buses.length = bn := by simp [tieN, lineN, busN]
  have hnm : (tieN bn Ls Ts).name = ⟨#[110]⟩ := rfl
  refine ⟨by rw [hnm]; decide +kernel, rfl, rfl, ⟨by rw [hbl]; omega, ?_, ?_⟩, fun x hx => (bys_good _ (hmem x hx)).1, ?_, ?_, ?_, ?_⟩
  · show Ls.length ≤ 30; omega
  · show Ts.length ≤ 24; omega
  · have h1 : ((namesM (tieN bn Ls Ts)).map bytesOf).Nodup := by rw [hn]; exact bys_nodup.sublist hsub
    exact (List.pairwise_map.1 h1).imp fun h e => h (by rw [e])
  · intro x hx
    rcases List.mem_cons.1 hx with rfl | hx
    · rw [hnm]
      exact ⟨wordy_dec (by decide +kernel), by decide⟩
    · obtain ⟨_, h2, h3⟩ := bys_good _ (hmem x hx)
      rw [length_bytesOf] at h3
      exact ⟨wordy_dec h2, h3⟩
  · intro x hx
    obtain ⟨i, hi, rfl⟩ := List.mem_iff_getElem.1 hx
    obtain ⟨_, c1, c2, c3, c4, c5, c6, c7, c8⟩ := hL i hi
    rw [hbl]
    refine ⟨c1, c2, c3, c4, c5, c6, c7, ?_, ?_⟩
    · show 0 ≤ Ls[i].limit
      omega
    · show Ls[i].limit < 100
      omega
  · intro x hx
    obtain ⟨i, hi, rfl⟩ := List.mem_iff_getElem.1 hx
    obtain ⟨_, c1, c2, c3, c4, c5⟩ := hT i hi
    rw [hbl]
    exact ⟨c1, c2, c3, c4, c5⟩
end Go.Proofs.YtjcpcjickdcpmacGreatDoor

/- The raw network's builder, walked: a good network. -/
namespace Go.Proofs.YtjcpcjickdcpmacGreatDoor
open Go.RowKit Go.Shelf

def I64 (n : Int) : Prop := -9223372036854775808 ≤ n ∧ n ≤ 9223372036854775807
/-- A raw network lies in the world. -/
structure RawAt (w : World) (nb : Int) (a1 : Option Addr) (n1 : Nat) (a2 : Option Addr) (n2 : Nat) : Prop where
  nb : I64 nb
  le1 : n1 ≤ 9223372036854775807
  le2 : n2 ≤ 9223372036854775807
  lines : ∀ k, k < n1 → ∃ b o, a1 = some ⟨b, o, none⟩ ∧ ∃ f t x : Int, I64 f ∧ I64 t ∧ I64 x ∧ w.cell? ⟨b, o + k * 3, none⟩ = some (.int .i64 f) ∧ w.cell? ⟨b, o + k * 3 + 1, none⟩ = some (.int .i64 t) ∧ w.cell? ⟨b, o + k * 3 + 2, none⟩ = some (.int .i64 x)
  ties : ∀ k, k < n2 → ∃ b o, a2 = some ⟨b, o, none⟩ ∧ ∃ (f t : Int) (c : Bool), I64 f ∧ I64 t ∧ w.cell? ⟨b, o + k * 3, none⟩ = some (.int .i64 f) ∧ w.cell? ⟨b, o + k * 3 + 1, none⟩ = some (.int .i64 t) ∧ w.cell? ⟨b, o + k * 3 + 2, none⟩ = some (.bool c)

def nfW (w : World) (nb : Int) (v1 v2 : Value) : World := ((w.alloc (.cells #[.int .i64 nb, v1, v2] 25)).alloc (.cells #[.string ⟨#[]⟩, .slice none 0 0, .slice none 0 0, .slice none 0 0, .slice none 0 0, .slice none 0 0] 33)).alloc (.cells #[.string ⟨#[110]⟩, .slice none 0 0, .slice none 0 0, .slice none 0 0, .slice none 0 0, .slice none 0 0] 33)
def netN : NetM := ⟨⟨#[110]⟩, [], [], [], [], []⟩
theorem nf_start (w : World) (nb : Int) (v1 v2 : Value) : Nf w (nfW w nb v1 v2) #[.int .i64 nb, v1, v2] netN (.slice none 0 0) (.slice none 0 0) (.slice none 0 0) (.slice none 0 0) (.slice none 0 0) := by
  refine ⟨?_, ?_, ?_, ⟨World.ownsRow_nil _ _ _ _, World.ownsRow_nil _ _ _ _, World.ownsRow_nil _ _ _ _, World.ownsRow_nil _ _ _ _, World.ownsRow_nil _ _ _ _⟩, ?_, by simp [nfW]⟩
  · have := World.alloc_heap_new ((w.alloc (.cells #[.int .i64 nb, v1, v2] 25)).alloc (.cells #[.string ⟨#[]⟩, .slice none 0 0, .slice none 0 0, .slice none 0 0, .slice none 0 0, .slice none 0 0] 33)) (.cells #[.string ⟨#[110]⟩, .slice none 0 0, .slice none 0 0, .slice none 0 0, .slice none 0 0, .slice none 0 0] 33)
    rw [World.size_alloc, World.size_alloc] at this
    exact this
  · exact (Below.heap_alloc _ _ _ (by simp; omega)).trans ((Below.heap_alloc _ _ _ (by simp)).trans (World.alloc_heap_new w _))
  · have := World.alloc_heap_new (w.alloc (.cells #[.int .i64 nb, v1, v2] 25)) (.cells #[.string ⟨#[]⟩, .slice none 0 0, .slice none 0 0, .slice none 0 0, .slice none 0 0, .slice none 0 0] 33)
    rw [World.size_alloc] at this
    exact (Below.heap_alloc _ _ _ (by simp)).trans this
  · exact (((Below.refl _ w).alloc (Nat.le_refl _) _).alloc (by simp) _).alloc (by simp; omega) _
theorem undrewB {w w' : World} (h : Below w.drew.heap.size w.drew w') : Below w.heap.size w w' := ⟨h.os, h.tape, h.output, h.size, h.block⟩
theorem Nf.far {w W w2 : World} {raw : Array Value} {N : NetM} {b l g d t v : Value} {e sz m : Nat} {xs : List Value} (h : Nf w W raw N b l g d t) (o : Obj) (hv : W.ownsRow (w.heap.size + 3) e sz v m xs) (hg : (W.alloc o).grownBy w2 v.ownBlock) {p : Addr} {u : Value} (hp : p.block < w.heap.size + 3) (hc : W.cell? p = some u) : w2.cell? p = some u := by
  obtain ⟨h1, _⟩ := h.grown o hv hg
  unfold World.cell? at hc ⊢
  rw [h1 _ hp]
  exact hc
theorem Nf.lenL {w W : World} {raw : Array Value} {N : NetM} {b l g d t : Value} (h : Nf w W raw N b l g d t) {k : Nat} (e : N.lines.length = k) : W.ownsRow (w.heap.size + 3) 49 5 l k (N.lines.flatMap LineM.cells) := by
  have := h.owns.hl
  rwa [e] at this
theorem Nf.lenT {w W : World} {raw : Array Value} {N : NetM} {b l g d t : Value} (h : Nf w W raw N b l g d t) {k : Nat} (e : N.ties.length = k) : W.ownsRow (w.heap.size + 3) 47 4 t k (N.ties.flatMap TieM.cells) := by
  have := h.owns.ht
  rwa [e] at this
theorem Nf.lenB {w W : World} {raw : Array Value} {N : NetM} {b l g d t : Value} (h : Nf w W raw N b l g d t) {k : Nat} (e : N.buses.length = k) : W.ownsRow (w.heap.size + 3) 9 1 b k (N.buses.map Value.string) := by
  have := h.owns.hb
  rwa [e] at this

set_option maxHeartbeats 8000000 in
set_option maxRecDepth 100000 in
theorem NetFrom_any (nb : Int) (a1 a2 : Option Addr) (n1 c1 n2 c2 : Nat) (w : World) (h : RawAt w nb a1 n1 a2 n2) :
    Calls Tryz.prog 4 #[.agg #[.int .i64 nb, .slice a1 n1 c1, .slice a2 n2 c2]] w fun e w' => ∃ N b l g d t, e = .returned (.agg #[.string N.name, b, l, g, d, t]) ∧ (GoodM N ∧ 2 ≤ N.buses.length) ∧ Owns w' w.heap.size b l g d t N ∧ Below w.heap.size w w' := by
  have hst := nf_start w nb (.slice a1 n1 c1) (.slice a2 n2 c2)
  obtain ⟨W, hW⟩ : ∃ W, W = nfW w nb (.slice a1 n1 c1) (.slice a2 n2 c2) := ⟨_, rfl⟩
  rw [← hW] at hst
  unfold nfW at hW
  have HW := hide' hW
  have HST := hide' hst
  have HR := hide' h
  obtain ⟨i0, hi, hz0, hz1, hz2⟩ := info_parts Tryz.info9
  clear hst hW h
  go_enter Tryz.func4, Tryz.ntmps4
  go_wp2_with (go_at_call 6; refine (picked_any nb 7 _ HR.out.nb.1 HR.out.nb.2 (by decide) (by decide)).mono ?_; rintro e w1 ⟨⟨p, rfl, hp⟩, rfl⟩)
  rw [← HW.out]
  obtain ⟨bn, hbn⟩ : ∃ bn : Nat, (bn : Int) = 2 + p := ⟨2 + p, by omega⟩
  have hb2 : 2 ≤ bn := by omega
  have hb8 : bn ≤ 8 := by omega
  rw [← hbn]
  obtain ⟨K, hK⟩ : ∃ K, K = w.heap.size + 1 + 1 := ⟨_, rfl⟩
  rw [← hK]
  have HK := hide' hK
  clear hK hbn hp HW
  obtain ⟨rw0, hrw⟩ : ∃ r : Array Value, r = #[.int .i64 nb, .slice a1 n1 c1, .slice a2 n2 c2] := ⟨_, rfl⟩
  rw [← hrw] at HST
  have HRW := hide' hrw
  clear hrw
  go_loopw [5] (fun si wr => ∃ (k : Nat) (b : Value), si = .int .i64 k ∧ k ≤ bn ∧ Hid (Nf w wr rw0 (busN k) b (.slice none 0 0) (.slice none 0 0) (.slice none 0 0) (.slice none 0 0))) (fun si _ => bn - (intOf si).toNat)
  case atStart => exact ⟨0, _, rfl, Nat.zero_le _, HST⟩
  case round =>
    clear HST
    obtain ⟨k, b, rfl, hk, HN⟩ := hrel
    by_cases hlt : k < bn
    · have e0 : (busN k).buses.length = k := by simp [busN]
      obtain ⟨ab, cb, rfl⟩ := own_slice HN.out.owns.hb
      rw [e0] at HN
      have q1 : wr.cell? ⟨K, 1, none⟩ = some (.slice ab k cb) := by rw [HK.out]; exact HN.out.cell 1 rfl
      have hdec := dec_any k (by omega) wr.drew
      have hsz : ¬ 9223372036854775807 < 1 + (decB k).size := by
        have := (decB_small (v := k) (by omega) (by omega)).2.2
        rw [length_bytesOf] at this
        omega
      have HD := hide' hdec
      have HSZ := hide' hsz
      have HE0 := hide' e0
      clear hdec hsz e0
      go_wp2_with fail
      refine wp_region_tail (fun W => W.cell? ⟨K, 1, none⟩ = some (.slice ab k cb)) 8 (by kernel_rfl) ?_
      refine wpAnyD_takeAt 0 (some 20) (v := ?_) rfl (by kernel_rfl) (by kernel_rfl) (by kernel_rfl) (by kernel_rfl) (by kernel_rfl) (fun _ _ _ h => h) (by exact q1) (fun o hop => ?_) ?_
      rotate_left
      · injection hop with hop
        subst hop
        refine ⟨rfl, fun W hW => ?_⟩
        have s0 := hW
        go_simp
        rfl
      try simp only [Act.put, List.setIfInBounds_toArray, List.set_cons_zero, List.set_cons_succ]
      refine wpAnyD_takeAt 1 (some 21) (v := ?_) rfl (by kernel_rfl) (by kernel_rfl) (by kernel_rfl) (by kernel_rfl) (by kernel_rfl) (fun _ _ _ h => h) (by exact q1) (fun o hop => ?_) ?_
      rotate_left
      · injection hop with hop
        subst hop
        refine ⟨rfl, fun W hW => ?_⟩
        have s0 := hW
        go_simp
        rfl
      try simp only [Act.put, List.setIfInBounds_toArray, List.set_cons_zero, List.set_cons_succ]
      refine wpAnyD_takeAt 2 (some 22) (v := ?_) rfl (by kernel_rfl) (by kernel_rfl) (by kernel_rfl) (by kernel_rfl) (by kernel_rfl) (fun _ _ _ h => h) (by exact q1) (fun o hop => ?_) ?_
      rotate_left
      · injection hop with hop
        subst hop
        refine ⟨rfl, fun W hW => ?_⟩
        have s0 := hW
        go_simp
        rfl
      try simp only [Act.put, List.setIfInBounds_toArray, List.set_cons_zero, List.set_cons_succ]
      refine wpAnyT_one (i := 3) (by kernel_rfl) rfl rfl (fun K' hK => ?_)
      go_simp
      go_at_call 9
      refine HD.out.mono ?_
      rintro e w1 ⟨rfl, hb1⟩
      have hN1 : Nf w w1 rw0 (busN k) (.slice ab k cb) (.slice none 0 0) (.slice none 0 0) (.slice none 0 0) (.slice none 0 0) := HN.out.later (undrewB hb1)
      have q11 : w1.cell? ⟨K, 1, none⟩ = some (.slice ab k cb) := by rw [HK.out]; exact hN1.cell 1 rfl
      refine hK.out _ _ (fun _ => by exact q11) ?_
      clear hK K'
      have HN1 := hide' hN1
      clear hN1 hb1
      refine wpAnyT_one (i := 4) (by kernel_rfl) rfl rfl (fun K' hK => ?_)
      have hsz := HSZ.out
      obtain ⟨x, hx⟩ : ∃ x, (⟨#[98]⟩ : ByteArray) ++ decB k = x := ⟨_, rfl⟩
      go_simp
      refine hK.out _ _ (fun _ => by exact q11) ?_
      clear hK K'
      have HX := hide' hx
      clear hsz hx
      refine wpAnyT_one (i := 5) (by kernel_rfl) rfl rfl (fun K' hK => ?_)
      go_simp
      have a1 : ∀ o, (w1.alloc o).cell? ⟨K, 1, none⟩ = some (.slice ab k cb) := later q11
      refine hK.out _ _ (fun _ => by exact a1 _) ?_
      clear hK K'
      refine wpAnyT_one (i := 6) (by kernel_rfl) rfl rfl (fun K' hK => ?_)
      refine step_append_own (hg := rfl) (s := .tmp 21) (x := .tmp 25) (t := 27) (hop := rfl) (base := w.heap.size + 3) (e := 9) (i := i0) (z := .string ⟨#[]⟩) (size := 1) (bytes := 16) (h1 := Tryz.underlying27) (h2 := hi) (h3 := hz0) (h4 := hz1) (h5 := hz2) (h6 := rfl) (h7 := Nat.succ_pos 0) (v := .slice ab k cb) (n := k) (xs := (busN k).buses.map Value.string) (hs := rfl) (hown := (HN1.out.lenB HE0.out).alloc _) (ad := ⟨w1.heap.size, 0, none⟩) (m := 1) (c := 1) (news := [.string x]) (hx := rfl) (hn := rfl) (hc := cell_one_new _ _ _) (h1c := one_cell rfl) (b1 := by unfold maxLen; omega) (b2 := by omega) (b3 := by have := HN1.out.sz; simp; omega) (hK := ?_)
      intro v' w6 hown' hgrow
      obtain ⟨a', c', rfl⟩ := own_slice hown'
      obtain ⟨m1, f1⟩ := HN1.out.mid _ (HN1.out.lenB HE0.out) hgrow 1 rfl
      rw [show w.heap.size + 2 = K from HK.out.symm] at m1 f1
      refine hK.out _ _ (fun _ => by exact m1) ?_
      clear hK K'
      refine wpAnyT_one (i := 7) (by kernel_rfl) rfl rfl (fun K' hK => ?_)
      go_simp
      refine hK.out _ _ (fun _ => by exact m1) ?_
      clear hK K'
      refine wpAnyT_one (i := 8) (by kernel_rfl) rfl rfl (fun K' hK => ?_)
      go_simp
      refine hK.out _ _ (fun h => absurd rfl h) ?_
      clear hK K'
      refine wpAnyT_done (by kernel_rfl) ?_ _
      have hfin := HN1.out.bus (x := x) hgrow (by rw [HE0.out]; exact hown')
      rw [← HX.out] at hfin
      have hfin2 : Nf w (w6.setCell ⟨K, 1, none⟩ (.slice a' (k + 1) c')) rw0 (busN (k + 1)) (.slice a' (k + 1) c') (.slice none 0 0) (.slice none 0 0) (.slice none 0 0) (.slice none 0 0) := by
        rw [HK.out, ← busN_snoc]
        exact hfin
      have HF := hide' hfin2
      clear hfin hfin2 hgrow hown' m1 f1 q11 a1 q1 HN HN1 HD HSZ
      go_wp2
      exact ⟨⟨k + 1, _, by go_num, by omega, HF⟩, by simp [intOf]; omega⟩
    · have hkb : k = bn := by omega
      rw [hkb] at HN
      clear hkb
      go_wp2_with fail
      clear hlt hk hi hz0 hz1 hz2 i0
      go_loopw [6] (fun si wr => ∃ (k : Nat) (Ls : List LineM) (b l : Value), si = .int .i64 k ∧ Ls.length = k ∧ k ≤ 12 ∧ Hid (AllOk (LineOk bn) Ls) ∧ Hid (Nf w wr rw0 (lineN bn Ls) b l (.slice none 0 0) (.slice none 0 0) (.slice none 0 0))) (fun si _ => 12 - (intOf si).toNat)
      case atStart => exact ⟨0, [], _, _, rfl, rfl, by omega, AllOk.nil _, HN⟩
      case round =>
        clear HN
        obtain ⟨k, Ls, b, l, rfl, hlen, h12, HA, HN⟩ := hrel
        have r1 : wr.cell? ⟨w.heap.size, 1, none⟩ = some (.slice a1 n1 c1) := HN.out.rawc 1 (by rw [HRW.out]; rfl)
        by_cases hgo : k < n1 ∧ k < 12
        · obtain ⟨hk1, hk12⟩ := hgo
          obtain ⟨i0, hi, hz0, hz1, hz2⟩ := info_parts Tryz.info49
          obtain ⟨bx, ox, rfl, fx, tx, wx, hf, ht, hx, x0, x1, x2⟩ := HR.out.lines k hk1
          obtain ⟨al, cl, rfl⟩ := own_slice HN.out.owns.hl
          have e0 : (lineN bn Ls).lines.length = k := hlen
          rw [e0] at HN
          have q2 : wr.cell? ⟨K, 2, none⟩ = some (.slice al k cl) := by rw [HK.out]; exact HN.out.cell 2 rfl
          have y0 := HN.out.keep x0
          have y1 := HN.out.keep x1
          have y2 := HN.out.keep x2
          have hpick := picked_any fx bn wr hf.1 hf.2 (by omega) (by omega)
          have HP := hide' hpick
          have HE0 := hide' e0
          have HTX := hide' ht
          have HXX := hide' hx
          have x1' := x1
          clear x0 x1 x2 hpick e0 hf ht hx
          go_wp2_with (go_at_call 6; refine HP.out.mono ?_; rintro e w1 ⟨⟨p1, rfl, hp1⟩, hw1⟩; obtain rfl := hw1.symm)
          have hbn1 : ((bn - 1 : Nat) : Int) = (bn : Int) - 1 := by omega
          have hpk2 : ∀ W, Calls Tryz.prog 6 #[.int .i64 tx, .int .i64 ((bn : Int) - 1)] W fun e w' => (∃ p : Nat, e = .returned (.int .i64 p) ∧ p < bn - 1) ∧ w' = W := fun W => by
            rw [← hbn1]
            exact picked_any tx (bn - 1) W HTX.out.1 HTX.out.2 (by omega) (by omega)
          have hpk3 : ∀ W, Calls Tryz.prog 6 #[.int .i64 wx, .int .i64 50] W fun e w' => (∃ p : Nat, e = .returned (.int .i64 p) ∧ p < 50) ∧ w' = W := fun W => picked_any wx 50 W HXX.out.1 HXX.out.2 (by decide) (by decide)
          have hdec := dec_any k (by omega) wr.drew
          have hsz : ¬ 9223372036854775807 < 1 + (decB k).size := by
            have := (decB_small (v := k) (by omega) (by omega)).2.2
            rw [length_bytesOf] at this
            omega
          have HD := hide' hdec
          have HSZ := hide' hsz
          have HP2 := hide' hpk2
          have HP3 := hide' hpk3
          have hwr1 : IntKind.i64.wrap ((p1 : Int) + 1) = (p1 : Int) + 1 := wrap_small _ (by omega) (by omega)
          have hwr2 : IntKind.i64.wrap ((bn : Int) - 1) = (bn : Int) - 1 := wrap_small _ (by omega) (by omega)
          have hbn0 : ¬ bn = 0 := by omega
          clear hdec hsz hpk2 hpk3 hbn1 y0 HP HTX HXX
          refine wp_region_tail (fun W => W.cell? ⟨K, 2, none⟩ = some (.slice al k cl) ∧ W.cell? ⟨w.heap.size, 1, none⟩ = some (.slice (some ⟨bx, ox, none⟩) n1 c1) ∧ W.cell? ⟨bx, ox + k * 3 + 1, none⟩ = some (.int .i64 tx) ∧ W.cell? ⟨bx, ox + k * 3 + 2, none⟩ = some (.int .i64 wx)) 32 (by kernel_rfl) ?_
          refine wpAnyD_takeAt 0 (some 47) (v := ?_) rfl (by kernel_rfl) (by kernel_rfl) (by kernel_rfl) (by kernel_rfl) (by kernel_rfl) (fun _ _ _ h => h) (by exact ⟨q2, r1, y1, y2⟩) (fun o hop => ?_) ?_
          rotate_left
          · injection hop with hop
            subst hop
            refine ⟨rfl, fun W hW => ?_⟩
            obtain ⟨s0, s1, s2, s3⟩ := hW
            go_simp
            rfl
          try simp only [Act.put, List.setIfInBounds_toArray, List.set_cons_zero, List.set_cons_succ]
          refine wpAnyD_takeAt 1 (some 48) (v := ?_) rfl (by kernel_rfl) (by kernel_rfl) (by kernel_rfl) (by kernel_rfl) (by kernel_rfl) (fun _ _ _ h => h) (by exact ⟨q2, r1, y1, y2⟩) (fun o hop => ?_) ?_
          rotate_left
          · injection hop with hop
            subst hop
            refine ⟨rfl, fun W hW => ?_⟩
            obtain ⟨s0, s1, s2, s3⟩ := hW
            go_simp
            rfl
          try simp only [Act.put, List.setIfInBounds_toArray, List.set_cons_zero, List.set_cons_succ]
          refine wpAnyD_takeAt 2 (some 49) (v := ?_) rfl (by kernel_rfl) (by kernel_rfl) (by kernel_rfl) (by kernel_rfl) (by kernel_rfl) (fun _ _ _ h => h) (by exact ⟨q2, r1, y1, y2⟩) (fun o hop => ?_) ?_
          rotate_left
          · injection hop with hop
            subst hop
            refine ⟨rfl, fun W hW => ?_⟩
            obtain ⟨s0, s1, s2, s3⟩ := hW
            go_simp
            rfl
          try simp only [Act.put, List.setIfInBounds_toArray, List.set_cons_zero, List.set_cons_succ]
          refine wpAnyD_takeAt 5 (some 52) (v := ?_) rfl (by kernel_rfl) (by kernel_rfl) (by kernel_rfl) (by kernel_rfl) (by kernel_rfl) (fun _ _ _ h => h) (by exact ⟨q2, r1, y1, y2⟩) (fun o hop => ?_) ?_
          rotate_left
          · injection hop with hop
            subst hop
            refine ⟨rfl, fun W hW => ?_⟩
            obtain ⟨s0, s1, s2, s3⟩ := hW
            go_simp
            rfl
          try simp only [Act.put, List.setIfInBounds_toArray, List.set_cons_zero, List.set_cons_succ]
          refine wpAnyD_takeAt 6 (some 53) (v := ?_) rfl (by kernel_rfl) (by kernel_rfl) (by kernel_rfl) (by kernel_rfl) (by kernel_rfl) (fun _ _ _ h => h) (by exact ⟨q2, r1, y1, y2⟩) (fun o hop => ?_) ?_
          rotate_left
          · injection hop with hop
            subst hop
            refine ⟨rfl, fun W hW => ?_⟩
            obtain ⟨s0, s1, s2, s3⟩ := hW
            go_simp
            rfl
          try simp only [Act.put, List.setIfInBounds_toArray, List.set_cons_zero, List.set_cons_succ]
          refine wpAnyD_takeAt 7 (some 54) (v := ?_) rfl (by kernel_rfl) (by kernel_rfl) (by kernel_rfl) (by kernel_rfl) (by kernel_rfl) (fun _ _ _ h => h) (by exact ⟨q2, r1, y1, y2⟩) (fun o hop => ?_) ?_
          rotate_left
          · injection hop with hop
            subst hop
            refine ⟨rfl, fun W hW => ?_⟩
            obtain ⟨s0, s1, s2, s3⟩ := hW
            go_simp
            rfl
          try simp only [Act.put, List.setIfInBounds_toArray, List.set_cons_zero, List.set_cons_succ]
          refine wpAnyD_takeAt 8 (some 55) (v := ?_) rfl (by kernel_rfl) (by kernel_rfl) (by kernel_rfl) (by kernel_rfl) (by kernel_rfl) (fun _ _ _ h => h) (by exact ⟨q2, r1, y1, y2⟩) (fun o hop => ?_) ?_
          rotate_left
          · injection hop with hop
            subst hop
            refine ⟨rfl, fun W hW => ?_⟩
            obtain ⟨s0, s1, s2, s3⟩ := hW
            go_simp
            rfl
          try simp only [Act.put, List.setIfInBounds_toArray, List.set_cons_zero, List.set_cons_succ]
          refine wpAnyD_takeAt 9 (some 56) (v := ?_) rfl (by kernel_rfl) (by kernel_rfl) (by kernel_rfl) (by kernel_rfl) (by kernel_rfl) (fun _ _ _ h => h) (by exact ⟨q2, r1, y1, y2⟩) (fun o hop => ?_) ?_
          rotate_left
          · injection hop with hop
            subst hop
            refine ⟨rfl, fun W hW => ?_⟩
            obtain ⟨s0, s1, s2, s3⟩ := hW
            go_simp
            rfl
          try simp only [Act.put, List.setIfInBounds_toArray, List.set_cons_zero, List.set_cons_succ]
          refine wpAnyD_takeAt 10 (some 57) (v := ?_) rfl (by kernel_rfl) (by kernel_rfl) (by kernel_rfl) (by kernel_rfl) (by kernel_rfl) (fun _ _ _ h => h) (by exact ⟨q2, r1, y1, y2⟩) (fun o hop => ?_) ?_
          rotate_left
          · injection hop with hop
            subst hop
            refine ⟨rfl, fun W hW => ?_⟩
            obtain ⟨s0, s1, s2, s3⟩ := hW
            go_simp
            rfl
          try simp only [Act.put, List.setIfInBounds_toArray, List.set_cons_zero, List.set_cons_succ]
          refine wpAnyD_takeAt 11 (some 58) (v := ?_) rfl (by kernel_rfl) (by kernel_rfl) (by kernel_rfl) (by kernel_rfl) (by kernel_rfl) (fun _ _ _ h => h) (by exact ⟨q2, r1, y1, y2⟩) (fun o hop => ?_) ?_
          rotate_left
          · injection hop with hop
            subst hop
            refine ⟨rfl, fun W hW => ?_⟩
            obtain ⟨s0, s1, s2, s3⟩ := hW
            go_simp
            rfl
          try simp only [Act.put, List.setIfInBounds_toArray, List.set_cons_zero, List.set_cons_succ]
          refine wpAnyD_takeAt 12 (some 59) (v := ?_) rfl (by kernel_rfl) (by kernel_rfl) (by kernel_rfl) (by kernel_rfl) (by kernel_rfl) (fun _ _ _ h => h) (by exact ⟨q2, r1, y1, y2⟩) (fun o hop => ?_) ?_
          rotate_left
          · injection hop with hop
            subst hop
            refine ⟨rfl, fun W hW => ?_⟩
            obtain ⟨s0, s1, s2, s3⟩ := hW
            go_simp
            rfl
          try simp only [Act.put, List.setIfInBounds_toArray, List.set_cons_zero, List.set_cons_succ]
          refine wpAnyD_takeAt 13 (some 60) (v := ?_) rfl (by kernel_rfl) (by kernel_rfl) (by kernel_rfl) (by kernel_rfl) (by kernel_rfl) (fun _ _ _ h => h) (by exact ⟨q2, r1, y1, y2⟩) (fun o hop => ?_) ?_
          rotate_left
          · injection hop with hop
            subst hop
            refine ⟨rfl, fun W hW => ?_⟩
            obtain ⟨s0, s1, s2, s3⟩ := hW
            go_simp
            rfl
          try simp only [Act.put, List.setIfInBounds_toArray, List.set_cons_zero, List.set_cons_succ]
          refine wpAnyD_takeAt 14 (some 61) (v := ?_) rfl (by kernel_rfl) (by kernel_rfl) (by kernel_rfl) (by kernel_rfl) (by kernel_rfl) (fun _ _ _ h => h) (by exact ⟨q2, r1, y1, y2⟩) (fun o hop => ?_) ?_
          rotate_left
          · injection hop with hop
            subst hop
            refine ⟨rfl, fun W hW => ?_⟩
            obtain ⟨s0, s1, s2, s3⟩ := hW
            go_simp
            rfl
          try simp only [Act.put, List.setIfInBounds_toArray, List.set_cons_zero, List.set_cons_succ]
          refine wpAnyD_takeAt 15 (some 62) (v := ?_) rfl (by kernel_rfl) (by kernel_rfl) (by kernel_rfl) (by kernel_rfl) (by kernel_rfl) (fun _ _ _ h => h) (by exact ⟨q2, r1, y1, y2⟩) (fun o hop => ?_) ?_
          rotate_left
          · injection hop with hop
            subst hop
            refine ⟨rfl, fun W hW => ?_⟩
            obtain ⟨s0, s1, s2, s3⟩ := hW
            go_simp
            rfl
          try simp only [Act.put, List.setIfInBounds_toArray, List.set_cons_zero, List.set_cons_succ]
          refine wpAnyD_takeAt 18 (some 65) (v := ?_) rfl (by kernel_rfl) (by kernel_rfl) (by kernel_rfl) (by kernel_rfl) (by kernel_rfl) (fun _ _ _ h => h) (by exact ⟨q2, r1, y1, y2⟩) (fun o hop => ?_) ?_
          rotate_left
          · injection hop with hop
            subst hop
            refine ⟨rfl, fun W hW => ?_⟩
            obtain ⟨s0, s1, s2, s3⟩ := hW
            go_simp
            rfl
          try simp only [Act.put, List.setIfInBounds_toArray, List.set_cons_zero, List.set_cons_succ]
          refine wpAnyD_takeAt 20 (some 67) (v := ?_) rfl (by kernel_rfl) (by kernel_rfl) (by kernel_rfl) (by kernel_rfl) (by kernel_rfl) (fun _ _ _ h => h) (by exact ⟨q2, r1, y1, y2⟩) (fun o hop => ?_) ?_
          rotate_left
          · injection hop with hop
            subst hop
            refine ⟨rfl, fun W hW => ?_⟩
            obtain ⟨s0, s1, s2, s3⟩ := hW
            go_simp
            rfl
          try simp only [Act.put, List.setIfInBounds_toArray, List.set_cons_zero, List.set_cons_succ]
          refine wpAnyD_takeAt 21 (some 68) (v := ?_) rfl (by kernel_rfl) (by kernel_rfl) (by kernel_rfl) (by kernel_rfl) (by kernel_rfl) (fun _ _ _ h => h) (by exact ⟨q2, r1, y1, y2⟩) (fun o hop => ?_) ?_
          rotate_left
          · injection hop with hop
            subst hop
            refine ⟨rfl, fun W hW => ?_⟩
            obtain ⟨s0, s1, s2, s3⟩ := hW
            go_simp
            rfl
          try simp only [Act.put, List.setIfInBounds_toArray, List.set_cons_zero, List.set_cons_succ]
          refine wpAnyD_takeAt 22 (some 69) (v := ?_) rfl (by kernel_rfl) (by kernel_rfl) (by kernel_rfl) (by kernel_rfl) (by kernel_rfl) (fun _ _ _ h => h) (by exact ⟨q2, r1, y1, y2⟩) (fun o hop => ?_) ?_
          rotate_left
          · injection hop with hop
            subst hop
            refine ⟨rfl, fun W hW => ?_⟩
            obtain ⟨s0, s1, s2, s3⟩ := hW
            go_simp
            rfl
          try simp only [Act.put, List.setIfInBounds_toArray, List.set_cons_zero, List.set_cons_succ]
          refine wpAnyD_takeAt 23 (some 70) (v := ?_) rfl (by kernel_rfl) (by kernel_rfl) (by kernel_rfl) (by kernel_rfl) (by kernel_rfl) (fun _ _ _ h => h) (by exact ⟨q2, r1, y1, y2⟩) (fun o hop => ?_) ?_
          rotate_left
          · injection hop with hop
            subst hop
            refine ⟨rfl, fun W hW => ?_⟩
            obtain ⟨s0, s1, s2, s3⟩ := hW
            go_simp
            rfl
          try simp only [Act.put, List.setIfInBounds_toArray, List.set_cons_zero, List.set_cons_succ]
          refine wpAnyD_takeAt 24 (some 71) (v := ?_) rfl (by kernel_rfl) (by kernel_rfl) (by kernel_rfl) (by kernel_rfl) (by kernel_rfl) (fun _ _ _ h => h) (by exact ⟨q2, r1, y1, y2⟩) (fun o hop => ?_) ?_
          rotate_left
          · injection hop with hop
            subst hop
            refine ⟨rfl, fun W hW => ?_⟩
            obtain ⟨s0, s1, s2, s3⟩ := hW
            go_simp
            rfl
          try simp only [Act.put, List.setIfInBounds_toArray, List.set_cons_zero, List.set_cons_succ]
          refine wpAnyD_takeAt 25 (some 72) (v := ?_) rfl (by kernel_rfl) (by kernel_rfl) (by kernel_rfl) (by kernel_rfl) (by kernel_rfl) (fun _ _ _ h => h) (by exact ⟨q2, r1, y1, y2⟩) (fun o hop => ?_) ?_
          rotate_left
          · injection hop with hop
            subst hop
            refine ⟨rfl, fun W hW => ?_⟩
            obtain ⟨s0, s1, s2, s3⟩ := hW
            go_simp
            rfl
          try simp only [Act.put, List.setIfInBounds_toArray, List.set_cons_zero, List.set_cons_succ]
          refine wpAnyT_one (i := 3) (by kernel_rfl) rfl rfl (fun K' hK => ?_)
          go_simp
          go_at_call 9
          refine HD.out.mono ?_
          rintro e w1 ⟨rfl, hb1⟩
          have hN1 : Nf w w1 rw0 (lineN bn Ls) b (.slice al k cl) (.slice none 0 0) (.slice none 0 0) (.slice none 0 0) := HN.out.later (undrewB hb1)
          have q21 : w1.cell? ⟨K, 2, none⟩ = some (.slice al k cl) := by rw [HK.out]; exact hN1.cell 2 rfl
          have z1 := (undrewB hb1).cell (World.block_lt_of_cell? wr _ r1) |>.trans r1
          have z2 := (undrewB hb1).cell (World.block_lt_of_cell? wr _ y1) |>.trans y1
          have z3 := (undrewB hb1).cell (World.block_lt_of_cell? wr _ y2) |>.trans y2
          refine hK.out _ _ (fun _ => by exact ⟨q21, z1, z2, z3⟩) ?_
          clear hK K'
          have HN1 := hide' hN1
          clear hN1 hb1
          have hsz := HSZ.out
          obtain ⟨x, hx⟩ : ∃ x, (⟨#[108]⟩ : ByteArray) ++ decB k = x := ⟨_, rfl⟩
          refine wpAnyD_takeAt 4 (some 51) (v := ?_) rfl (by kernel_rfl) (by kernel_rfl) (by kernel_rfl) (by kernel_rfl) (by kernel_rfl) (fun _ _ _ h => h) (by exact ⟨q21, z1, z2, z3⟩) (fun o hop => ?_) ?_
          rotate_left
          · injection hop with hop
            subst hop
            refine ⟨rfl, fun W hW => ?_⟩
            obtain ⟨s0, s1, s2, s3⟩ := hW
            go_simp
            rfl
          try simp only [Act.put, List.setIfInBounds_toArray, List.set_cons_zero, List.set_cons_succ]
          have HX := hide' hx
          clear hsz hx
          refine wpAnyT_one (i := 16) (by kernel_rfl) rfl rfl (fun K' hK => ?_)
          go_simp
          go_at_call 6
          refine (HP2.out _).mono ?_
          rintro e w2 ⟨⟨p2, rfl, hp2⟩, hw2⟩
          obtain rfl := hw2.symm
          have hwr3 : IntKind.i64.wrap ((p1 : Int) + 1 + p2) = (p1 : Int) + 1 + p2 := wrap_small _ (by omega) (by omega)
          obtain ⟨q, hq1, hq2, hqb, hqn⟩ := other_end hp1 hp2
          refine hK.out _ _ (fun _ => by exact ⟨q21, z1, z2, z3⟩) ?_
          clear hK K'
          refine wpAnyD_takeAt 17 (some 64) (v := ?_) rfl (by kernel_rfl) (by kernel_rfl) (by kernel_rfl) (by kernel_rfl) (by kernel_rfl) (fun _ _ _ h => h) (by exact ⟨q21, z1, z2, z3⟩) (fun o hop => ?_) ?_
          rotate_left
          · injection hop with hop
            subst hop
            refine ⟨rfl, fun W hW => ?_⟩
            obtain ⟨s0, s1, s2, s3⟩ := hW
            go_simp
            rfl
          try simp only [Act.put, List.setIfInBounds_toArray, List.set_cons_zero, List.set_cons_succ]
          refine wpAnyD_takeAt 19 (some 66) (v := ?_) rfl (by kernel_rfl) (by kernel_rfl) (by kernel_rfl) (by kernel_rfl) (by kernel_rfl) (fun _ _ _ h => h) (by exact ⟨q21, z1, z2, z3⟩) (fun o hop => ?_) ?_
          rotate_left
          · injection hop with hop
            subst hop
            refine ⟨rfl, fun W hW => ?_⟩
            obtain ⟨s0, s1, s2, s3⟩ := hW
            go_simp
            rfl
          try simp only [Act.put, List.setIfInBounds_toArray, List.set_cons_zero, List.set_cons_succ]
          refine wpAnyT_one (i := 26) (by kernel_rfl) rfl rfl (fun K' hK => ?_)
          go_simp
          go_at_call 6
          refine (HP3.out _).mono ?_
          rintro e w2 ⟨⟨p3, rfl, hp3⟩, hw2⟩
          obtain rfl := hw2.symm
          have hwr4 : IntKind.i64.wrap (1 + (p3 : Int)) = 1 + (p3 : Int) := wrap_small _ (by omega) (by omega)
          refine hK.out _ _ (fun _ => by exact ⟨q21, z1, z2, z3⟩) ?_
          clear hK K'
          refine wpAnyT_one (i := 27) (by kernel_rfl) rfl rfl (fun K' hK => ?_)
          go_simp
          refine hK.out _ _ (fun _ => by exact ⟨q21, z1, z2, z3⟩) ?_
          clear hK K'
          refine wpAnyT_one (i := 28) (by kernel_rfl) rfl rfl (fun K' hK => ?_)
          go_simp
          refine hK.out _ _ (fun _ => by exact ⟨q21, z1, z2, z3⟩) ?_
          clear hK K'
          refine wpAnyT_one (i := 29) (by kernel_rfl) rfl rfl (fun K' hK => ?_)
          go_simp
          have b1 : ∀ o, (w1.alloc o).cell? ⟨K, 2, none⟩ = some (.slice al k cl) := later q21
          have b2 : ∀ o, (w1.alloc o).cell? ⟨w.heap.size, 1, none⟩ = some (.slice (some ⟨bx, ox, none⟩) n1 c1) := later z1
          have b3 : ∀ o, (w1.alloc o).cell? ⟨bx, ox + k * 3 + 1, none⟩ = some (.int .i64 tx) := later z2
          have b4 : ∀ o, (w1.alloc o).cell? ⟨bx, ox + k * 3 + 2, none⟩ = some (.int .i64 wx) := later z3
          refine hK.out _ _ (fun _ => by exact ⟨b1 _, b2 _, b3 _, b4 _⟩) ?_
          clear hK K'
          refine wpAnyT_one (i := 30) (by kernel_rfl) rfl rfl (fun K' hK => ?_)
          refine step_append_own (hg := rfl) (s := .tmp 48) (x := .tmp 76) (t := 28) (hop := rfl) (base := w.heap.size + 3) (e := 49) (i := i0) (z := .agg #[.string ⟨#[]⟩, .int .i64 0, .int .i64 0, .int .i64 0, .int .i64 0]) (size := 5) (bytes := 48) (h1 := Tryz.underlying28) (h2 := hi) (h3 := hz0) (h4 := hz1) (h5 := hz2) (h6 := rfl) (h7 := Nat.succ_pos 4) (v := .slice al k cl) (n := k) (xs := (lineN bn Ls).lines.flatMap LineM.cells) (hs := rfl) (hown := (HN1.out.lenL HE0.out).alloc _) (ad := ⟨w1.heap.size, 0, none⟩) (m := 1) (c := 1) (news := [.string x, .int .i64 p1, .int .i64 q, .int .i64 (1 + (p3 : Int)), .int .i64 0]) (hx := rfl) (hn := rfl) (hc := cell_news w1 [.string x, .int .i64 p1, .int .i64 q, .int .i64 (1 + (p3 : Int)), .int .i64 0] 49) (h1c := five_one) (b1 := by unfold maxLen; omega) (b2 := by omega) (b3 := by have := HN1.out.sz; simp; omega) (hK := ?_)
          intro v' w6 hown' hgrow
          obtain ⟨a', c', rfl⟩ := own_slice hown'
          obtain ⟨m1, f1⟩ := HN1.out.mid _ (HN1.out.lenL HE0.out) hgrow 2 rfl
          have hbxl : bx < w.heap.size := World.block_lt_of_cell? w _ x1'
          have d1 := HN1.out.far _ (HN1.out.lenL HE0.out) hgrow (p := ⟨w.heap.size, 1, none⟩) (show w.heap.size < w.heap.size + 3 from Nat.lt_add_of_pos_right (by decide)) z1
          have d2 := HN1.out.far _ (HN1.out.lenL HE0.out) hgrow (p := ⟨bx, ox + k * 3 + 1, none⟩) (show bx < w.heap.size + 3 from Nat.lt_of_lt_of_le hbxl (Nat.le_add_right _ _)) z2
          have d3 := HN1.out.far _ (HN1.out.lenL HE0.out) hgrow (p := ⟨bx, ox + k * 3 + 2, none⟩) (show bx < w.heap.size + 3 from Nat.lt_of_lt_of_le hbxl (Nat.le_add_right _ _)) z3
          rw [show w.heap.size + 2 = K from HK.out.symm] at m1 f1
          refine hK.out _ _ (fun _ => by exact ⟨m1, d1, d2, d3⟩) ?_
          clear hK K'
          refine wpAnyT_one (i := 31) (by kernel_rfl) rfl rfl (fun K' hK => ?_)
          go_simp
          refine hK.out _ _ (fun _ => by exact ⟨m1, d1, d2, d3⟩) ?_
          clear hK K'
          refine wpAnyT_one (i := 32) (by kernel_rfl) rfl rfl (fun K' hK => ?_)
          go_simp
          refine hK.out _ _ (fun h => absurd rfl h) ?_
          clear hK K'
          refine wpAnyT_done (by kernel_rfl) ?_ _
          have hfin := HN1.out.line (x := ⟨x, p1, q, 1 + (p3 : Int), 0⟩) hgrow (by rw [HE0.out]; exact hown')
          have hfin2 : Nf w (w6.setCell ⟨K, 2, none⟩ (.slice a' (k + 1) c')) rw0 (lineN bn (Ls ++ [⟨x, p1, q, 1 + (p3 : Int), 0⟩])) b (.slice a' (k + 1) c') (.slice none 0 0) (.slice none 0 0) (.slice none 0 0) := by
            rw [HK.out]
            exact hfin
          have hok : LineOk bn Ls.length ⟨x, p1, q, 1 + (p3 : Int), 0⟩ := by
            refine ⟨?_, ?_, ?_, ?_, ?_, ?_, ?_, ?_, rfl⟩
            · rw [hlen, ← HX.out]; rfl
            · show (0 : Int) ≤ p1; omega
            · show (p1 : Int) < bn; omega
            · show (0 : Int) ≤ q; omega
            · show (q : Int) < bn; omega
            · show (p1 : Int) ≠ q; omega
            · show (1 : Int) ≤ 1 + p3; omega
            · show 1 + (p3 : Int) < 100; omega
          have HF := hide' hfin2
          have HA2 := hide' (HA.out.snoc hok)
          clear hfin hfin2 hgrow hown' m1 f1 q21 b1 b2 b3 b4 q2 HN HN1 HD HSZ d1 d2 d3 z1 z2 z3 y1 y2 hq1 hq2 hwr1 hwr2 hwr3 hwr4 hok HX
          go_wp2
          exact ⟨⟨k + 1, _, _, _, by go_num, by simp [hlen], by omega, HA2, HF⟩, by simp [intOf]; omega⟩
        · have hor : (k < n1 ∧ ¬ k < 12) ∨ ¬ k < n1 := by omega
          have hL12 : Ls.length ≤ 12 := by omega
          rcases hor with ⟨hk1, hk2⟩ | hk1
          all_goals
            go_wp2_with fail
            clear hgo hk1 r1
            go_loopw [8] (fun si wr => ∃ (k : Nat) (Ts : List TieM) (t : Value), si = .int .i64 k ∧ Ts.length = k ∧ k ≤ 8 ∧ Hid (AllOk (TieOk bn) Ts) ∧ Hid (Nf w wr rw0 (tieN bn Ls Ts) b l (.slice none 0 0) (.slice none 0 0) t)) (fun si _ => 8 - (intOf si).toNat)
            case atStart => exact ⟨0, [], _, rfl, rfl, by omega, AllOk.nil _, HN⟩
            case round =>
              clear HN
              obtain ⟨k, Ts, t, rfl, hlt2, h8, HA2, HN⟩ := hrel
              have r2 : wr.cell? ⟨w.heap.size, 2, none⟩ = some (.slice a2 n2 c2) := HN.out.rawc 2 (by rw [HRW.out]; rfl)
              by_cases hgo : k < n2 ∧ k < 8
              · obtain ⟨hk1, hk8⟩ := hgo
                obtain ⟨i0, hi, hz0, hz1, hz2⟩ := info_parts Tryz.info47
                obtain ⟨bx, ox, rfl, fx, tx, cx, hf, ht, x0, x1, x2⟩ := HR.out.ties k hk1
                obtain ⟨at5, ct5, rfl⟩ := own_slice HN.out.owns.ht
                have e0 : (tieN bn Ls Ts).ties.length = k := hlt2
                rw [e0] at HN
                have q5 : wr.cell? ⟨K, 5, none⟩ = some (.slice at5 k ct5) := by rw [HK.out]; exact HN.out.cell 5 rfl
                have y0 := HN.out.keep x0
                have y1 := HN.out.keep x1
                have y2 := HN.out.keep x2
                have hpick := picked_any fx bn wr hf.1 hf.2 (by omega) (by omega)
                have HP := hide' hpick
                have HE0 := hide' e0
                have HTX := hide' ht
                have x1' := x1
                clear x0 x1 x2 hpick e0 hf ht
                go_wp2_with (go_at_call 6; refine HP.out.mono ?_; rintro e w1 ⟨⟨p1, rfl, hp1⟩, hw1⟩; obtain rfl := hw1.symm)
                have hbn1 : ((bn - 1 : Nat) : Int) = (bn : Int) - 1 := by omega
                have hpk2 : ∀ W, Calls Tryz.prog 6 #[.int .i64 tx, .int .i64 ((bn : Int) - 1)] W fun e w' => (∃ p : Nat, e = .returned (.int .i64 p) ∧ p < bn - 1) ∧ w' = W := fun W => by
                  rw [← hbn1]
                  exact picked_any tx (bn - 1) W HTX.out.1 HTX.out.2 (by omega) (by omega)
                have hdec := dec_any k (by omega) wr.drew
                have hsz : ¬ 9223372036854775807 < 1 + (decB k).size := by
                  have := (decB_small (v := k) (by omega) (by omega)).2.2
                  rw [length_bytesOf] at this
                  omega
                have HD := hide' hdec
                have HSZ := hide' hsz
                have HP2 := hide' hpk2
                have hwr1 : IntKind.i64.wrap ((p1 : Int) + 1) = (p1 : Int) + 1 := wrap_small _ (by omega) (by omega)
                have hwr2 : IntKind.i64.wrap ((bn : Int) - 1) = (bn : Int) - 1 := wrap_small _ (by omega) (by omega)
                have hbn0 : ¬ bn = 0 := by omega
                clear hdec hsz hpk2 hbn1 y0 HP HTX
                refine wp_region_tail (fun W => W.cell? ⟨K, 5, none⟩ = some (.slice at5 k ct5) ∧ W.cell? ⟨w.heap.size, 2, none⟩ = some (.slice (some ⟨bx, ox, none⟩) n2 c2) ∧ W.cell? ⟨bx, ox + k * 3 + 1, none⟩ = some (.int .i64 tx) ∧ W.cell? ⟨bx, ox + k * 3 + 2, none⟩ = some (.bool cx)) 30 (by kernel_rfl) ?_
                refine wpAnyD_takeAt 0 (some 98) (v := ?_) rfl (by kernel_rfl) (by kernel_rfl) (by kernel_rfl) (by kernel_rfl) (by kernel_rfl) (fun _ _ _ h => h) (by exact ⟨q5, r2, y1, y2⟩) (fun o hop => ?_) ?_
                rotate_left
                · injection hop with hop
                  subst hop
                  refine ⟨rfl, fun W hW => ?_⟩
                  obtain ⟨s0, s1, s2, s3⟩ := hW
                  go_simp
                  rfl
                try simp only [Act.put, List.setIfInBounds_toArray, List.set_cons_zero, List.set_cons_succ]
                refine wpAnyD_takeAt 1 (some 99) (v := ?_) rfl (by kernel_rfl) (by kernel_rfl) (by kernel_rfl) (by kernel_rfl) (by kernel_rfl) (fun _ _ _ h => h) (by exact ⟨q5, r2, y1, y2⟩) (fun o hop => ?_) ?_
                rotate_left
                · injection hop with hop
                  subst hop
                  refine ⟨rfl, fun W hW => ?_⟩
                  obtain ⟨s0, s1, s2, s3⟩ := hW
                  go_simp
                  rfl
                try simp only [Act.put, List.setIfInBounds_toArray, List.set_cons_zero, List.set_cons_succ]
                refine wpAnyD_takeAt 2 (some 100) (v := ?_) rfl (by kernel_rfl) (by kernel_rfl) (by kernel_rfl) (by kernel_rfl) (by kernel_rfl) (fun _ _ _ h => h) (by exact ⟨q5, r2, y1, y2⟩) (fun o hop => ?_) ?_
                rotate_left
                · injection hop with hop
                  subst hop
                  refine ⟨rfl, fun W hW => ?_⟩
                  obtain ⟨s0, s1, s2, s3⟩ := hW
                  go_simp
                  rfl
                try simp only [Act.put, List.setIfInBounds_toArray, List.set_cons_zero, List.set_cons_succ]
                refine wpAnyD_takeAt 5 (some 103) (v := ?_) rfl (by kernel_rfl) (by kernel_rfl) (by kernel_rfl) (by kernel_rfl) (by kernel_rfl) (fun _ _ _ h => h) (by exact ⟨q5, r2, y1, y2⟩) (fun o hop => ?_) ?_
                rotate_left
                · injection hop with hop
                  subst hop
                  refine ⟨rfl, fun W hW => ?_⟩
                  obtain ⟨s0, s1, s2, s3⟩ := hW
                  go_simp
                  rfl
                try simp only [Act.put, List.setIfInBounds_toArray, List.set_cons_zero, List.set_cons_succ]
                refine wpAnyD_takeAt 6 (some 104) (v := ?_) rfl (by kernel_rfl) (by kernel_rfl) (by kernel_rfl) (by kernel_rfl) (by kernel_rfl) (fun _ _ _ h => h) (by exact ⟨q5, r2, y1, y2⟩) (fun o hop => ?_) ?_
                rotate_left
                · injection hop with hop
                  subst hop
                  refine ⟨rfl, fun W hW => ?_⟩
                  obtain ⟨s0, s1, s2, s3⟩ := hW
                  go_simp
                  rfl
                try simp only [Act.put, List.setIfInBounds_toArray, List.set_cons_zero, List.set_cons_succ]
                refine wpAnyD_takeAt 7 (some 105) (v := ?_) rfl (by kernel_rfl) (by kernel_rfl) (by kernel_rfl) (by kernel_rfl) (by kernel_rfl) (fun _ _ _ h => h) (by exact ⟨q5, r2, y1, y2⟩) (fun o hop => ?_) ?_
                rotate_left
                · injection hop with hop
                  subst hop
                  refine ⟨rfl, fun W hW => ?_⟩
                  obtain ⟨s0, s1, s2, s3⟩ := hW
                  go_simp
                  rfl
                try simp only [Act.put, List.setIfInBounds_toArray, List.set_cons_zero, List.set_cons_succ]
                refine wpAnyD_takeAt 8 (some 106) (v := ?_) rfl (by kernel_rfl) (by kernel_rfl) (by kernel_rfl) (by kernel_rfl) (by kernel_rfl) (fun _ _ _ h => h) (by exact ⟨q5, r2, y1, y2⟩) (fun o hop => ?_) ?_
                rotate_left
                · injection hop with hop
                  subst hop
                  refine ⟨rfl, fun W hW => ?_⟩
                  obtain ⟨s0, s1, s2, s3⟩ := hW
                  go_simp
                  rfl
                try simp only [Act.put, List.setIfInBounds_toArray, List.set_cons_zero, List.set_cons_succ]
                refine wpAnyD_takeAt 9 (some 107) (v := ?_) rfl (by kernel_rfl) (by kernel_rfl) (by kernel_rfl) (by kernel_rfl) (by kernel_rfl) (fun _ _ _ h => h) (by exact ⟨q5, r2, y1, y2⟩) (fun o hop => ?_) ?_
                rotate_left
                · injection hop with hop
                  subst hop
                  refine ⟨rfl, fun W hW => ?_⟩
                  obtain ⟨s0, s1, s2, s3⟩ := hW
                  go_simp
                  rfl
                try simp only [Act.put, List.setIfInBounds_toArray, List.set_cons_zero, List.set_cons_succ]
                refine wpAnyD_takeAt 10 (some 108) (v := ?_) rfl (by kernel_rfl) (by kernel_rfl) (by kernel_rfl) (by kernel_rfl) (by kernel_rfl) (fun _ _ _ h => h) (by exact ⟨q5, r2, y1, y2⟩) (fun o hop => ?_) ?_
                rotate_left
                · injection hop with hop
                  subst hop
                  refine ⟨rfl, fun W hW => ?_⟩
                  obtain ⟨s0, s1, s2, s3⟩ := hW
                  go_simp
                  rfl
                try simp only [Act.put, List.setIfInBounds_toArray, List.set_cons_zero, List.set_cons_succ]
                refine wpAnyD_takeAt 11 (some 109) (v := ?_) rfl (by kernel_rfl) (by kernel_rfl) (by kernel_rfl) (by kernel_rfl) (by kernel_rfl) (fun _ _ _ h => h) (by exact ⟨q5, r2, y1, y2⟩) (fun o hop => ?_) ?_
                rotate_left
                · injection hop with hop
                  subst hop
                  refine ⟨rfl, fun W hW => ?_⟩
                  obtain ⟨s0, s1, s2, s3⟩ := hW
                  go_simp
                  rfl
                try simp only [Act.put, List.setIfInBounds_toArray, List.set_cons_zero, List.set_cons_succ]
                refine wpAnyD_takeAt 12 (some 110) (v := ?_) rfl (by kernel_rfl) (by kernel_rfl) (by kernel_rfl) (by kernel_rfl) (by kernel_rfl) (fun _ _ _ h => h) (by exact ⟨q5, r2, y1, y2⟩) (fun o hop => ?_) ?_
                rotate_left
                · injection hop with hop
                  subst hop
                  refine ⟨rfl, fun W hW => ?_⟩
                  obtain ⟨s0, s1, s2, s3⟩ := hW
                  go_simp
                  rfl
                try simp only [Act.put, List.setIfInBounds_toArray, List.set_cons_zero, List.set_cons_succ]
                refine wpAnyD_takeAt 13 (some 111) (v := ?_) rfl (by kernel_rfl) (by kernel_rfl) (by kernel_rfl) (by kernel_rfl) (by kernel_rfl) (fun _ _ _ h => h) (by exact ⟨q5, r2, y1, y2⟩) (fun o hop => ?_) ?_
                rotate_left
                · injection hop with hop
                  subst hop
                  refine ⟨rfl, fun W hW => ?_⟩
                  obtain ⟨s0, s1, s2, s3⟩ := hW
                  go_simp
                  rfl
                try simp only [Act.put, List.setIfInBounds_toArray, List.set_cons_zero, List.set_cons_succ]
                refine wpAnyD_takeAt 14 (some 112) (v := ?_) rfl (by kernel_rfl) (by kernel_rfl) (by kernel_rfl) (by kernel_rfl) (by kernel_rfl) (fun _ _ _ h => h) (by exact ⟨q5, r2, y1, y2⟩) (fun o hop => ?_) ?_
                rotate_left
                · injection hop with hop
                  subst hop
                  refine ⟨rfl, fun W hW => ?_⟩
                  obtain ⟨s0, s1, s2, s3⟩ := hW
                  go_simp
                  rfl
                try simp only [Act.put, List.setIfInBounds_toArray, List.set_cons_zero, List.set_cons_succ]
                refine wpAnyD_takeAt 15 (some 113) (v := ?_) rfl (by kernel_rfl) (by kernel_rfl) (by kernel_rfl) (by kernel_rfl) (by kernel_rfl) (fun _ _ _ h => h) (by exact ⟨q5, r2, y1, y2⟩) (fun o hop => ?_) ?_
                rotate_left
                · injection hop with hop
                  subst hop
                  refine ⟨rfl, fun W hW => ?_⟩
                  obtain ⟨s0, s1, s2, s3⟩ := hW
                  go_simp
                  rfl
                try simp only [Act.put, List.setIfInBounds_toArray, List.set_cons_zero, List.set_cons_succ]
                refine wpAnyD_takeAt 18 (some 116) (v := ?_) rfl (by kernel_rfl) (by kernel_rfl) (by kernel_rfl) (by kernel_rfl) (by kernel_rfl) (fun _ _ _ h => h) (by exact ⟨q5, r2, y1, y2⟩) (fun o hop => ?_) ?_
                rotate_left
                · injection hop with hop
                  subst hop
                  refine ⟨rfl, fun W hW => ?_⟩
                  obtain ⟨s0, s1, s2, s3⟩ := hW
                  go_simp
                  rfl
                try simp only [Act.put, List.setIfInBounds_toArray, List.set_cons_zero, List.set_cons_succ]
                refine wpAnyD_takeAt 20 (some 118) (v := ?_) rfl (by kernel_rfl) (by kernel_rfl) (by kernel_rfl) (by kernel_rfl) (by kernel_rfl) (fun _ _ _ h => h) (by exact ⟨q5, r2, y1, y2⟩) (fun o hop => ?_) ?_
                rotate_left
                · injection hop with hop
                  subst hop
                  refine ⟨rfl, fun W hW => ?_⟩
                  obtain ⟨s0, s1, s2, s3⟩ := hW
                  go_simp
                  rfl
                try simp only [Act.put, List.setIfInBounds_toArray, List.set_cons_zero, List.set_cons_succ]
                refine wpAnyD_takeAt 21 (some 119) (v := ?_) rfl (by kernel_rfl) (by kernel_rfl) (by kernel_rfl) (by kernel_rfl) (by kernel_rfl) (fun _ _ _ h => h) (by exact ⟨q5, r2, y1, y2⟩) (fun o hop => ?_) ?_
                rotate_left
                · injection hop with hop
                  subst hop
                  refine ⟨rfl, fun W hW => ?_⟩
                  obtain ⟨s0, s1, s2, s3⟩ := hW
                  go_simp
                  rfl
                try simp only [Act.put, List.setIfInBounds_toArray, List.set_cons_zero, List.set_cons_succ]
                refine wpAnyD_takeAt 22 (some 120) (v := ?_) rfl (by kernel_rfl) (by kernel_rfl) (by kernel_rfl) (by kernel_rfl) (by kernel_rfl) (fun _ _ _ h => h) (by exact ⟨q5, r2, y1, y2⟩) (fun o hop => ?_) ?_
                rotate_left
                · injection hop with hop
                  subst hop
                  refine ⟨rfl, fun W hW => ?_⟩
                  obtain ⟨s0, s1, s2, s3⟩ := hW
                  go_simp
                  rfl
                try simp only [Act.put, List.setIfInBounds_toArray, List.set_cons_zero, List.set_cons_succ]
                refine wpAnyD_takeAt 23 (some 121) (v := ?_) rfl (by kernel_rfl) (by kernel_rfl) (by kernel_rfl) (by kernel_rfl) (by kernel_rfl) (fun _ _ _ h => h) (by exact ⟨q5, r2, y1, y2⟩) (fun o hop => ?_) ?_
                rotate_left
                · injection hop with hop
                  subst hop
                  refine ⟨rfl, fun W hW => ?_⟩
                  obtain ⟨s0, s1, s2, s3⟩ := hW
                  go_simp
                  rfl
                try simp only [Act.put, List.setIfInBounds_toArray, List.set_cons_zero, List.set_cons_succ]
                refine wpAnyD_takeAt 24 (some 122) (v := ?_) rfl (by kernel_rfl) (by kernel_rfl) (by kernel_rfl) (by kernel_rfl) (by kernel_rfl) (fun _ _ _ h => h) (by exact ⟨q5, r2, y1, y2⟩) (fun o hop => ?_) ?_
                rotate_left
                · injection hop with hop
                  subst hop
                  refine ⟨rfl, fun W hW => ?_⟩
                  obtain ⟨s0, s1, s2, s3⟩ := hW
                  go_simp
                  rfl
                try simp only [Act.put, List.setIfInBounds_toArray, List.set_cons_zero, List.set_cons_succ]
                refine wpAnyD_takeAt 25 (some 123) (v := ?_) rfl (by kernel_rfl) (by kernel_rfl) (by kernel_rfl) (by kernel_rfl) (by kernel_rfl) (fun _ _ _ h => h) (by exact ⟨q5, r2, y1, y2⟩) (fun o hop => ?_) ?_
                rotate_left
                · injection hop with hop
                  subst hop
                  refine ⟨rfl, fun W hW => ?_⟩
                  obtain ⟨s0, s1, s2, s3⟩ := hW
                  go_simp
                  rfl
                try simp only [Act.put, List.setIfInBounds_toArray, List.set_cons_zero, List.set_cons_succ]
                refine wpAnyT_one (i := 3) (by kernel_rfl) rfl rfl (fun K' hK => ?_)
                go_simp
                go_at_call 9
                refine HD.out.mono ?_
                rintro e w1 ⟨rfl, hb1⟩
                have hN1 : Nf w w1 rw0 (tieN bn Ls Ts) b l (.slice none 0 0) (.slice none 0 0) (.slice at5 k ct5) := HN.out.later (undrewB hb1)
                have q51 : w1.cell? ⟨K, 5, none⟩ = some (.slice at5 k ct5) := by rw [HK.out]; exact hN1.cell 5 rfl
                have z1 := (undrewB hb1).cell (World.block_lt_of_cell? wr _ r2) |>.trans r2
                have z2 := (undrewB hb1).cell (World.block_lt_of_cell? wr _ y1) |>.trans y1
                have z3 := (undrewB hb1).cell (World.block_lt_of_cell? wr _ y2) |>.trans y2
                refine hK.out _ _ (fun _ => by exact ⟨q51, z1, z2, z3⟩) ?_
                clear hK K'
                have HN1 := hide' hN1
                clear hN1 hb1
                have hsz := HSZ.out
                obtain ⟨x, hx⟩ : ∃ x, (⟨#[116]⟩ : ByteArray) ++ decB k = x := ⟨_, rfl⟩
                refine wpAnyD_takeAt 4 (some 102) (v := ?_) rfl (by kernel_rfl) (by kernel_rfl) (by kernel_rfl) (by kernel_rfl) (by kernel_rfl) (fun _ _ _ h => h) (by exact ⟨q51, z1, z2, z3⟩) (fun o hop => ?_) ?_
                rotate_left
                · injection hop with hop
                  subst hop
                  refine ⟨rfl, fun W hW => ?_⟩
                  obtain ⟨s0, s1, s2, s3⟩ := hW
                  go_simp
                  rfl
                try simp only [Act.put, List.setIfInBounds_toArray, List.set_cons_zero, List.set_cons_succ]
                have HX := hide' hx
                clear hsz hx
                refine wpAnyT_one (i := 16) (by kernel_rfl) rfl rfl (fun K' hK => ?_)
                go_simp
                go_at_call 6
                refine (HP2.out _).mono ?_
                rintro e w2 ⟨⟨p2, rfl, hp2⟩, hw2⟩
                obtain rfl := hw2.symm
                have hwr3 : IntKind.i64.wrap ((p1 : Int) + 1 + p2) = (p1 : Int) + 1 + p2 := wrap_small _ (by omega) (by omega)
                obtain ⟨q, hq1, hq2, hqb, hqn⟩ := other_end hp1 hp2
                refine hK.out _ _ (fun _ => by exact ⟨q51, z1, z2, z3⟩) ?_
                clear hK K'
                refine wpAnyD_takeAt 17 (some 115) (v := ?_) rfl (by kernel_rfl) (by kernel_rfl) (by kernel_rfl) (by kernel_rfl) (by kernel_rfl) (fun _ _ _ h => h) (by exact ⟨q51, z1, z2, z3⟩) (fun o hop => ?_) ?_
                rotate_left
                · injection hop with hop
                  subst hop
                  refine ⟨rfl, fun W hW => ?_⟩
                  obtain ⟨s0, s1, s2, s3⟩ := hW
                  go_simp
                  rfl
                try simp only [Act.put, List.setIfInBounds_toArray, List.set_cons_zero, List.set_cons_succ]
                refine wpAnyD_takeAt 19 (some 117) (v := ?_) rfl (by kernel_rfl) (by kernel_rfl) (by kernel_rfl) (by kernel_rfl) (by kernel_rfl) (fun _ _ _ h => h) (by exact ⟨q51, z1, z2, z3⟩) (fun o hop => ?_) ?_
                rotate_left
                · injection hop with hop
                  subst hop
                  refine ⟨rfl, fun W hW => ?_⟩
                  obtain ⟨s0, s1, s2, s3⟩ := hW
                  go_simp
                  rfl
                try simp only [Act.put, List.setIfInBounds_toArray, List.set_cons_zero, List.set_cons_succ]
                refine wpAnyT_one (i := 26) (by kernel_rfl) rfl rfl (fun K' hK => ?_)
                go_simp
                refine hK.out _ _ (fun _ => by exact ⟨q51, z1, z2, z3⟩) ?_
                clear hK K'
                refine wpAnyT_one (i := 27) (by kernel_rfl) rfl rfl (fun K' hK => ?_)
                go_simp
                have b1 : ∀ o, (w1.alloc o).cell? ⟨K, 5, none⟩ = some (.slice at5 k ct5) := later q51
                have b2 : ∀ o, (w1.alloc o).cell? ⟨w.heap.size, 2, none⟩ = some (.slice (some ⟨bx, ox, none⟩) n2 c2) := later z1
                have b3 : ∀ o, (w1.alloc o).cell? ⟨bx, ox + k * 3 + 1, none⟩ = some (.int .i64 tx) := later z2
                have b4 : ∀ o, (w1.alloc o).cell? ⟨bx, ox + k * 3 + 2, none⟩ = some (.bool cx) := later z3
                refine hK.out _ _ (fun _ => by exact ⟨b1 _, b2 _, b3 _, b4 _⟩) ?_
                clear hK K'
                refine wpAnyT_one (i := 28) (by kernel_rfl) rfl rfl (fun K' hK => ?_)
                refine step_append_own (hg := rfl) (s := .tmp 99) (x := .tmp 125) (t := 31) (hop := rfl) (base := w.heap.size + 3) (e := 47) (i := i0) (z := .agg #[.string ⟨#[]⟩, .int .i64 0, .int .i64 0, .bool false]) (size := 4) (bytes := 40) (h1 := Tryz.underlying31) (h2 := hi) (h3 := hz0) (h4 := hz1) (h5 := hz2) (h6 := rfl) (h7 := Nat.succ_pos 3) (v := .slice at5 k ct5) (n := k) (xs := (tieN bn Ls Ts).ties.flatMap TieM.cells) (hs := rfl) (hown := (HN1.out.lenT HE0.out).alloc _) (ad := ⟨w1.heap.size, 0, none⟩) (m := 1) (c := 1) (news := [.string x, .int .i64 p1, .int .i64 q, .bool cx]) (hx := rfl) (hn := rfl) (hc := cell_news w1 [.string x, .int .i64 p1, .int .i64 q, .bool cx] 47) (h1c := four_one) (b1 := by unfold maxLen; omega) (b2 := by omega) (b3 := by have := HN1.out.sz; simp; omega) (hK := ?_)
                intro v' w6 hown' hgrow
                obtain ⟨a', c', rfl⟩ := own_slice hown'
                obtain ⟨m1, f1⟩ := HN1.out.mid _ (HN1.out.lenT HE0.out) hgrow 5 rfl
                have hbxl : bx < w.heap.size := World.block_lt_of_cell? w _ x1'
                have d1 := HN1.out.far _ (HN1.out.lenT HE0.out) hgrow (p := ⟨w.heap.size, 2, none⟩) (show w.heap.size < w.heap.size + 3 from Nat.lt_add_of_pos_right (by decide)) z1
                have d2 := HN1.out.far _ (HN1.out.lenT HE0.out) hgrow (p := ⟨bx, ox + k * 3 + 1, none⟩) (show bx < w.heap.size + 3 from Nat.lt_of_lt_of_le hbxl (Nat.le_add_right _ _)) z2
                have d3 := HN1.out.far _ (HN1.out.lenT HE0.out) hgrow (p := ⟨bx, ox + k * 3 + 2, none⟩) (show bx < w.heap.size + 3 from Nat.lt_of_lt_of_le hbxl (Nat.le_add_right _ _)) z3
                rw [show w.heap.size + 2 = K from HK.out.symm] at m1 f1
                refine hK.out _ _ (fun _ => by exact ⟨m1, d1, d2, d3⟩) ?_
                clear hK K'
                refine wpAnyT_one (i := 29) (by kernel_rfl) rfl rfl (fun K' hK => ?_)
                go_simp
                refine hK.out _ _ (fun _ => by exact ⟨m1, d1, d2, d3⟩) ?_
                clear hK K'
                refine wpAnyT_one (i := 30) (by kernel_rfl) rfl rfl (fun K' hK => ?_)
                go_simp
                refine hK.out _ _ (fun h => absurd rfl h) ?_
                clear hK K'
                refine wpAnyT_done (by kernel_rfl) ?_ _
                have hfin := HN1.out.tie (x := ⟨x, p1, q, cx⟩) hgrow (by rw [HE0.out]; exact hown')
                have hfin2 : Nf w (w6.setCell ⟨K, 5, none⟩ (.slice a' (k + 1) c')) rw0 (tieN bn Ls (Ts ++ [⟨x, p1, q, cx⟩])) b l (.slice none 0 0) (.slice none 0 0) (.slice a' (k + 1) c') := by
                  rw [HK.out]
                  exact hfin
                have hok : TieOk bn Ts.length ⟨x, p1, q, cx⟩ := by
                  refine ⟨?_, ?_, ?_, ?_, ?_, ?_⟩
                  · rw [hlt2, ← HX.out]; rfl
                  · show (0 : Int) ≤ p1; omega
                  · show (p1 : Int) < bn; omega
                  · show (0 : Int) ≤ q; omega
                  · show (q : Int) < bn; omega
                  · show (p1 : Int) ≠ q; omega
                have HF := hide' hfin2
                have HA3 := hide' (HA2.out.snoc hok)
                clear hfin hfin2 hgrow hown' m1 f1 q51 b1 b2 b3 b4 q5 HN HN1 HD HSZ d1 d2 d3 z1 z2 z3 y1 y2 hq1 hq2 hwr1 hwr2 hwr3 hok HX
                go_wp2
                exact ⟨⟨k + 1, _, _, by go_num, by simp [hlt2], by omega, HA3, HF⟩, by simp [intOf]; omega⟩
              · have hor : (k < n2 ∧ ¬ k < 8) ∨ ¬ k < n2 := by omega
                have HG := hide' (good_tieN hb8 HA.out HA2.out (by omega) (by omega))
                obtain ⟨ab, cb, rfl⟩ := own_slice HN.out.owns.hb
                obtain ⟨al, cl, rfl⟩ := own_slice HN.out.owns.hl
                obtain ⟨at5, ct5, rfl⟩ := own_slice HN.out.owns.ht
                have i0 : wr.cell? ⟨K, 0, none⟩ = some (.string ⟨#[110]⟩) := by rw [HK.out]; exact HN.out.cell 0 rfl
                have i1 : wr.cell? ⟨K, 1, none⟩ = some (.slice ab (tieN bn Ls Ts).buses.length cb) := by rw [HK.out]; exact HN.out.cell 1 rfl
                have i2 : wr.cell? ⟨K, 2, none⟩ = some (.slice al (tieN bn Ls Ts).lines.length cl) := by rw [HK.out]; exact HN.out.cell 2 rfl
                have i3 : wr.cell? ⟨K, 3, none⟩ = some (.slice none 0 0) := by rw [HK.out]; exact HN.out.cell 3 rfl
                have i4 : wr.cell? ⟨K, 4, none⟩ = some (.slice none 0 0) := by rw [HK.out]; exact HN.out.cell 4 rfl
                have i5 : wr.cell? ⟨K, 5, none⟩ = some (.slice at5 (tieN bn Ls Ts).ties.length ct5) := by rw [HK.out]; exact HN.out.cell 5 rfl
                obtain ⟨j0, j1, j2, j3, j4, j5, fj⟩ := cells28 HN.out.res
                obtain ⟨w2, hw2⟩ : ∃ w2, w2 = six wr (w.heap.size + 1) (.string ⟨#[110]⟩) (.slice ab (tieN bn Ls Ts).buses.length cb) (.slice al (tieN bn Ls Ts).lines.length cl) (.slice none 0 0) (.slice none 0 0) (.slice at5 (tieN bn Ls Ts).ties.length ct5) := ⟨_, rfl⟩
                have e1 : Below w.heap.size w w2 := by rw [hw2]; exact six_below HN.out.bel (Nat.le_succ _) _ _ _ _ _ _
                have e2 : w2.heap[w.heap.size + 1]? = some (.cells #[.string ⟨#[110]⟩, .slice ab (tieN bn Ls Ts).buses.length cb, .slice al (tieN bn Ls Ts).lines.length cl, .slice none 0 0, .slice none 0 0, .slice at5 (tieN bn Ls Ts).ties.length ct5] 33 (0, 0)) := by rw [hw2]; exact six_box HN.out.res _ _ _ _ _ _
                have e4 : Owns w2 w.heap.size (.slice ab (tieN bn Ls Ts).buses.length cb) (.slice al (tieN bn Ls Ts).lines.length cl) (.slice none 0 0) (.slice none 0 0) (.slice at5 (tieN bn Ls Ts).ties.length ct5) (tieN bn Ls Ts) := by
                  rw [hw2]
                  have o := HN.out.owns
                  exact ⟨own_base (six_own o.hb HN.out.res (by decide) _ _ _ _ _ _) (Nat.le_add_right _ _), own_base (six_own o.hl HN.out.res (by decide) _ _ _ _ _ _) (Nat.le_add_right _ _), own_base (six_own o.hg HN.out.res (by decide) _ _ _ _ _ _) (Nat.le_add_right _ _), own_base (six_own o.hd HN.out.res (by decide) _ _ _ _ _ _) (Nat.le_add_right _ _), own_base (six_own o.ht HN.out.res (by decide) _ _ _ _ _ _) (Nat.le_add_right _ _)⟩
                have HO := hide' e4
                have HE := hide' e1
                obtain ⟨g0, g1, g2, g3, g4, g5, _⟩ := cells28 e2
                unfold six at hw2
                have HW2 := hide' hw2
                clear e1 e2 e4 hw2 HN
                rcases hor with ⟨hk1, hk2⟩ | hk1
                all_goals
                  go_wp2
                  rw [← HW2.out]
                  refine bodyPost_ret (v := .agg #[.string ⟨#[110]⟩, .slice ab (tieN bn Ls Ts).buses.length cb, .slice al (tieN bn Ls Ts).lines.length cl, .slice none 0 0, .slice none 0 0, .slice at5 (tieN bn Ls Ts).ties.length ct5]) (by simp [results, Tryz.results4, go_sem, g0, g1, g2, g3, g4, g5]) rfl ?_
                  exact ⟨tieN bn Ls Ts, _, _, _, _, _, rfl, ⟨HG.out, by show 2 ≤ ((List.range bn).map (nm 98)).length; rw [List.length_map, List.length_range]; exact hb2⟩, HO.out, HE.out⟩
end Go.Proofs.YtjcpcjickdcpmacGreatDoor
