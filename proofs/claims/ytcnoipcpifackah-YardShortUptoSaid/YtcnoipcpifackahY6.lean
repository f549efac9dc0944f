/- Two groups of points become one, in the program. -/
import Derived.Test.YtcnoipcpifackahY5
namespace Go.Proofs.Ytcnoipcpifackah
open Go.RowKit Go.Shelf

/-- Nothing but one block has changed. -/
structure But (M : Nat) (W W' : World) : Prop where
  os : W'.os = W.os
  tape : W'.tape = W.tape
  output : W'.output = W.output
  size : W.heap.size ≤ W'.heap.size
  block : ∀ k, k < W.heap.size → k ≠ M → W'.heap[k]? = W.heap[k]?
theorem But.refl (M : Nat) (W : World) : But M W W := ⟨rfl, rfl, rfl, Nat.le_refl _, fun _ _ _ => rfl⟩
theorem But.trans {M : Nat} {W W' W'' : World} (h : But M W W') (h' : But M W' W'') : But M W W'' :=
  ⟨h'.os.trans h.os, h'.tape.trans h.tape, h'.output.trans h.output, Nat.le_trans h.size h'.size, fun k hk hm => (h'.block k (Nat.lt_of_lt_of_le hk h.size) hm).trans (h.block k hk hm)⟩
theorem But.of {M : Nat} {W W' : World} (h : Below W.heap.size W W') : But M W W' := ⟨h.os, h.tape, h.output, h.size, fun k hk _ => h.block k hk⟩
theorem But.set {M : Nat} {W W' : World} (h : But M W W') (j : Nat) (x : Value) : But M W (W'.setCell ⟨M, j, none⟩ x) := by
  have hb := Below.setCell (p := ⟨M, j, none⟩) (Below.refl 0 W') (Nat.zero_le _) x
  exact ⟨hb.os.trans h.os, hb.tape.trans h.tape, hb.output.trans h.output, Nat.le_trans h.size hb.size, fun k hk hm => (Below.heap_setCell _ _ _ k hm).trans (h.block k hk hm)⟩
theorem own_int {w : World} {B G n cg : Nat} {l : List Int} (h : w.ownsRow B 3 1 (.slice (some ⟨G, 0, none⟩) n cg) n (ints l)) {p : Nat} (hp : p < n) : w.cell? ⟨G, p, none⟩ = some (.int .i64 (l.getD p 0)) ∧ w.frozen? ⟨G, p, none⟩ = false := by
  have hl : l.length = n := by have := h.1; rw [ints_len] at this; omega
  rcases h.2 with ⟨h1, _⟩ | ⟨g, cap, cur, h1, _, h2, h3, _, h4, h5⟩
  · cases h1
  · cases h1
    refine ⟨?_, frozen_no h2 _⟩
    rw [cells_at h2]
    have h6 : (cur.toList.take (n * 1))[p]? = some (.int .i64 (l.getD p 0)) := by
      rw [h5, ints, List.getElem?_map, List.getElem?_eq_getElem (by omega), List.getD_eq_getElem?_getD, List.getElem?_eq_getElem (by omega)]
      rfl
    rw [List.getElem?_take_of_lt (by omega)] at h6
    simpa using h6
theorem own_int_set {w : World} {B G n cg : Nat} {l : List Int} (h : w.ownsRow B 3 1 (.slice (some ⟨G, 0, none⟩) n cg) n (ints l)) {p : Nat} (_hp : p < n) (x : Int) : (w.setCell ⟨G, p, none⟩ (.int .i64 x)).ownsRow B 3 1 (.slice (some ⟨G, 0, none⟩) n cg) n (ints (l.set p x)) := by
  have hl : l.length = n := by have := h.1; rw [ints_len] at this; omega
  rcases h.2 with ⟨h1, _⟩ | ⟨g, cap, cur, h1, h0, h2, h3, h3', h4, h5⟩
  · cases h1
  · cases h1
    refine ⟨by rw [ints_len, List.length_set]; omega, .inr ⟨G, cg, _, rfl, h0, set_any h2 p _, h3, h3', by simpa using h4, ?_⟩⟩
    rw [Array.toList_setIfInBounds, List.take_set, h5, ints, ints, List.map_set]
/-- The groups at work. -/
structure JSt (w wr : World) (E G n cg B : Nat) (bv : Array Value) (l : List Int) : Prop where
  hE : wr.heap[E]? = some (.cells bv 50 (0, 0))
  own : wr.ownsRow B 3 1 (.slice (some ⟨G, 0, none⟩) n cg) n (ints l)
  but : But G w wr
theorem own_blk {w : World} {B G n cg e : Nat} {xs : List Value} (h : w.ownsRow B e 1 (.slice (some ⟨G, 0, none⟩) n cg) n xs) : ∃ cur, w.heap[G]? = some (.cells cur e (0, 0)) := by
  rcases h.2 with ⟨h1, _⟩ | ⟨g, cap, cur, h1, _, h2, _⟩
  · cases h1
  · cases h1; exact ⟨_, h2⟩
theorem JSt.set {w wr : World} {E G n cg B p : Nat} {bv : Array Value} {l : List Int} (h : JSt w wr E G n cg B bv l) (hp : p < n) (x : Int) : JSt w (wr.setCell ⟨G, p, none⟩ (.int .i64 x)) E G n cg B bv (l.set p x) := by
  obtain ⟨cur, hc⟩ := own_blk h.own
  refine ⟨(Below.heap_setCell _ _ _ E (fun e => ?_)).trans h.hE, own_int_set h.own hp x, h.but.set p _⟩
  have e' : E = G := e
  have h1 := h.hE
  rw [e', hc] at h1
  cases h1
/-- The first p are joined. -/
def joinTo (g : List Int) (a b p : Nat) : List Int := (joinL g a b).take p ++ g.drop p
theorem joinTo_get {g : List Int} {a b p : Nat} : (joinTo g a b p).getD p 0 = g.getD p 0 := by
  unfold joinTo
  by_cases hp : p < g.length
  · rw [List.getD_eq_getElem?_getD, List.getElem?_append_right (by rw [List.length_take, joinL_len]; omega), List.length_take, joinL_len, Nat.min_eq_left (Nat.le_of_lt hp), Nat.sub_self, List.getElem?_drop, Nat.add_zero, List.getD_eq_getElem?_getD]
  · rw [List.getD_eq_getElem?_getD, List.getElem?_eq_none (by rw [List.length_append, List.length_take, joinL_len, List.length_drop]; omega), List.getD_eq_getElem?_getD, List.getElem?_eq_none (by omega)]
theorem joinTo_next {g : List Int} {a b p : Nat} (hp : p < g.length) : joinTo g a b (p + 1) = (joinTo g a b p).set p (if g.getD p 0 = g.getD b 0 then g.getD a 0 else g.getD p 0) := by
  have hj : p < (joinL g a b).length := by rw [joinL_len]; exact hp
  have h1 := joinL_get (a := a) (b := b) hp
  rw [List.getD_eq_getElem?_getD, List.getElem?_eq_getElem hj] at h1
  unfold joinTo
  rw [List.set_append_right _ _ (by rw [List.length_take, joinL_len]; omega), List.length_take, joinL_len, Nat.min_eq_left (Nat.le_of_lt hp), Nat.sub_self, List.take_succ_eq_append_getElem hj, List.drop_eq_getElem_cons hp, List.set_cons_zero, List.append_assoc, ← h1]
  rfl
theorem set_same {l : List Int} {p : Nat} : l.set p (l.getD p 0) = l := by
  by_cases hp : p < l.length
  · rw [List.getD_eq_getElem?_getD, List.getElem?_eq_getElem hp]
    exact List.set_getElem_self hp
  · exact List.set_eq_of_length_le (by omega)
set_option maxRecDepth 100000 in
set_option maxHeartbeats 2000000 in
theorem join_any (grp : List Int) (a b n G cg B : Nat) (af ad as' : Option Addr) (lf cf ld cd ls cs : Nat) (w : World) (ho : w.ownsRow B 3 1 (.slice (some ⟨G, 0, none⟩) n cg) n (ints grp)) (ha : a < n) (hb : b < n) (hn : n ≤ 1000) :
    Calls Try.prog 46 #[.agg #[.int .i64 n, .slice af lf cf, .slice ad ld cd, .slice as' ls cs, .slice (some ⟨G, 0, none⟩) n cg, .slice none 0 0, .slice none 0 0, .slice none 0 0], .int .i64 a, .int .i64 b] w fun e w' => e = .returned (.tuple #[]) ∧ w'.ownsRow B 3 1 (.slice (some ⟨G, 0, none⟩) n cg) n (ints (joinL grp a b)) ∧ But G w w' := by
  have hl : grp.length = n := by have := ho.1; rw [ints_len] at this; omega
  have HL := hide' hl
  have HST0 : Hid (∀ q, JSt w ((w.alloc (.cells #[.int .i64 n, .slice af lf cf, .slice ad ld cd, .slice as' ls cs, .slice (some ⟨G, 0, none⟩) n cg, .slice none 0 0, .slice none 0 0, .slice none 0 0] 50)).drewN q) w.heap.size G n cg B #[.int .i64 n, .slice af lf cf, .slice ad ld cd, .slice as' ls cs, .slice (some ⟨G, 0, none⟩) n cg, .slice none 0 0, .slice none 0 0, .slice none 0 0] (joinTo grp a b 0)) := fun q => by
    have hb := below_drewN (below_al w (.cells #[.int .i64 n, .slice af lf cf, .slice ad ld cd, .slice as' ls cs, .slice (some ⟨G, 0, none⟩) n cg, .slice none 0 0, .slice none 0 0, .slice none 0 0] 50)) q
    exact ⟨alloc_new w _, by rw [show joinTo grp a b 0 = grp from rfl]; exact own_below ho hb (Nat.le_refl _), But.of hb⟩
  have gb := own_int (ho.alloc (.cells #[.int .i64 n, .slice af lf cf, .slice ad ld cd, .slice as' ls cs, .slice (some ⟨G, 0, none⟩) n cg, .slice none 0 0, .slice none 0 0, .slice none 0 0] 50)) hb
  have ga := own_int (ho.alloc (.cells #[.int .i64 n, .slice af lf cf, .slice ad ld cd, .slice as' ls cs, .slice (some ⟨G, 0, none⟩) n cg, .slice none 0 0, .slice none 0 0, .slice none 0 0] 50)) ha
  have ga0 := ga.1
  have gb0 := gb.1
  have e4 : (w.alloc (.cells #[.int .i64 n, .slice af lf cf, .slice ad ld cd, .slice as' ls cs, .slice (some ⟨G, 0, none⟩) n cg, .slice none 0 0, .slice none 0 0, .slice none 0 0] 50)).cell? ⟨w.heap.size, 4, none⟩ = some (.slice (some ⟨G, 0, none⟩) n cg) := (cells_at (alloc_new _ _) 4).trans rfl
  have HNX : Hid (∀ p, p < n → joinTo grp a b (p + 1) = (joinTo grp a b p).set p (if grp.getD p 0 = grp.getD b 0 then grp.getD a 0 else grp.getD p 0)) := fun p hp => joinTo_next (by rw [hl]; exact hp)
  obtain ⟨xa, hxa⟩ : ∃ x, x = grp.getD a 0 := ⟨_, rfl⟩
  obtain ⟨xb, hxb⟩ : ∃ x, x = grp.getD b 0 := ⟨_, rfl⟩
  rw [← hxa] at ga0 HNX
  rw [← hxb] at gb0 HNX
  clear ho gb ga hxa hxb hl
  obtain ⟨w1, hw1⟩ : ∃ x, x = w.alloc (.cells #[.int .i64 n, .slice af lf cf, .slice ad ld cd, .slice as' ls cs, .slice (some ⟨G, 0, none⟩) n cg, .slice none 0 0, .slice none 0 0, .slice none 0 0] 50) := ⟨_, rfl⟩
  rw [← hw1] at ga0 gb0 e4 HST0
  go_enter Try.func46, Try.ntmps46
  go_upto_region 1 with fail
  rw [← hw1]
  obtain ⟨E, hE⟩ : ∃ E, E = w.heap.size := ⟨_, rfl⟩
  rw [← hE] at e4 HST0
  rw [show (Value.pointer (some { block := w.heap.size, off := 0 })) = Value.pointer (some { block := E, off := 0 }) by rw [hE]]
  clear hw1 hE
  go_wp2_with fail
  go_quiet (fail)
  have HST1 := hide' (HST0.out nq)
  clear HST0 ga0 gb0 e4
  obtain ⟨w2, hw2⟩ : ∃ x, x = w1.drewN nq := ⟨_, rfl⟩
  rw [← hw2] at HST1 ⊢
  clear hw2
  have e4 : w2.cell? ⟨E, 4, none⟩ = some (.slice (some ⟨G, 0, none⟩) n cg) := (cells_at HST1.out.hE 4).trans rfl
  go_wp2_with fail
  clear e4
  go_loopw [23] (fun i wr => ∃ (p : Nat), i = .int .i64 p ∧ p ≤ n ∧ Hid (JSt w wr E G n cg B #[.int .i64 n, .slice af lf cf, .slice ad ld cd, .slice as' ls cs, .slice (some ⟨G, 0, none⟩) n cg, .slice none 0 0, .slice none 0 0, .slice none 0 0] (joinTo grp a b p))) (fun i _ => n - (intOf i).toNat)
  case atStart => exact ⟨0, rfl, Nat.zero_le _, HST1⟩
  case round =>
    clear HST1
    obtain ⟨p, rfl, hp, HST⟩ := hrel
    by_cases hlt : p < n
    · have e4 : wr.cell? ⟨E, 4, none⟩ = some (.slice (some ⟨G, 0, none⟩) n cg) := (cells_at HST.out.hE 4).trans rfl
      obtain ⟨g0, g1⟩ := own_int HST.out.own hlt
      rw [joinTo_get] at g0
      have HJ := hide' (HNX.out p hlt)
      have HJS : Hid ((joinTo grp a b p).set p (grp.getD p 0) = joinTo grp a b p) := by
        have := set_same (l := joinTo grp a b p) (p := p)
        rw [joinTo_get] at this
        exact this
      obtain ⟨x, hx⟩ : ∃ x, x = grp.getD p 0 := ⟨_, rfl⟩
      rw [← hx] at g0 HJ HJS
      clear hx
      by_cases hxb : x = xb
      · have HN := hide' (HST.out.set hlt xa)
        rw [if_pos hxb] at HJ
        rw [← HJ.out] at HN
        have hxb' : (x == xb) = true := by simp [hxb]
        clear HST HJ HJS hxb
        go_wp2
        go_roundw
        case rel => exact ⟨p + 1, by go_num, by omega, HN⟩
        case measure => simp [intOf]; omega
      · have hxb' : (x == xb) = false := by simp [hxb]
        rw [if_neg hxb, HJS.out] at HJ
        rw [← HJ.out] at HST
        clear HJ HJS hxb
        go_wp2
        go_roundw
        case rel => exact ⟨p + 1, by go_num, by omega, HST⟩
        case measure => simp [intOf]; omega
    · have hpe : p = n := by omega
      subst hpe
      have HF : Hid (joinTo grp a b p = joinL grp a b) := by
        show _ = _
        unfold joinTo
        rw [List.take_of_length_le (by rw [joinL_len, HL.out]; exact Nat.le_refl _), List.drop_of_length_le (by rw [HL.out]; exact Nat.le_refl _), List.append_nil]
      rw [HF.out] at HST
      go_wp2
      refine bodyPost_end (results_none rfl _ _ _) rfl ?_
      exact ⟨rfl, HST.out.own, HST.out.but⟩
end Go.Proofs.Ytcnoipcpifackah
