/- Units gathered, with the order in which they are asked for more. -/
import Derived.Test.YtlbeecjkfakkpagE5
namespace Go.Proofs.Ytlbeecjkfakkpag
open Go.RowKit Go.Shelf

/-- The ranks at work. -/
structure GSt (w wr : World) (A K1 K2 : Nat) (lv rv : Value) (k : Nat) : Prop where
  eA : w.heap.size ≤ A
  e1 : A < K1
  e2 : K1 < K2
  box : wr.heap[A]? = some (.cells #[lv] 22 (0, 0))
  out : wr.heap[K1]? = some (.cells #[.slice none 0 0, .slice none 0 0] 54 (0, 0))
  fleet : wr.heap[K2]? = some (.cells #[lv, rv] 54 (0, 0))
  own : wr.ownsRow (K2 + 1) 3 1 rv k (ints (natsI (Array.range k)))
  bel : Below w.heap.size w wr
  size : K2 + 1 ≤ wr.heap.size
theorem alloc_new (w : World) (o : Obj) : (w.alloc o).heap[w.heap.size]? = some o := by
  show (w.heap.push o)[w.heap.size]? = some o
  simp
theorem alloc_old (w : World) (o : Obj) {k : Nat} (h : k < w.heap.size) : (w.alloc o).heap[k]? = w.heap[k]? := by
  show (w.heap.push o)[k]? = _
  rw [Array.getElem?_push, if_neg (by omega)]
theorem nats_range_succ (k : Nat) : natsI (Array.range (k + 1)) = natsI (Array.range k) ++ [(k : Int)] := by
  unfold natsI
  simp [Array.range_succ]
theorem nats_range_len (k : Nat) : (natsI (Array.range k)).length = k := by unfold natsI; simp
theorem GSt.next {w wr w2 : World} {A K1 K2 : Nat} {lv rv rv' : Value} {k : Nat} {o : Obj} (h : GSt w wr A K1 K2 lv rv k) (ho : w2.ownsRow (K2 + 1) 3 1 rv' (k + 1) (ints (natsI (Array.range k)) ++ [.int .i64 k])) (hg : (wr.alloc o).grownBy w2 rv.ownBlock) :
    w2.heap[K2]? = some (.cells #[lv, rv] 54 (0, 0)) ∧ GSt w (w2.setCell ⟨K2, 1, none⟩ rv') A K1 K2 lv rv' (k + 1) := by
  have e1 := h.e1
  have e2 := h.e2
  have eA := h.eA
  have hb : Below (K2 + 1) wr w2 := below_app (Below.refl _ wr) h.own (Nat.le_refl _) h.size hg
  have hf : w2.heap[K2]? = some (.cells #[lv, rv] 54 (0, 0)) := (hb.block _ (by omega)).trans h.fleet
  have hs : ∀ j, j ≠ K2 → (w2.setCell ⟨K2, 1, none⟩ rv').heap[j]? = w2.heap[j]? := fun j hj => Below.heap_setCell w2 _ _ j hj
  have hs2 : (w2.setCell ⟨K2, 1, none⟩ rv').heap.size = w2.heap.size := by simp
  refine ⟨hf, eA, e1, e2, (hs _ (by omega)).trans ((hb.block _ (by omega)).trans h.box), (hs _ (by omega)).trans ((hb.block _ (by omega)).trans h.out), (set_any hf 1 rv').trans rfl, ?_, ?_, ?_⟩
  · have h2 : (w2.setCell ⟨K2, 1, none⟩ rv').ownsRow (K2 + 1) 3 1 rv' (k + 1) (ints (natsI (Array.range k)) ++ [.int .i64 k]) := own_other ho (fun j hj => hs j (by have := (ho.lt j hj).1; omega))
    rw [nats_range_succ]
    have h3 := own_snoc (f := Value.int .i64) (out := natsI (Array.range k)) (x := (k : Int)) (by rw [nats_range_len]; exact h2)
    rw [List.length_append, nats_range_len] at h3
    exact h3
  · exact (h.bel.trans (hb.mono (by omega))).setCell (p := ⟨K2, 1, none⟩) (by show w.heap.size ≤ K2; omega) _
  · rw [hs2]; exact Nat.le_trans h.size hb.size
/-- What is gathered. -/
def FleetAs (us : List UnitM) (lv : Value) (w : World) (e : Ending) (w' : World) : Prop := ∃ d rv, e = .returned (.agg #[lv, rv]) ∧ Rk (costN us) us.length us.length d ∧ w'.ownsRow w.heap.size 3 1 rv us.length (ints (natsI d)) ∧ Below w.heap.size w w'
theorem own_mono {W : World} {B B' e sz n : Nat} {v : Value} {xs : List Value} (h : W.ownsRow B e sz v n xs) (hb : B' ≤ B) : W.ownsRow B' e sz v n xs := by
  refine ⟨h.1, ?_⟩
  rcases h.2 with h2 | ⟨g, cp, cur, h3, h4, h5⟩
  · exact .inl h2
  · exact .inr ⟨g, cp, cur, h3, Nat.le_trans hb h4, h5⟩
theorem sort_zero (v f : Value) (w : World) : Calls Try.prog 63 #[v, .int .i64 0, .int .i64 0, f] w fun e w' => e = .returned (.tuple #[]) ∧ w' = w := by
  go_enter Try.func63, Try.ntmps63
  go_wp2_with fail
  go_loopw [8] (fun b wr => b = .int .i64 1 ∧ wr = w) (fun _ _ => 0)
  case atStart => exact ⟨rfl, rfl⟩
  case round =>
    obtain ⟨rfl, rfl⟩ := hrel
    go_wp2
    refine bodyPost_end (results_none rfl _ _ _) rfl ?_
    exact ⟨rfl, rfl⟩
theorem ranks_none {us : List UnitM} {W : World} {B : Nat} {v f : Value} (h0 : us.length = 0) (how : W.ownsRow B 3 1 v us.length (ints (natsI (Array.range us.length)))) : Calls Try.prog 63 #[v, .int .i64 0, .int .i64 us.length, f] W fun e w' => e = .returned (.tuple #[]) ∧ Sorted us B v W w' := by
  have h := sort_rk (costN us) us.length
  have hr : Go.Sort.insertionSort (ltC (costN us)) (Array.range us.length) 0 us.length = Array.range us.length := by
    rw [h0]
    unfold Go.Sort.insertionSort
    rw [Go.Sort.insOuter, if_neg (by omega)]
  rw [hr] at h
  have hc := sort_zero v f W
  rw [show ((us.length : Nat) : Int) = 0 by omega]
  refine hc.mono ?_
  rintro e w' ⟨rfl, rfl⟩
  exact ⟨rfl, _, h, how, Below.refl _ _⟩
set_option maxRecDepth 100000 in
set_option maxHeartbeats 2000000 in
theorem gather_any (us : List UnitM) (lv : Value) (w : World) (hx : UnitsAt w lv us) (h4 : us.length ≤ 4) : Calls Try.prog 26 #[lv] w (FleetAs us lv w) := by
  obtain ⟨i0, hi0, hzz0, hzz1, hzz2⟩ := info_parts Try.info3
  have HG := hide' hx
  obtain ⟨ag, cg, rfl⟩ := rowAt_slice hx
  clear hx
  go_enter Try.func26, Try.ntmps26
  go_wp2_with fail
  have HS0 : Hid (GSt w (((w.alloc (Obj.cells #[Value.slice ag us.length cg] 22)).alloc (Obj.cells #[Value.slice none 0 0, Value.slice none 0 0] 54)).alloc (Obj.cells #[Value.slice ag us.length cg, Value.slice none 0 0] 54)) w.heap.size (w.heap.size + 1) (w.heap.size + 1 + 1) (.slice ag us.length cg) (.slice none 0 0) 0) :=
    ⟨Nat.le_refl _, by omega, by omega, by rw [alloc_old _ _ (by simp; omega), alloc_old _ _ (by simp)]; exact alloc_new _ _, by rw [alloc_old _ _ (by simp)]; exact (by have := alloc_new (w.alloc (Obj.cells #[Value.slice ag us.length cg] 22)) (Obj.cells #[Value.slice none 0 0, Value.slice none 0 0] 54); rw [World.size_alloc] at this; exact this), by have := alloc_new ((w.alloc (Obj.cells #[Value.slice ag us.length cg] 22)).alloc (Obj.cells #[Value.slice none 0 0, Value.slice none 0 0] 54)) (Obj.cells #[Value.slice ag us.length cg, Value.slice none 0 0] 54); rw [World.size_alloc, World.size_alloc] at this; exact this, World.ownsRow_nil _ _ _ _, (((Below.refl _ w).alloc (Nat.le_refl _) _).alloc (by simp) _).alloc (by simp; omega) _, by simp⟩
  obtain ⟨K2, hK2⟩ : ∃ K, K = w.heap.size + 1 + 1 := ⟨_, rfl⟩
  rw [← hK2] at HS0 ⊢
  obtain ⟨K1, hK1⟩ : ∃ K, K = w.heap.size + 1 := ⟨_, rfl⟩
  rw [← hK1] at HS0 ⊢
  obtain ⟨A, hA⟩ : ∃ K, K = w.heap.size := ⟨_, rfl⟩
  obtain ⟨W0, hW0⟩ : ∃ W, W = (((w.alloc (Obj.cells #[Value.slice ag us.length cg] 22)).alloc (Obj.cells #[Value.slice none 0 0, Value.slice none 0 0] 54)).alloc (Obj.cells #[Value.slice ag us.length cg, Value.slice none 0 0] 54)) := ⟨_, rfl⟩
  have HS1 : Hid (GSt w W0 A K1 K2 (.slice ag us.length cg) (.slice none 0 0) 0) := by rw [hW0, hA]; exact HS0
  rw [← hW0]
  rw [show (Value.pointer (some { block := w.heap.size, off := 0 })) = Value.pointer (some { block := A, off := 0 }) by rw [hA]]
  clear hK2 hK1 hA hW0 HS0
  go_loopw [9] (fun i wr => ∃ (k : Nat) (rv : Value), i = .int .i64 k ∧ k ≤ us.length ∧ Hid (GSt w wr A K1 K2 (.slice ag us.length cg) rv k)) (fun i _ => us.length - (intOf i).toNat)
  case atStart => exact ⟨0, _, rfl, Nat.zero_le _, HS1⟩
  case round =>
    clear HS1
    obtain ⟨k, rv, rfl, hk, HST⟩ := hrel
    by_cases hlt : k < us.length
    · obtain ⟨ar, cr, rfl⟩ := rowAt_slice (rowAt_of_own HST.out.own)
      have c1 : wr.cell? ⟨K2, 1, none⟩ = some (.slice ar k cr) := by simp [World.cell?, HST.out.fleet]
      have HOWN := hide' HST.out.own
      have HLE : Hid (K2 + 1 ≤ wr.heap.size) := HST.out.size
      go_wp2_with (at_builtin; refine wpList_append_own _ rfl _ _ 24 rfl (K2 + 1) 3 i0 (.int .i64 0) 1 8 Try.underlying24 hi0 hzz0 hzz1 hzz2 rfl (by decide) _ _ _ rfl (HOWN.out.alloc _) ⟨wr.heap.size, 0, none⟩ 1 1 [.int .i64 k] rfl rfl (cell_one_new _ _ _) (one_cell rfl) (by unfold maxLen; omega) (by omega) (by have := HLE.out; simp; omega) ?_; intro v' w2 hown' hgrow _; refine Still.go ?_)
      unfold Still
      obtain ⟨ar', cr', rfl⟩ := rowAt_slice (rowAt_of_own hown')
      have hn := HST.out.next hown' hgrow
      have HN := hide' hn.2
      have c2 : w2.cell? ⟨K2, 1, none⟩ = some (.slice ar k cr) := by simp [World.cell?, hn.1]
      have f2 : w2.frozen? ⟨K2, 1, none⟩ = false := frozen_no hn.1 _
      clear hn hown' hgrow HST HOWN HLE c1
      go_wp2
      go_roundw
      case rel => exact ⟨k + 1, _, by go_num, by omega, HN⟩
      case measure => simp [intOf]; omega
    · have hke : k = us.length := by omega
      subst hke
      obtain ⟨ar, cr, rfl⟩ := rowAt_slice (rowAt_of_own HST.out.own)
      have c0 : wr.cell? ⟨K2, 0, none⟩ = some (.slice ag us.length cg) := by simp [World.cell?, HST.out.fleet]
      have c1 : wr.cell? ⟨K2, 1, none⟩ = some (.slice ar us.length cr) := by simp [World.cell?, HST.out.fleet]
      have HC : Hid (Calls Try.prog 45 #[.slice ar us.length cr, .func (.func 46) #[] #[.pointer (some ⟨A, 0, none⟩)]] wr fun e w' => e = .returned (.tuple #[]) ∧ Sorted us (K2 + 1) (.slice ar us.length cr) wr w') := by
        refine sorts_of _ _ _ _ _ _ h4 ?_
        rcases Nat.eq_zero_or_pos us.length with h0 | h0
        · exact ranks_none h0 HST.out.own
        · rcases HST.out.own.2 with ⟨h1, h2⟩ | ⟨g', cap', cur, h1, h2⟩
          · omega
          · rw [h1]
            refine ranks_sort h0 h4 HG.out HST.out.bel (by simp [World.cell?, HST.out.box]) (by have := HST.out.e1; have := HST.out.e2; omega) (by have := HST.out.eA; have := HST.out.e1; have := HST.out.e2; omega) ?_
            rw [← h1]
            exact HST.out.own
      have HF1 : Hid (∀ w', Below (K2 + 1) wr w' → w'.heap[K1]? = some (.cells #[.slice none 0 0, .slice none 0 0] 54 (0, 0)) ∧ w'.heap[K2]? = some (.cells #[.slice ag us.length cg, .slice ar us.length cr] 54 (0, 0))) := fun w' h => ⟨(h.block _ (by have := HST.out.e2; omega)).trans HST.out.out, (h.block _ (by omega)).trans HST.out.fleet⟩
      go_wp2_with fail
      refine HC.out.mono ?_
      rintro e w1 ⟨rfl, d, hd1, hd2, hd3⟩
      obtain ⟨q1, q2⟩ := HF1.out w1 hd3
      have d0 : w1.cell? ⟨K2, 0, none⟩ = some (.slice ag us.length cg) := by simp [World.cell?, q2]
      have d1 : w1.cell? ⟨K2, 1, none⟩ = some (.slice ar us.length cr) := by simp [World.cell?, q2]
      have d2 : w1.cell? ⟨K1, 0, none⟩ = some (.slice none 0 0) := by simp [World.cell?, q1]
      have d3 : w1.cell? ⟨K1, 1, none⟩ = some (.slice none 0 0) := by simp [World.cell?, q1]
      have d4 : w1.frozen? ⟨K1, 0, none⟩ = false := frozen_no q1 _
      have d5 : w1.frozen? ⟨K1, 1, none⟩ = false := frozen_no q1 _
      have HD1 := hide' hd1
      have HD2 := hide' hd2
      have HD3 := hide' hd3
      have HE : Hid (w.heap.size ≤ K1 ∧ K1 < K2 + 1) := ⟨by have := HST.out.eA; have := HST.out.e1; omega, by have := HST.out.e2; omega⟩
      have HBE := hide' HST.out.bel
      have HK : Hid (w.heap.size ≤ K2 + 1) := by show _ ≤ _; have := HST.out.eA; have := HST.out.e1; have := HST.out.e2; omega
      have HQ1 := hide' q1
      clear hd1 hd2 hd3 q1 q2 HC HF1 HST c0 c1
      go_wp2
      have HP : ((w1.setCell ⟨K1, 0, none⟩ (.slice ag us.length cg)).setCell ⟨K1, 1, none⟩ (.slice ar us.length cr)).heap[K1]? = some (.cells #[.slice ag us.length cg, .slice ar us.length cr] 54 (0, 0)) := (set_any (set_any HQ1.out 0 _) 1 _).trans rfl
      refine bodyPost_ret (results_cell_row rfl _ _ K1 54 _ (0, 0) _ rfl HP Try.underlying54 rfl (by kernel_rfl)) rfl ?_
      refine ⟨d, _, rfl, HD1.out, ?_, ?_⟩
      · refine own_mono (own_other HD2.out (fun j hj => ?_)) HK.out
        have := (HD2.out.lt j hj).1
        have := HE.out.2
        rw [Below.heap_setCell _ _ _ j (by show j ≠ K1; omega), Below.heap_setCell _ _ _ j (by show j ≠ K1; omega)]
      · have h1 := HBE.out.trans (HD3.out.mono HK.out)
        exact (h1.setCell (p := ⟨K1, 0, none⟩) HE.out.1 _).setCell (p := ⟨K1, 1, none⟩) HE.out.1 _
end Go.Proofs.Ytlbeecjkfakkpag
