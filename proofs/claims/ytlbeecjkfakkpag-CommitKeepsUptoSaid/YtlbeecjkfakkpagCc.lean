/- Lists that lie apart; a stay's number, and which schedule is the earlier one, in the document's answer. -/
import Derived.Test.YtlbeecjkfakkpagCb
namespace Go.Proofs.Ytlbeecjkfakkpag
open Go.RowKit Go.Shelf

/-- Nothing but rows of one kind has changed. -/
def KeepE (e : TypeId) (w w' : World) : Prop := ∀ (k : Nat) (cur : Array Value) (e1 : TypeId) (fz : Nat × Nat), w.heap[k]? = some (.cells cur e1 fz) → e1 ≠ e → w'.heap[k]? = w.heap[k]?
theorem KeepE.refl (e : TypeId) (w : World) : KeepE e w w := fun _ _ _ _ _ _ => rfl
theorem KeepE.trans {e : TypeId} {a b c : World} (h : KeepE e a b) (h' : KeepE e b c) : KeepE e a c := fun k cur e1 fz hk he => by
  have h1 := h k cur e1 fz hk he
  exact (h' k cur e1 fz (h1.trans hk) he).trans h1
theorem KeepE.below {e : TypeId} {B : Nat} {w w' : World} (h : Below B w w') (hb : w.heap.size ≤ B) : KeepE e w w' := fun k _ _ _ hk _ => h.block k (Nat.lt_of_lt_of_le (Array.getElem?_eq_some_iff.1 hk).1 hb)
theorem KeepE.grown {e : TypeId} {B sz n : Nat} {v : Value} {xs : List Value} {w w' : World} (h : w.ownsRow B e sz v n xs) (hg : w.grownBy w' v.ownBlock) : KeepE e w w' := fun k cur e1 fz hk he => by
  refine hg.block k (Array.getElem?_eq_some_iff.1 hk).1 ?_
  rcases h.2 with ⟨rfl, _⟩ | ⟨g, cap, cur', rfl, _, hg', _⟩
  · simp [Value.ownBlock]
  · simp only [Value.ownBlock, ne_eq, Option.some.injEq]
    rintro rfl
    rw [hk] at hg'
    cases hg'
    exact he rfl
theorem KeepE.alloc (e : TypeId) (w : World) (o : Obj) : KeepE e w (w.alloc o) := KeepE.below ((Below.refl _ w).alloc (Nat.le_refl _) o) (Nat.le_refl _)
theorem own_keep {w w' : World} {B e e1 sz n : Nat} {v : Value} {xs : List Value} (h : w.ownsRow B e1 sz v n xs) (hk : KeepE e w w') (he : e1 ≠ e) : w'.ownsRow B e1 sz v n xs := by
  refine ⟨h.1, ?_⟩
  rcases h.2 with h2 | ⟨g, cap, cur', h3, h4, h5, h6⟩
  · exact .inl h2
  · exact .inr ⟨g, cap, cur', h3, h4, (hk g cur' e1 _ h5 he).trans h5, h6⟩
def IntsO (w : World) (v : Value) (l : List Int) : Prop := w.ownsRow 0 3 1 v l.length (ints l)
def BoolsO (w : World) (v : Value) (l : List Bool) : Prop := w.ownsRow 0 4 1 v l.length (l.map Value.bool)
/-- Lists of signs, each apart. -/
def RowsO (w : World) (vs : List Value) (l : List (List Bool)) : Prop := vs.length = l.length ∧ ∀ (i : Nat) (b : List Bool), l[i]? = some b → ∃ x, vs[i]? = some x ∧ BoolsO w x b
def SignsO (w : World) (v : Value) (l : List (List Bool)) : Prop := ∃ vs : List Value, w.ownsRow 0 23 1 v l.length vs ∧ RowsO w vs l
theorem RowsO.keep {e : TypeId} {w w' : World} {vs : List Value} {l : List (List Bool)} (h : RowsO w vs l) (hk : KeepE e w w') (h4 : (4 : Nat) ≠ e) : RowsO w' vs l :=
  ⟨h.1, fun i b hb => by obtain ⟨x, hx, ho⟩ := h.2 i b hb; exact ⟨x, hx, own_keep ho hk h4⟩⟩
theorem SignsO.keep {e : TypeId} {w w' : World} {v : Value} {l : List (List Bool)} (h : SignsO w v l) (hk : KeepE e w w') (h4 : (4 : Nat) ≠ e) (h23 : (23 : Nat) ≠ e) : SignsO w' v l := by
  obtain ⟨vs, h1, h2⟩ := h
  exact ⟨vs, own_keep h1 hk h23, h2.keep hk h4⟩
theorem SignsO.below {B : Nat} {w w' : World} {v : Value} {l : List (List Bool)} (h : SignsO w v l) (hB : Below B w w') (hb : w.heap.size ≤ B) : SignsO w' v l := h.keep (e := 76) (KeepE.below hB hb) (by decide) (by decide)
theorem RowsO.snoc {w : World} {vs : List Value} {l : List (List Bool)} {x : Value} {b : List Bool} (h : RowsO w vs l) (hx : BoolsO w x b) : RowsO w (vs ++ [x]) (l ++ [b]) := by
  refine ⟨by simp [h.1], fun i c hc => ?_⟩
  by_cases hi : i < l.length
  · rw [List.getElem?_append_left hi] at hc
    obtain ⟨y, hy, ho⟩ := h.2 i c hc
    exact ⟨y, by rw [List.getElem?_append_left (by rw [h.1]; exact hi)]; exact hy, ho⟩
  · by_cases he : i = l.length
    · subst he
      rw [List.getElem?_append_right (Nat.le_refl _), Nat.sub_self] at hc
      cases hc
      exact ⟨x, by rw [List.getElem?_append_right (by rw [h.1]; exact Nat.le_refl _), h.1, Nat.sub_self]; rfl, hx⟩
    · rw [List.getElem?_eq_none (by simp; omega)] at hc
      cases hc
theorem SignsO.at' {w : World} {v : Value} {l : List (List Bool)} (h : SignsO w v l) : SignsAt w v l := by
  obtain ⟨vs, h1, h2⟩ := h
  exact ⟨vs, h2.1, rowAt_of_own h1, fun i b hb => by obtain ⟨x, hx, ho⟩ := h2.2 i b hb; exact ⟨x, hx, rowAt_of_own ho⟩⟩
theorem code_le {t : List Int} (h4 : t.length ≤ 4) (hb : ∀ x ∈ t, -3 ≤ x ∧ x ≤ 3) : code t < 2401 := by
  have h1 := val_lt _ (digits_lt hb)
  rw [List.length_map] at h1
  exact Nat.lt_of_lt_of_le h1 (Nat.le_trans (Nat.pow_le_pow_right (by decide) h4) (by decide))
theorem code_snoc (t : List Int) (k : Nat) (hk : k < t.length) (hb : ∀ x ∈ t, -3 ≤ x ∧ x ≤ 3) : ((code (t.take (k + 1)) : Nat) : Int) = (code (t.take k) : Nat) * 7 + t.getD k 0 + 3 := by
  have h1 := hb _ (getD_in hk).2
  have e : t[k] = t.getD k 0 := by rw [List.getD_eq_getElem?_getD, List.getElem?_eq_getElem hk]; rfl
  rw [List.take_succ_eq_append_getElem hk, code, List.map_append, List.map_singleton, val_snoc, e]
  show ((code (t.take k) * 7 + digit (t.getD k 0) : Nat) : Int) = _
  unfold digit
  omega
set_option maxRecDepth 100000 in
set_option maxHeartbeats 2000000 in
theorem stayCode_any (t : List Int) (v : Value) (w : World) (h : RowAt w v t.length 1 (ints t)) (h4 : t.length ≤ 4) (hb : ∀ x ∈ t, -3 ≤ x ∧ x ≤ 3) :
    Calls Try.prog 56 #[v] w fun e w' => e = .returned (.int .i64 (code t)) ∧ w' = w := by
  have HT := hide' h
  have HB := hide' hb
  obtain ⟨a, c, rfl⟩ := rowAt_slice h
  clear h hb
  go_enter Try.func56, Try.ntmps56
  go_wp2_with fail
  go_loopw [3, 4] (fun n i wr => ∃ (k : Nat), n = .int .i64 (code (t.take k)) ∧ i = .int .i64 k ∧ k ≤ t.length ∧ Hid (wr = w)) (fun _ i _ => t.length - (intOf i).toNat)
  case atStart => exact ⟨0, rfl, rfl, Nat.zero_le _, rfl⟩
  case round =>
    obtain ⟨k, rfl, rfl, hk, HW⟩ := hrel
    obtain rfl := HW.out
    clear HW
    by_cases hlt : k < t.length
    · obtain ⟨bt, ot, ct', ex, hct⟩ := ints_cell2 HT.out k hlt
      cases ex
      have hx := HB.out _ (getD_in hlt).2
      have HS := hide' (code_snoc t k hlt HB.out)
      have hcl := code_le (t := t.take k) (by rw [List.length_take]; omega) (fun x hx => HB.out x (List.mem_of_mem_take hx))
      obtain ⟨x, hxe⟩ : ∃ x, x = t.getD k 0 := ⟨_, rfl⟩
      rw [← hxe] at hct hx HS
      obtain ⟨m, hme⟩ : ∃ m, m = code (t.take k) := ⟨_, rfl⟩
      rw [← hme] at hcl HS ⊢
      clear hxe hme
      go_wp2
      go_roundw
      case rel => exact ⟨k + 1, by rw [HS.out], by go_num, by omega, by first | rfl | trivial⟩
      case measure => simp [intOf]; omega
    · have HE : Hid (code (t.take k) = code t) := by show _ = _; rw [List.take_of_length_le (by omega)]
      go_wp2
      go_ret
      exact ⟨congrArg (fun n : Nat => Ending.returned (.int .i64 n)) HE.out, rfl⟩
/-- The first sign that differs tells which is the earlier one. -/
theorem sched_first {n : Nat} {a b : List (List Bool)} {h i : Nat} {x y : Bool} (hl : a.length = b.length) (ha : ∀ r ∈ a, r.length = n) (hb : ∀ r ∈ b, r.length = n) (hh : h < a.length) (hrow : ∀ j, j < h → a.getD j [] = b.getD j []) (hbit : ∀ j, j < i → (a.getD h []).getD j false = (b.getD h []).getD j false)
    (_hi : i < n) (hx : (a.getD h []).getD i false = x) (hy : (b.getD h []).getD i false = y) (hne : x ≠ y) : decide (sched n a < sched n b) = y := by
  have getN : ∀ (r : List Bool) (j : Nat), (r.map Bool.toNat).getD j 0 = (r.getD j false).toNat := fun r j => by
    rw [List.getD_eq_getElem?_getD, List.getElem?_map, List.getD_eq_getElem?_getD]
    cases r[j]? <;> rfl
  have getR : ∀ (l : List (List Bool)) (j : Nat), (l.map num).getD j 0 = num (l.getD j []) := fun l j => by
    rw [List.getD_eq_getElem?_getD, List.getElem?_map, List.getD_eq_getElem?_getD]
    cases l[j]? <;> rfl
  have mem : ∀ (l : List (List Bool)), h < l.length → l.getD h [] ∈ l := fun l hl' => by
    rw [List.getD_eq_getElem?_getD, List.getElem?_eq_getElem hl']; exact List.getElem_mem hl'
  have key : ∀ (p q : List (List Bool)), p.length = q.length → (∀ r ∈ p, r.length = n) → (∀ r ∈ q, r.length = n) → h < p.length → (∀ j, j < h → p.getD j [] = q.getD j []) → (∀ j, j < i → (p.getD h []).getD j false = (q.getD h []).getD j false) → (p.getD h []).getD i false = false → (q.getD h []).getD i false = true → sched n p < sched n q := by
    intro p q hpq hp hq hhp hr hbt h0 h1
    refine val_first _ _ h (by rw [List.length_map, List.length_map]; exact hpq) (rows_lt hp) (rows_lt hq) (fun j hj => by rw [getR, getR, hr j hj]) ?_
    rw [getR, getR]
    refine val_first _ _ i (by rw [List.length_map, List.length_map, hp _ (mem p hhp), hq _ (mem q (by omega))]) (bits_lt _) (bits_lt _) (fun j hj => by rw [getN, getN, hbt j hj]) ?_
    rw [getN, getN, h0, h1]
    decide
  cases y with
  | true =>
    have hx0 : x = false := by cases x <;> simp_all
    exact decide_eq_true (key a b hl ha hb hh hrow hbit (hx.trans hx0) hy)
  | false =>
    have hx0 : x = true := by cases x <;> simp_all
    have := key b a hl.symm hb ha (by omega) (fun j hj => (hrow j hj).symm) (fun j hj => (hbit j hj).symm) hy (hx.trans hx0)
    exact decide_eq_false (by omega)
end Go.Proofs.Ytlbeecjkfakkpag
