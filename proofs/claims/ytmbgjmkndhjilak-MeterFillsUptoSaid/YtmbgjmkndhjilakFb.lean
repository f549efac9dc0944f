/- Numbers as rows of digits: made of a number, cut at the end, compared. -/
import Derived.Test.YtmbgjmkndhjilakFa
import Derived.Test.YtmbgjmkndhjilakN5
namespace Go.Proofs.Ytmbgjmkndhjilak
open Go.RowKit Go.Shelf

def dg (l : List Nat) : List Int := l.map fun d : Nat => (d : Int)
theorem dg_len (l : List Nat) : (dg l).length = l.length := by simp [dg]
theorem dg_snoc (l : List Nat) (x : Nat) : ints (dg (l ++ [x])) = ints (dg l) ++ [.int .i64 (x : Int)] := by simp [ints, dg]
theorem dg_get (l : List Nat) (k : Nat) : (dg l).getD k 0 = (l.getD k 0 : Int) := by
  unfold dg
  rw [List.getD_eq_getElem?_getD, List.getD_eq_getElem?_getD, List.getElem?_map]
  cases l[k]? <;> rfl
/-- A row that reads as a number. -/
def Num (w : World) (v : Value) (n : Nat) : Prop := ∃ l, Canon l ∧ valN l = n ∧ RowAt w v l.length 1 (ints (dg l))
/-- A number is answered. -/
def NumR (n : Nat) (w : World) (e : Ending) (w' : World) : Prop := ∃ v, e = .returned v ∧ Num w' v n ∧ Below w.heap.size w w'
theorem Num.below {w w' : World} {v : Value} {n B : Nat} (h : Num w v n) (hb : Below B w w') (hB : w.heap.size ≤ B) : Num w' v n := by
  obtain ⟨l, h1, h2, h3⟩ := h
  exact ⟨l, h1, h2, h3.below hb hB⟩
theorem dg_cell {w : World} {v : Value} {l : List Nat} (h : RowAt w v l.length 1 (ints (dg l))) (k : Nat) (hk : k < l.length) : ∃ b off c, v = .slice (some ⟨b, off, none⟩) l.length c ∧ w.cell? ⟨b, off + k, none⟩ = some (.int .i64 (l.getD k 0 : Int)) := by
  obtain ⟨hl, a, c, rfl, h2⟩ := h
  obtain ⟨b, off, e1, h3⟩ := h2 k (.int .i64 (l.getD k 0 : Int)) (by
    unfold ints dg
    rw [List.map_map, List.getElem?_map, List.getElem?_eq_getElem hk, List.getD_eq_getElem?_getD, List.getElem?_eq_getElem hk]
    rfl)
  exact ⟨b, off, c, by rw [e1], by simpa using h3⟩
theorem tmod_nat (m : Nat) : (m : Int).tmod 10000 = ((m % 10000 : Nat) : Int) := by
  rw [Int.tmod_eq_emod_of_nonneg (by omega)]
  omega
theorem tdiv_nat (m : Nat) : (m : Int).tdiv 10000 = ((m / 10000 : Nat) : Int) := by
  rw [Int.tdiv_eq_ediv_of_nonneg (by omega)]
  omega
/-- While a number is taken apart. -/
structure OfI (n m : Nat) (ds : List Nat) : Prop where
  dg : Dgs ds
  v : valN ds + 10000 ^ ds.length * m = n
  top : m = 0 → Canon ds
theorem OfI.next {n m : Nat} {ds : List Nat} (h : OfI n m ds) (hm : 0 < m) : OfI n (m / 10000) (ds ++ [m % 10000]) := by
  have hd : Dgs (ds ++ [m % 10000]) := fun d hd => by
    rcases List.mem_append.1 hd with q | q
    · exact h.dg d q
    · rw [List.mem_singleton.1 q]; omega
  refine ⟨hd, ?_, fun h0 => ⟨hd, fun hne => ?_⟩⟩
  · rw [val_app, List.length_append, List.length_singleton, Nat.pow_succ, ← h.v]
    have e : valN [m % 10000] = m % 10000 := by simp [valN]
    rw [e, Nat.mul_assoc, Nat.add_assoc, ← Nat.mul_add]
    congr 2
    omega
  · rw [List.getLast_append_of_ne_nil (by simp) (by simp)]
    simp only [List.getLast_singleton]
    omega
theorem OfI.len {n m : Nat} {ds : List Nat} (h : OfI n m ds) (hm : 0 < m) (hn : n ≤ 9223372036854775807) : ds.length ≤ 4 := by
  apply Nat.le_of_not_lt
  intro hk
  have h1 : 10000 ^ 5 ≤ 10000 ^ ds.length := Nat.pow_le_pow_right (by decide) (by omega)
  have h2 : 10000 ^ ds.length * 1 ≤ 10000 ^ ds.length * m := Nat.mul_le_mul_left _ hm
  have h3 := h.v
  have h4 : (10000 : Nat) ^ 5 = 100000000000000000000 := by decide
  omega
set_option maxRecDepth 100000 in
set_option maxHeartbeats 4000000 in
theorem natOf_any (n : Nat) (hn : n ≤ 9223372036854775807) (w : World) : Calls Try.prog 77 #[.int .i64 (n : Int)] w (NumR n w) := by
  obtain ⟨i3, hi3, h30, h31, h32⟩ := info_parts Try.info3'
  go_enter Try.func77, Try.ntmps77
  go_wp2_with fail
  go_loopw [0, 3] (fun mv lv wr => ∃ (m : Nat) (ds : List Nat), mv = .int .i64 m ∧ m ≤ n ∧ Hid (OfI n m ds) ∧ Hid (wr.ownsRow w.heap.size 3 1 lv ds.length (ints (dg ds)) ∧ Below w.heap.size w wr)) (fun mv _ _ => (intOf mv).toNat)
  case atStart => exact ⟨n, [], rfl, Nat.le_refl _, ⟨fun d h => (by cases h), by simp [valN], fun _ => canon_nil⟩, World.ownsRow_nil _ _ _ _, Below.refl _ w⟩
  case round =>
    obtain ⟨m, ds, rfl, hm, HO, HW⟩ := hrel
    by_cases hlt : 0 < m
    · have HL : Hid (ds.length ≤ 4) := HO.out.len hlt hn
      have HTM : Hid ((m : Int).tmod 10000 = ((m % 10000 : Nat) : Int) ∧ (m : Int).tdiv 10000 = ((m / 10000 : Nat) : Int)) := ⟨tmod_nat m, tdiv_nat m⟩
      go_wp2_with (at_builtin; refine wpList_append_own _ rfl _ _ 23 rfl w.heap.size 3 i3 (.int .i64 0) 1 8 Try.underlying23 hi3 h30 h31 h32 rfl (by decide) _ _ _ rfl (own_below HW.out.1 (below_al _ _) (Nat.le_refl _)) ⟨wr.heap.size, 0, none⟩ 1 1 [.int .i64 ((m : Int).tmod 10000)] rfl rfl (cell_one_new _ _ _) (one_cell rfl) (by have := HL.out; unfold maxLen; omega) (by have := HL.out; omega) (Nat.le_trans HW.out.2.size (below_al _ _).size) ?_; intro v' w8 hown' hgrow _; refine Still.go ?_)
      unfold Still
      have HNW : Hid (w8.ownsRow w.heap.size 3 1 v' (ds ++ [m % 10000]).length (ints (dg (ds ++ [m % 10000]))) ∧ Below w.heap.size w w8) := ⟨by rw [dg_snoc, List.length_append, ← HTM.out.1]; exact hown', (HW.out.2.trans ((below_al _ _).mono HW.out.2.size)).grown hgrow (Nat.le_trans HW.out.2.size (below_al _ _).size) (own_at HW.out.1)⟩
      clear hown' hgrow HW HL
      go_wp2_with fail
      go_roundw
      case rel => exact ⟨m / 10000, ds ++ [m % 10000], by rw [← HTM.out.2]; first | rfl | go_num, by omega, HO.out.next hlt, HNW⟩
      case measure => simp only [intOf]; omega
    · obtain rfl : m = 0 := by omega
      go_wp2
      go_ret
      exact ⟨_, rfl, ⟨ds, HO.out.top rfl, by have := HO.out.v; omega, rowAt_of_own HW.out.1⟩, HW.out.2⟩
theorem row_take {w : World} {a : Option Addr} {l : List Nat} {c : Nat} (h : RowAt w (.slice a l.length c) l.length 1 (ints (dg l))) (k : Nat) (hk : k ≤ l.length) : RowAt w (.slice a k c) (l.take k).length 1 (ints (dg (l.take k))) := by
  obtain ⟨hl, a', c', e, h2⟩ := h
  cases e
  have hlk : (l.take k).length = k := by rw [List.length_take]; omega
  refine ⟨by rw [Nat.mul_one]; simp [ints, dg], a, c, by rw [hlk], fun j u hj => h2 j u ?_⟩
  unfold ints dg at hj ⊢
  rw [List.map_take, List.map_take] at hj
  have hj2 : j < k := by have := (List.getElem?_eq_some_iff.1 hj).1; simp at this; omega
  rwa [List.getElem?_take_of_lt hj2] at hj
/-- A row that is cut at the end, and nothing else changes. -/
def TrimR (n : Nat) (ar : Option Addr) (cr : Nat) (w : World) (e : Ending) (w' : World) : Prop := ∃ k, e = .returned (.slice ar k cr) ∧ Num w' (.slice ar k cr) n ∧ w' = w
set_option maxRecDepth 100000 in
set_option maxHeartbeats 4000000 in
theorem trim_at (l : List Nat) (hd : Dgs l) (ar : Option Addr) (cr : Nat) (hcr : l.length ≤ cr) (hn : l.length ≤ 100000) (w : World) (hx : RowAt w (.slice ar l.length cr) l.length 1 (ints (dg l))) : Calls Try.prog 85 #[.slice ar l.length cr] w (TrimR (valN l) ar cr w) := by
  have HX := hide' hx
  clear hx
  have HFI : Hid (∀ W k, trimN l k = trimN l l.length → k = trimN l k → k ≤ l.length → RowAt W (.slice ar l.length cr) l.length 1 (ints (dg l)) → TrimR (valN l) ar cr W (.returned (.slice ar k cr)) W) := fun W k h1 h2 hk hr => ⟨_, rfl, ⟨trimL l, trimL_canon hd, trimL_val l, by have := row_take hr k hk; unfold trimL; rw [← h1, ← h2]; exact by simpa only [List.length_take, Nat.min_eq_left hk] using this⟩, rfl⟩
  go_enter Try.func85, Try.ntmps85
  go_wp2_with fail
  go_loopw [3] (fun i wr => ∃ (k : Nat), i = .int .i64 k ∧ k ≤ l.length ∧ Hid (trimN l k = trimN l l.length) ∧ wr = w) (fun i _ => (intOf i).toNat)
  case atStart => exact ⟨l.length, rfl, Nat.le_refl _, rfl, rfl⟩
  case round =>
    obtain ⟨k, rfl, hk, HT, rfl⟩ := hrel
    by_cases h0 : k = 0
    · subst h0
      go_wp2_with fail
      go_ret
      exact HFI.out _ 0 HT.out rfl (Nat.zero_le _) HX.out
    · obtain ⟨m, rfl⟩ : ∃ m, k = m + 1 := ⟨k - 1, by omega⟩
      obtain ⟨b, off, c, ex, hc⟩ := dg_cell HX.out m (by omega)
      cases ex
      by_cases hz : l.getD m 0 = 0
      · rw [hz] at hc
        have HT2 : Hid (trimN l m = trimN l l.length) := by
          have := HT.out
          rwa [trimN, if_pos hz] at this
        go_wp2_with fail
        go_roundw
        case rel => exact ⟨m, by go_num, by omega, HT2.out, trivial⟩
        case measure => simp only [intOf]; omega
      · have hz2 : ¬ (l.getD m 0 : Int) = 0 := by omega
        have HT2 : Hid (m + 1 = trimN l l.length) := by
          have := HT.out
          rwa [trimN, if_neg hz] at this
        obtain ⟨x, hxx⟩ : ∃ x, x = l.getD m 0 := ⟨_, rfl⟩
        rw [← hxx] at hc hz2
        clear hxx hz
        go_wp2_with fail
        go_ret
        exact HFI.out _ (m + 1) HT.out (by rw [HT.out]; exact HT2.out) hk HX.out
theorem trim_any (l : List Nat) (hd : Dgs l) (ar : Option Addr) (cr : Nat) (hcr : l.length ≤ cr) (hn : l.length ≤ 100000) (w : World) (hx : RowAt w (.slice ar l.length cr) l.length 1 (ints (dg l))) : Calls Try.prog 85 #[.slice ar l.length cr] w (NumR (valN l) w) := by
  refine (trim_at l hd ar cr hcr hn w hx).mono ?_
  rintro e w' ⟨k, rfl, h1, rfl⟩
  exact ⟨_, rfl, h1, Below.refl _ _⟩
end Go.Proofs.Ytmbgjmkndhjilak
