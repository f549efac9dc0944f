/- Pure: a run may be cut in two; what has shed stays so. Rows that are cut. -/
import Derived.Test.YtligmokepafnbajH8
namespace Go.Proofs.Ytligmokepafnbaj
open Go.RowKit Go.Shelf

theorem run_cut (a b c : Option Nat) (S : List StM) (f : Option Nat) (xs : List (Nat × Nat)) (k j : Nat) :
    runS a b c S f xs (k + j) = runS a b c (runS a b c S f xs k).1 (runS a b c S f xs k).2 (xs.drop k) j := by
  unfold runS
  rw [List.take_add, List.foldl_append]
theorem run_head (a b c : Option Nat) (S : List StM) (f : Option Nat) (xs : List (Nat × Nat)) (k j : Nat) (h : j ≤ k) : runS a b c S f (xs.take k) j = runS a b c S f xs j := by
  unfold runS
  rw [List.take_take, Nat.min_eq_left h]
theorem told_head (a b c : Option Nat) (S : List StM) (f : Option Nat) (xs : List (Nat × Nat)) (k : Nat) : toldS a b c S f (xs.take k) k = toldS a b c S f xs k := by
  unfold toldS
  refine List.map_congr_left fun j hj => ?_
  rw [run_head a b c S f xs k (j + 1) (by have := List.mem_range.1 hj; omega)]
theorem told_cut (a b c : Option Nat) (S : List StM) (f : Option Nat) (xs : List (Nat × Nat)) (k j : Nat) :
    toldS a b c S f xs (k + j) = toldS a b c S f xs k ++ toldS a b c (runS a b c S f xs k).1 (runS a b c S f xs k).2 (xs.drop k) j := by
  unfold toldS
  rw [List.range_add, List.map_append, List.map_map]
  congr 1
  refine List.map_congr_left fun i _ => ?_
  simp only [Function.comp]
  rw [Nat.add_assoc, run_cut]
theorem atWork_self (S : List StM) : atWorkS (S.map StM.pair) (S.map StM.gone) = S := by
  unfold atWorkS
  induction S with
  | nil => rfl
  | cons x r ih => simp only [List.map_cons, List.zip_cons_cons]; rw [ih]; rfl
/-- what is shed in a is shed in b -/
def Kept (A B : List StM) : Prop := ∀ i : Nat, (A.map StM.gone).getD i false = true → (B.map StM.gone).getD i false = true
theorem kept_watch (S : List StM) (f : Option Nat) : Kept S (watchS S f) := fun i h => by
  unfold watchS
  rw [List.getD_eq_getElem?_getD, List.getElem?_map] at h ⊢
  rw [List.getElem?_map]
  cases e : S[i]? with
  | none => rw [e] at h; cases h
  | some s =>
    rw [e] at h
    have h2 : s.gone = true := h
    show (s.gone || flt f (nm s.lim)) = true
    rw [h2]; rfl
theorem kept_fold (a b c : Option Nat) (xs : List (Nat × Nat)) : ∀ (S : List StM) (f : Option Nat), Kept S (xs.foldl (stepS a b c) (S, f)).1 := by
  induction xs with
  | nil => intro S f i h; exact h
  | cons x r ih =>
    intro S f i h
    rw [List.foldl_cons]
    exact ih _ _ i (kept_watch S f i h)
theorem kept_run (a b c : Option Nat) (S : List StM) (f : Option Nat) (xs : List (Nat × Nat)) (k : Nat) : Kept S (runS a b c S f xs k).1 := kept_fold _ _ _ _ _ _

/-- The head of a row. -/
theorem row_head {w : World} {a : Option Addr} {n c : Nat} {l : List Nat} (h : RowAt w (.slice a n c) n 1 (fls l)) (k : Nat) (hk : k ≤ n) : RowAt w (.slice a k c) k 1 (fls (l.take k)) := by
  obtain ⟨h1, a', c', ex, h2⟩ := h
  simp only [Value.slice.injEq] at ex
  obtain ⟨rfl, _, rfl⟩ := ex
  have hl : l.length = n := by rw [fls_len] at h1; omega
  refine ⟨by rw [fls_len, List.length_take]; omega, a, c, rfl, fun j u hj => h2 j u ?_⟩
  have hjk : j < k := by have := (List.getElem?_eq_some_iff.1 hj).1; rw [fls_len, List.length_take] at this; omega
  rw [fls, List.getElem?_map, List.getElem?_take_of_lt hjk] at hj
  rw [fls, List.getElem?_map]
  exact hj
/-- The rest of a row. -/
theorem row_rest {w : World} {a : Option Addr} {n c : Nat} {l : List Nat} (h : RowAt w (.slice a n c) n 1 (fls l)) (k : Nat) (hk : k ≤ n) (hc : n ≤ c) : RowAt w (.slice (if c = k then a else a.map (·.add (k * 1))) (n - k) (c - k)) (n - k) 1 (fls (l.drop k)) := by
  obtain ⟨h1, a', c', ex, h2⟩ := h
  simp only [Value.slice.injEq] at ex
  obtain ⟨rfl, _, rfl⟩ := ex
  have hl : l.length = n := by rw [fls_len] at h1; omega
  refine ⟨by rw [fls_len, List.length_drop]; omega, _, _, rfl, fun j u hj => ?_⟩
  have hjk : k + j < n := by have := (List.getElem?_eq_some_iff.1 hj).1; rw [fls_len, List.length_drop] at this; omega
  obtain ⟨b, off, rfl, hcell⟩ := h2 (k + j) u (by rw [fls, List.getElem?_map] at hj ⊢; rw [List.getElem?_drop] at hj; exact hj)
  refine ⟨b, off + k, ?_, by rw [Nat.add_assoc]; exact hcell⟩
  rw [if_neg (by omega), Nat.mul_one]
  show some ((⟨b, off, none⟩ : Addr).add k) = _
  rw [add_off]
theorem own_cap {w : World} {B e n c : Nat} {a : Option Addr} {xs : List Value} (h : w.ownsRow B e 1 (.slice a n c) n xs) : n ≤ c := by
  rcases h.2 with ⟨h1, h2⟩ | ⟨g, cap, cur, h1, _, _, h3, _⟩
  · simp only [Value.slice.injEq] at h1
    omega
  · simp only [Value.slice.injEq] at h1
    omega
theorem under26 : Try.prog.underlying 26 = some (.slice (Try.prog.elem 26)) := by kernel_rfl
theorem size26 (w : World) : (sizeOf (Try.prog.elem 26)).run Try.prog w = .ok 1 w := by
  have h : (sizeOf 22).run Try.prog w = .ok 1 w := by
    simp [sizeOf]
    rfl
  exact h
theorem map_add0 (a : Option Addr) : a.map (fun x => x.add 0) = a := by
  cases a with
  | none => rfl
  | some x => simp [Addr.add]
theorem slice_head (w : World) (a : Option Addr) (n c : Nat) (k : Nat) (hk : k ≤ c) : (Instr.slice 26 (.slice a n c) none (some (.int .i64 (k : Int))) none).run Try.prog w = .ok (.slice a k c) w := by
  rw [run_slice_h w 26 a n c under26 .i64 (k : Int) (by omega) (by omega), size26]
  simp only [Result.andThen, sliced, Int.toNat_natCast, Nat.zero_mul, map_add0, ite_self, Nat.sub_zero]
theorem slice_rest (w : World) (a : Option Addr) (n c : Nat) (k : Nat) (hk : k ≤ n) : (Instr.slice 26 (.slice a n c) (some (.int .i64 (k : Int))) none none).run Try.prog w = .ok (.slice (if c = k then a else a.map (·.add (k * 1))) (n - k) (c - k)) w := by
  rw [run_slice_l w 26 a n c under26 .i64 (k : Int) (by omega) (by omega), size26]
  simp only [Result.andThen, sliced, Int.toNat_natCast]

set_option maxRecDepth 100000 in
set_option maxHeartbeats 2000000 in
theorem same_any (la lb : List Nat) (n : Nat) (u v : Value) (w : World) (hu : RowAt w u n 1 (fls la)) (hv : RowAt w v n 1 (fls lb)) (he : la.map nm = lb.map nm) (hn : n ≤ 1000) :
    Calls Try.prog 18 #[u, v] w fun e w' => e = .returned (.bool true) ∧ Below w.heap.size w w' := by
  have HU := hide' hu
  have HV := hide' hv
  have HLA : Hid (la.length = n) := by show _ = _; have h := hu.1; rw [fls_len] at h; omega
  have HLB : Hid (lb.length = n) := by show _ = _; have h := hv.1; rw [fls_len] at h; omega
  have HE : Hid (∀ k, k < n → nm (la.getD k 0) = nm (lb.getD k 0)) := fun k hk => by
    have h1 : (la.map nm)[k]? = (lb.map nm)[k]? := by rw [he]
    have ha : k < la.length := by rw [HLA.out]; exact hk
    have hb : k < lb.length := by rw [HLB.out]; exact hk
    rw [List.getElem?_map, List.getElem?_map, List.getElem?_eq_getElem ha, List.getElem?_eq_getElem hb] at h1
    rw [List.getD_eq_getElem?_getD, List.getD_eq_getElem?_getD, List.getElem?_eq_getElem ha, List.getElem?_eq_getElem hb]
    simpa using h1
  obtain ⟨au, cu, rfl⟩ := rowAt_slice hu
  obtain ⟨av, cv, rfl⟩ := rowAt_slice hv
  clear hu hv he
  go_enter Try.func18, Try.ntmps18
  go_wp2_with fail
  go_loopw [5] (fun i wr => ∃ (k : Nat), i = .int .i64 k ∧ k ≤ n ∧ Hid (Below w.heap.size w wr)) (fun i _ => n - (intOf i).toNat)
  case atStart => exact ⟨0, rfl, Nat.zero_le _, Below.refl _ w⟩
  case round =>
    obtain ⟨k, rfl, hk, HBE⟩ := hrel
    by_cases hlt : k < n
    · obtain ⟨b1, o1, c1, ex1, hc1⟩ := fl_cell HU.out k (by rw [HLA.out]; exact hlt)
      cases ex1
      obtain ⟨b2, o2, c2, ex2, hc2⟩ := fl_cell HV.out k (by rw [HLB.out]; exact hlt)
      cases ex2
      have d1 := up_cell HBE.out hc1
      have d2 := up_cell HBE.out hc2
      have hnn := HE.out k hlt
      obtain ⟨x, hx⟩ : ∃ x, x = la.getD k 0 := ⟨_, rfl⟩
      obtain ⟨y, hy⟩ : ∃ y, y = lb.getD k 0 := ⟨_, rfl⟩
      rw [← hx] at d1 hnn
      rw [← hy] at d2 hnn
      have HBD : Hid (∀ m, Below w.heap.size w (wr.drewN m)) := fun m => below_drewN HBE.out m
      clear hc1 hc2 hx hy HBE
      cases hnx : nanB x with
      | true =>
        have hny : nanB y = true := nm_none_iff.1 (by rw [← hnn]; exact nm_none hnx)
        have o1' := order_left (y := y) hnx
        have o2' := order_left (y := x) hnx
        have o3' := order_left (y := y) hny
        clear hnn hnx hny
        go_wp2_with fail
        go_quiet (fail)
        go_wp2
        go_roundw
        case rel => exact ⟨k + 1, by go_num, by omega, HBD.out _⟩
        case measure => simp [intOf]; omega
      | false =>
        rw [nm_some hnx] at hnn
        obtain ⟨hxy, _⟩ := nm_eq hnn.symm
        subst hxy
        have o1' := order_self hnx
        clear hnn hnx
        go_wp2_with fail
        go_quiet (fail)
        go_wp2
        go_roundw
        case rel => exact ⟨k + 1, by go_num, by omega, HBD.out _⟩
        case measure => simp [intOf]; omega
    · go_wp2
      go_ret
      exact ⟨rfl, HBE.out⟩
end Go.Proofs.Ytligmokepafnbaj
