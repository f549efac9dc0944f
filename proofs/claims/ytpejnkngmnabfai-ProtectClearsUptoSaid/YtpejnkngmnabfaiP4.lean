/- The times of breakers. -/
import Derived.Test.YtpejnkngmnabfaiP3
namespace Go.Proofs.Ytpejnkngmnabfai
open Go.RowKit Go.Shelf
attribute [local go_sem] Oper.semAt_some wide_fn wide_depth

/-- Who is behind k says what its time is at least. -/
def gradeF (bs : List Int) (step : Int) (T : List Int) (k : Nat) : List Int := if bs.getD k 0 < 0 then T else T.set (bs.getD k 0).toNat (max (T.getD (bs.getD k 0).toNat 0) (T.getD k 0 + step))
theorem grade_timed {bs : List Int} (ha : Ahead bs) {base step : Int} (hs : 0 ≤ step) : ∀ d m, m + d = bs.length → Timed bs base step m (((List.range bs.length).drop m).reverse.foldl (gradeF bs step) (List.replicate bs.length base))
  | 0, m, h => by
    rw [show m = bs.length by omega, List.drop_eq_nil_of_le (by simp)]
    exact Timed.start bs hs
  | d + 1, m, h => by
    have ih := grade_timed ha hs (base := base) d (m + 1) (by omega)
    have hm : m < bs.length := by omega
    have h1 := ha m hm
    rw [back_next hm, List.foldl_append, List.foldl_cons, List.foldl_nil, gradeF]
    rw [get_same hm] at h1
    split
    · exact ih.skip (by rw [get_same hm]; assumption)
    · exact ih.next hs hm (by rw [get_same hm]; omega) (by omega)
theorem grade_len (bs : List Int) (step : Int) (T : List Int) (k : Nat) : (gradeF bs step T k).length = T.length := by unfold gradeF; split <;> simp
/-- All times lie within. -/
def Within (n : Nat) (lo hi : Int) (T : List Int) : Prop := T.length = n ∧ ∀ k, k < n → lo ≤ T.getD k 0 ∧ T.getD k 0 ≤ hi
theorem grade_within {bs : List Int} (ha : Ahead bs) {step lo hi : Int} (hs : 0 ≤ step) {T : List Int} (h : Within bs.length lo hi T) {k : Nat} (hk : k < bs.length) : Within bs.length lo (hi + step) (gradeF bs step T k) := by
  refine ⟨by rw [grade_len]; exact h.1, fun j hj => ?_⟩
  have h1 := h.2 j hj
  unfold gradeF
  split
  · omega
  · have h2 := ha k hk
    rw [get_same hk] at h2
    rw [set_getD (by rw [h.1]; omega)]
    have h3 := h.2 k hk
    have h4 := h.2 (bs.getD k 0).toNat (by omega)
    split <;> omega
theorem fold_more {bs : List Int} (ha : Ahead bs) {step lo : Int} (hs : 0 ≤ step) : ∀ (pre : List (Ix bs.length)) (hi : Int) (T : List Int), Within bs.length lo hi T → Within bs.length lo (hi + step * (pre.length : Int)) (pre.foldl (fun T x => gradeF bs step T x.1) T)
  | [], hi, T, h => by
    rw [List.foldl_nil, List.length_nil]
    simpa using h
  | x :: l, hi, T, h => by
    rw [List.foldl_cons]
    have h1 := fold_more ha hs l _ _ (grade_within ha hs h x.2)
    have e : hi + step + step * (l.length : Int) = hi + step * ((x :: l).length : Int) := by rw [List.length_cons, Int.natCast_add, Int.mul_add]; omega
    rw [e] at h1
    exact h1
theorem fold_within {bs : List Int} (ha : Ahead bs) {step base : Int} (hs : 0 ≤ step) (pre : List (Ix bs.length)) : Within bs.length base (base + step * (pre.length : Int)) (pre.foldl (fun T x => gradeF bs step T x.1) (List.replicate bs.length base)) :=
  fold_more ha hs pre base _ ⟨by simp, fun k hk => by rw [rep_getD hk]; omega⟩
theorem KeptB.setCell {ks : List Nat} {W : World} {F j : Nat} (hF : F ∉ ks) (v : Value) : KeptB ks W (W.setCell ⟨F, j, none⟩ v) := ⟨by rw [World.size_setCell]; exact Nat.le_refl _, fun k hk => Below.heap_setCell _ _ _ _ (fun e => hF (by rw [show k = F from e] at hk; exact hk))⟩
theorem ints_cellW {W : World} {F : Nat} {T : List Int} (h : W.heap[F]? = some (.cells (ints T).toArray 3 (0, 0))) {j : Nat} (hj : j < T.length) : W.cell? ⟨F, j, none⟩ = some (.int .i64 (T.getD j 0)) ∧ W.frozen? ⟨F, j, none⟩ = false := by
  refine ⟨?_, frozen_no h _⟩
  rw [cells_at h, List.getElem?_toArray, ints, List.getElem?_map, (getD_in hj).1]; rfl
theorem ints_own {w : World} {B T n : Nat} {l : List Int} (h : w.heap[T]? = some (.cells (ints l).toArray 3 (0, 0))) (hs : B ≤ T) (hl : l.length = n) (hn : n ≤ 1000) : w.ownsRow B 3 1 (.slice (some ⟨T, 0, none⟩) n n) n (ints l) := by
  subst hl
  exact ⟨by simp [ints], .inr ⟨T, _, _, rfl, hs, h, Nat.le_refl _, by unfold maxLen; omega, by simp [ints], by rw [List.take_of_length_le (by simp [ints])]⟩⟩
set_option maxRecDepth 100000 in
set_option maxHeartbeats 4000000 in
theorem times_any (bs : List Int) (ha : Ahead bs) (hn : bs.length ≤ 20) (base step : Int) (hb : 0 ≤ base ∧ base ≤ 1000000) (hs : 0 ≤ step ∧ step ≤ 1000000) (a : Option Addr) (cap : Nat) (w : World) (hr : RowAt w (.slice a bs.length cap) bs.length 1 (ints bs)) :
    Calls Try.prog 20 #[.slice a bs.length cap, .int .i64 base, .int .i64 step] w fun e w' => ∃ T F, e = .returned (.slice (some ⟨F, 0, none⟩) bs.length bs.length) ∧ Timed bs base step 0 T ∧ w'.ownsRow w.heap.size 3 1 (.slice (some ⟨F, 0, none⟩) bs.length bs.length) bs.length (ints T) ∧ Below w.heap.size w w' := by
  obtain ⟨W0, hW0⟩ : ∃ W0, W0 = (w.alloc (.cells #[.int .i64 step] 3)).alloc (.cells #[.int .i64 base] 3) := ⟨_, rfl⟩
  have hrep := Repeat_one base bs.length (w.heap.size + 1) 1 (by omega) W0 (by rw [hW0]; simp)
  have HREP := hide' hrep
  have HW0 := hide' hW0
  have HR := hide' hr
  have HA := hide' ha
  obtain ⟨bls, hbl, hbls⟩ : ∃ bls : List Nat, (∀ b o, a = some ⟨b, o, none⟩ → 0 < bs.length → b ∈ bls) ∧ ∀ k ∈ bls, k < w.heap.size := by
    by_cases h0 : 0 < bs.length
    · obtain ⟨b, off, c', ex, hce⟩ := ints_cell hr 0 h0
      cases ex
      refine ⟨[b], fun b' o' e _ => by cases e; simp, fun k hk => ?_⟩
      rw [List.mem_singleton.1 hk]
      exact World.block_lt_of_cell? w _ hce
    · exact ⟨[], fun _ _ _ h => absurd h h0, fun k hk => by cases hk⟩
  have HBL := hide' hbl
  have HBLS := hide' hbls
  have HB := hide' hb
  have HS := hide' hs
  clear hrep hW0 hr ha hbl hbls hb
  refine (callsIn_wide (n := 3)).1 ?_
  refine callsIn_of_wp_marks Try.func20 rfl trivial ?_
  simp only [Try.ntmps20, List.size_toArray, List.length_cons, List.length_nil, Nat.reduceAdd, Nat.reduceSub, Array.replicate_succ, Array.replicate_zero, List.push_toArray, List.append_toArray, List.nil_append, List.cons_append]
  gi_wp2_with fail
  rw [← HW0.out]
  refine ((callsIn_wide (n := 2)).2 HREP.out).mono ?_
  rintro e w1 ⟨F, rfl, hF0, hFrow, hb1⟩
  have hz0 : W0.heap.size = w.heap.size + 2 := by rw [HW0.out]; simp
  have HB1 : Hid (Below w.heap.size w w1) := by
    have h2 := hb1
    rw [HW0.out] at h2
    exact (((Below.refl _ w).alloc (Nat.le_refl _) _).alloc (by simp) _).trans (h2.mono (by simp; omega))
  have HFR : Hid (w1.heap[F]? = some (.cells (ints (List.replicate bs.length base)).toArray 3 (0, 0))) := by show _ = _; rw [hFrow, ints, List.map_replicate]
  have HSB : Hid (w1.heap[w.heap.size]? = some (.cells #[.int .i64 step] 3 (0, 0))) := by
    show _ = _
    rw [hb1.block _ (by omega), HW0.out, Below.heap_alloc _ _ _ (by simp)]
    exact World.alloc_heap_new w _
  have HF0 : Hid (w.heap.size + 2 ≤ F) := by show _ ≤ _; omega
  have HFL : Hid (F < w1.heap.size) := (Array.getElem?_eq_some_iff.1 hFrow).1
  have HS1 : Hid (w.heap.size + 2 ≤ w1.heap.size) := by show _ ≤ _; have := hb1.size; omega
  clear hFrow hb1 hF0 hz0 HREP HW0
  gi_wp2_with fail
  obtain ⟨W1, hW1⟩ : ∃ W1, W1 = w1.alloc (.cells #[.slice (some ⟨F, 0, none⟩) bs.length bs.length] 22) := ⟨_, rfl⟩
  rw [← hW1]
  have hz1 : W1.heap.size = w1.heap.size + 1 := by rw [hW1]; simp
  have hbk := Backward_any (.slice a bs.length cap) a bs.length cap rfl W1
  rw [hz1] at hbk
  refine ((callsIn_wide (n := 2)).2 hbk).mono ?_
  rintro e w2 ⟨rfl, hw2⟩
  have HB2 : Hid (Below w1.heap.size w1 w2) := by rw [hw2, hW1]; exact ((Below.refl _ w1).alloc (Nat.le_refl _) _).alloc (by simp) _
  have HPF : Hid (w2.heap[w1.heap.size]? = some (.cells #[.slice (some ⟨F, 0, none⟩) bs.length bs.length] 22 (0, 0))) := by
    show _ = _
    rw [hw2, Below.heap_alloc _ _ _ (by omega), hW1]
    exact World.alloc_heap_new w1 _
  have hu2 : w2.heap[w1.heap.size + 1]? = some (.cells #[.slice a bs.length cap] 22 (0, 0)) := by
    rw [hw2, ← hz1]
    exact World.alloc_heap_new W1 _
  have hz2 : w2.heap.size = w1.heap.size + 2 := by rw [hw2, World.size_alloc, hz1]
  have HBW2 : Hid (Below w.heap.size w w2) := HB1.out.trans (HB2.out.mono HB1.out.size)
  clear hbk hW1 hw2
  obtain ⟨ks, hksd⟩ : ∃ ks, ks = (w1.heap.size + 1) :: bls := ⟨_, rfl⟩
  have hks : ∀ k ∈ ks, k < w2.heap.size := fun k hk => by
    rw [hksd] at hk
    rcases List.mem_cons.1 hk with rfl | hk
    · omega
    · have := HBLS.out k hk; have := HS1.out; omega
  have HFK : Hid (F ∉ ks) := fun hm => by
    rw [hksd] at hm
    rcases List.mem_cons.1 hm with e | hm
    · have := HFL.out; omega
    · have := HBLS.out F hm; have := HF0.out; omega
  have HST8 := hide' (Backward1_stops bs (by omega) a cap (w1.heap.size + 1) ks (by rw [hksd]; simp) (fun b o e h => by rw [hksd]; exact List.mem_cons_of_mem _ (HBL.out b o e h)) w2 hks (by rw [cells_at hu2]; rfl) (RowAt.below HR.out HBW2.out (Nat.le_refl _)))
  have HKS := hide' hks
  have HZ2 := hide' hz2
  clear hksd hu2 hks hz1
  gi_wp2_with fail
  refine wpIn_rangeFunc_ownF (n := 3) (α := Ix bs.length) rfl (by decide) (gf := 34) (lb := #[.pointer (some ⟨w1.heap.size + 1, 0, none⟩)]) rfl trivial (enters_of Try.func34 (by kernel_rfl) rfl) HST8.out (fun h k => h.trans k) (fun X l o o' hl _ _ _ => KeptB.putObj o' (fun hm => by have := HKS.out l hm; omega)) (Below.refl _ _) (fun _ => rfl)
    (fun pre W' => Hid (W'.heap[F]? = some (.cells (ints (pre.foldl (fun T x => gradeF bs step T x.1) (List.replicate bs.length base))).toArray 3 (0, 0))) ∧ Hid (W'.heap[w1.heap.size]? = some (.cells #[.slice (some ⟨F, 0, none⟩) bs.length bs.length] 22 (0, 0))) ∧ Hid (W'.heap[w.heap.size]? = some (.cells #[.int .i64 step] 3 (0, 0))) ∧ Hid (Below w.heap.size w W'))
    (fun _ _ _ => False) ?hI (fun _ _ _ _ _ hs _ _ => hs) ⟨(HB2.out.block F HFL.out).trans HFR.out, HPF, (HB2.out.block _ (by have := HS1.out; omega)).trans HSB.out, HBW2⟩
    (fun x => { tmps := #[.slice a bs.length cap, .int .i64 base, .int .i64 step, undef, undef, .pointer (some ⟨w.heap.size, 0, none⟩), .slice none 0 0, .pointer (some ⟨w1.heap.size, 0, none⟩), .int .i64 (x.1 : Int), .int .i64 (bs.getD x.1 0), .int .i64 base, .slice (some ⟨w.heap.size + 1, 0, none⟩) 1 1, .slice a bs.length cap, .int .i64 bs.length, .slice (some ⟨F, 0, none⟩) bs.length bs.length, .slice a bs.length cap, .func (.func 34) #[] #[.pointer (some ⟨w1.heap.size + 1, 0, none⟩)], .int .i64 (x.1 : Int), .int .i64 (bs.getD x.1 0), undef, undef, undef, undef, undef, undef, undef, undef, undef, undef, undef, undef, undef, undef, undef, undef, undef], defers := [] }) ?assign ?body ?done ?stop
  case hI =>
    rintro pre X Y row ⟨h1, h2, h3, h4⟩ hg hr
    have hcell : ∀ (k : Nat) (c : Array Value) (t : TypeId) (fz : Nat × Nat), X.heap[k]? = some (Obj.cells c t fz) → Y.heap[k]? = some (Obj.cells c t fz) := fun k c t fz hk => by
      rw [hg.block k (Array.getElem?_eq_some_iff.1 hk).1 (fun e => by
        obtain ⟨_, o, ho, hc⟩ := hr k e.symm
        rw [hk] at ho
        cases ho
        cases hc), hk]
    exact ⟨hcell _ _ _ _ h1.out, hcell _ _ _ _ h2.out, hcell _ _ _ _ h3.out, h4.out.grown hg h4.out.size (fun k e => by have := (hr k e).1; have := HBW2.out.size; omega)⟩
  case assign =>
    intro l x X K hK
    unfold ixV
    gi_wp2
    exact hK
  case stop =>
    rintro D c pre X _ _ h _
    exact h.elim
  case done =>
    rintro D xs X hD hxs ⟨h1, h2, h3, h4⟩ hDf
    have cP : X.cell? ⟨w1.heap.size, 0, none⟩ = some (.slice (some ⟨F, 0, none⟩) bs.length bs.length) := (cells_at h2.out 0).trans rfl
    have HT : Hid (Timed bs base step 0 (xs.foldl (fun T x => gradeF bs step T x.1) (List.replicate bs.length base))) := by
      have h5 := grade_timed HA.out (base := base) HS.out.1 bs.length 0 (by omega)
      rw [List.drop_zero, ← hxs, List.foldl_map] at h5
      exact h5
    have HDF := hide' hDf
    have HD := hide' hD
    clear hxs hDf hD
    gi_wp2_with fail
    refine leaves_marks [D] X ⟨by simp, fun d hd => by rw [List.mem_singleton.1 hd]; exact HDF.out⟩ ?_
    intro W' g1 g2 g3 g4 g5
    have hFD : F ∉ [D] := fun hm => by
      rw [List.mem_singleton.1 hm] at h1
      have e1 := h1.out
      rw [HDF.out] at e1
      cases e1
    refine ⟨_, results_tmp rfl _ _ _, _, F, rfl, HT.out, ?_, ?_⟩
    · exact ints_own ((g5 F hFD).trans h1.out) (by have := HF0.out; omega) HT.out.len (by omega)
    · refine ⟨g2.trans h4.out.os, g3.trans h4.out.tape, g4.trans h4.out.output, by rw [← g1]; exact h4.out.size, fun k hk => ?_⟩
      rw [g5 k (fun hm => by rw [List.mem_singleton.1 hm] at hk; have := HD.out; have := HBW2.out.size; omega)]
      exact h4.out.block k hk
  case body =>
    rintro l pre x X ⟨h1, h2, h3, h4⟩ hpl
    have hwi := fold_within HA.out (base := base) HS.out.1 pre
    have hbx := HA.out x.1 x.2
    rw [get_same x.2] at hbx
    have HFO : Hid (∀ T, T = gradeF bs step (pre.foldl (fun T x => gradeF bs step T x.1) (List.replicate bs.length base)) x.1 → (pre ++ [x]).foldl (fun T x => gradeF bs step T x.1) (List.replicate bs.length base) = T) := fun T hT => by rw [List.foldl_append, List.foldl_cons, List.foldl_nil, hT]
    obtain ⟨T, hT⟩ : ∃ T, T = pre.foldl (fun T x => gradeF bs step T x.1) (List.replicate bs.length base) := ⟨_, rfl⟩
    rw [← hT] at h1 hwi HFO
    obtain ⟨k, hkx⟩ : ∃ k, k = x.1 := ⟨_, rfl⟩
    have hkl : k < bs.length := by rw [hkx]; exact x.2
    rw [← hkx] at hbx HFO
    obtain ⟨b, hbe⟩ : ∃ b, b = bs.getD k 0 := ⟨_, rfl⟩
    have HBE := hide' hbe
    have HKX := hide' hkx
    have hmul : step * (pre.length : Int) ≤ 20000000 := by
      have e1 : step * (pre.length : Int) ≤ step * 20 := Int.mul_le_mul_of_nonneg_left (by omega) HS.out.1
      have := HS.out.2
      omega
    rw [← hkx, ← hbe]
    rw [← hbe] at hbx
    clear hT hkx hbe
    by_cases hneg : b < 0
    · have HV : Hid ((pre ++ [x]).foldl (fun T x => gradeF bs step T x.1) (List.replicate bs.length base) = T) := HFO.out T (by unfold gradeF; rw [← HBE.out, if_pos hneg])
      clear hwi hmul
      gi_wp2
      refine ⟨KeepsOthers.refl _, KeptB.refl _ _, ?_, h2, h3, h4⟩
      show _ = _
      rw [HV.out]
      exact h1.out
    · obtain ⟨c, rfl⟩ : ∃ c : Nat, b = (c : Int) := ⟨b.toNat, by omega⟩
      have hcl : c < bs.length := by omega
      have HV : Hid ((pre ++ [x]).foldl (fun T x => gradeF bs step T x.1) (List.replicate bs.length base) = T.set c (max (T.getD c 0) (T.getD k 0 + step))) := HFO.out _ (by unfold gradeF; rw [← HBE.out, if_neg hneg, Int.toNat_natCast])
      have w1' := hwi.2 k hkl
      have w2' := hwi.2 c hcl
      have hlen := hwi.1
      obtain ⟨cF, fF⟩ := ints_cellW h1.out (j := c) (by omega)
      obtain ⟨cK, _⟩ := ints_cellW h1.out (j := k) (by omega)
      have cP : X.cell? ⟨w1.heap.size, 0, none⟩ = some (.slice (some ⟨F, 0, none⟩) bs.length bs.length) := (cells_at h2.out 0).trans rfl
      have cS : X.cell? ⟨w.heap.size, 0, none⟩ = some (.int .i64 step) := (cells_at h3.out 0).trans rfl
      obtain ⟨tc, htc⟩ : ∃ x, x = T.getD c 0 := ⟨_, rfl⟩
      obtain ⟨tk, htk⟩ : ∃ x, x = T.getD k 0 := ⟨_, rfl⟩
      rw [← htc] at cF w2' HV
      rw [← htk] at cK w1' HV
      have hwr : IntKind.i64.wrap (tk + step) = tk + step := Go.IntWalk.i64_in _ (by have := HB.out; have := HS.out; omega)
      have HSH : Hid ((ints T).set c (.int .i64 (max tc (tk + step))) = ints (T.set c (max tc (tk + step)))) := by show _ = _; unfold ints; rw [List.map_set]
      clear htc htk hwi w1' w2' hmul hbx hneg
      gi_wp2
      refine wpIn_region_U (fun W => W.cell? ⟨w1.heap.size, 0, none⟩ = some (.slice (some ⟨F, 0, none⟩) bs.length bs.length) ∧ W.cell? ⟨F, c, none⟩ = some (.int .i64 tc) ∧ W.cell? ⟨F, k, none⟩ = some (.int .i64 tk) ∧ W.cell? ⟨w.heap.size, 0, none⟩ = some (.int .i64 step)) 14 (by kernel_rfl) ?_
      refine wpAnyU_takeAt 0 (some 21) (v := ?_) (by kernel_rfl) rfl (by kernel_rfl) (by kernel_rfl) (by kernel_rfl) (by kernel_rfl) (by kernel_rfl) (fun _ _ _ h => h) (by exact ⟨cP, cF, cK, cS⟩) (fun o hop w => by injection hop with hop; subst hop; rfl) (fun o hop => ?_) ?_
      rotate_left
      · injection hop with hop
        subst hop
        refine ⟨rfl, fun W hW => ?_⟩
        obtain ⟨s0, s1, s2, s3⟩ := hW
        go_simp
        first
        | done
        | rfl
      try simp only [Act.put, List.setIfInBounds_toArray, List.set_cons_zero, List.set_cons_succ]
      refine wpAnyU_takeAt 1 (some 22) (v := ?_) (by kernel_rfl) rfl (by kernel_rfl) (by kernel_rfl) (by kernel_rfl) (by kernel_rfl) (by kernel_rfl) (fun _ _ _ h => h) (by exact ⟨cP, cF, cK, cS⟩) (fun o hop w => by injection hop with hop; subst hop; rfl) (fun o hop => ?_) ?_
      rotate_left
      · injection hop with hop
        subst hop
        refine ⟨rfl, fun W hW => ?_⟩
        obtain ⟨s0, s1, s2, s3⟩ := hW
        go_simp
        first
        | done
        | rfl
      try simp only [Act.put, List.setIfInBounds_toArray, List.set_cons_zero, List.set_cons_succ]
      refine wpAnyU_takeAt 2 (some 23) (v := ?_) (by kernel_rfl) rfl (by kernel_rfl) (by kernel_rfl) (by kernel_rfl) (by kernel_rfl) (by kernel_rfl) (fun _ _ _ h => h) (by exact ⟨cP, cF, cK, cS⟩) (fun o hop w => by injection hop with hop; subst hop; rfl) (fun o hop => ?_) ?_
      rotate_left
      · injection hop with hop
        subst hop
        refine ⟨rfl, fun W hW => ?_⟩
        obtain ⟨s0, s1, s2, s3⟩ := hW
        go_simp
        first
        | done
        | rfl
      try simp only [Act.put, List.setIfInBounds_toArray, List.set_cons_zero, List.set_cons_succ]
      refine wpAnyU_takeAt 3 (some 24) (v := ?_) (by kernel_rfl) rfl (by kernel_rfl) (by kernel_rfl) (by kernel_rfl) (by kernel_rfl) (by kernel_rfl) (fun _ _ _ h => h) (by exact ⟨cP, cF, cK, cS⟩) (fun o hop w => by injection hop with hop; subst hop; rfl) (fun o hop => ?_) ?_
      rotate_left
      · injection hop with hop
        subst hop
        refine ⟨rfl, fun W hW => ?_⟩
        obtain ⟨s0, s1, s2, s3⟩ := hW
        go_simp
        first
        | done
        | rfl
      try simp only [Act.put, List.setIfInBounds_toArray, List.set_cons_zero, List.set_cons_succ]
      refine wpAnyU_takeAt 4 (some 25) (v := ?_) (by kernel_rfl) rfl (by kernel_rfl) (by kernel_rfl) (by kernel_rfl) (by kernel_rfl) (by kernel_rfl) (fun _ _ _ h => h) (by exact ⟨cP, cF, cK, cS⟩) (fun o hop w => by injection hop with hop; subst hop; rfl) (fun o hop => ?_) ?_
      rotate_left
      · injection hop with hop
        subst hop
        refine ⟨rfl, fun W hW => ?_⟩
        obtain ⟨s0, s1, s2, s3⟩ := hW
        go_simp
        first
        | done
        | rfl
      try simp only [Act.put, List.setIfInBounds_toArray, List.set_cons_zero, List.set_cons_succ]
      refine wpAnyU_takeAt 5 (some 26) (v := ?_) (by kernel_rfl) rfl (by kernel_rfl) (by kernel_rfl) (by kernel_rfl) (by kernel_rfl) (by kernel_rfl) (fun _ _ _ h => h) (by exact ⟨cP, cF, cK, cS⟩) (fun o hop w => by injection hop with hop; subst hop; rfl) (fun o hop => ?_) ?_
      rotate_left
      · injection hop with hop
        subst hop
        refine ⟨rfl, fun W hW => ?_⟩
        obtain ⟨s0, s1, s2, s3⟩ := hW
        go_simp
        first
        | done
        | rfl
      try simp only [Act.put, List.setIfInBounds_toArray, List.set_cons_zero, List.set_cons_succ]
      refine wpAnyU_takeAt 6 (some 27) (v := ?_) (by kernel_rfl) rfl (by kernel_rfl) (by kernel_rfl) (by kernel_rfl) (by kernel_rfl) (by kernel_rfl) (fun _ _ _ h => h) (by exact ⟨cP, cF, cK, cS⟩) (fun o hop w => by injection hop with hop; subst hop; rfl) (fun o hop => ?_) ?_
      rotate_left
      · injection hop with hop
        subst hop
        refine ⟨rfl, fun W hW => ?_⟩
        obtain ⟨s0, s1, s2, s3⟩ := hW
        go_simp
        first
        | done
        | rfl
      try simp only [Act.put, List.setIfInBounds_toArray, List.set_cons_zero, List.set_cons_succ]
      refine wpAnyU_takeAt 7 (some 28) (v := ?_) (by kernel_rfl) rfl (by kernel_rfl) (by kernel_rfl) (by kernel_rfl) (by kernel_rfl) (by kernel_rfl) (fun _ _ _ h => h) (by exact ⟨cP, cF, cK, cS⟩) (fun o hop w => by injection hop with hop; subst hop; rfl) (fun o hop => ?_) ?_
      rotate_left
      · injection hop with hop
        subst hop
        refine ⟨rfl, fun W hW => ?_⟩
        obtain ⟨s0, s1, s2, s3⟩ := hW
        go_simp
        first
        | done
        | rfl
      try simp only [Act.put, List.setIfInBounds_toArray, List.set_cons_zero, List.set_cons_succ]
      refine wpAnyU_takeAt 8 (some 29) (v := ?_) (by kernel_rfl) rfl (by kernel_rfl) (by kernel_rfl) (by kernel_rfl) (by kernel_rfl) (by kernel_rfl) (fun _ _ _ h => h) (by exact ⟨cP, cF, cK, cS⟩) (fun o hop w => by injection hop with hop; subst hop; rfl) (fun o hop => ?_) ?_
      rotate_left
      · injection hop with hop
        subst hop
        refine ⟨rfl, fun W hW => ?_⟩
        obtain ⟨s0, s1, s2, s3⟩ := hW
        go_simp
        first
        | done
        | rfl
      try simp only [Act.put, List.setIfInBounds_toArray, List.set_cons_zero, List.set_cons_succ]
      refine wpAnyU_takeAt 9 (some 30) (v := ?_) (by kernel_rfl) rfl (by kernel_rfl) (by kernel_rfl) (by kernel_rfl) (by kernel_rfl) (by kernel_rfl) (fun _ _ _ h => h) (by exact ⟨cP, cF, cK, cS⟩) (fun o hop w => by injection hop with hop; subst hop; rfl) (fun o hop => ?_) ?_
      rotate_left
      · injection hop with hop
        subst hop
        refine ⟨rfl, fun W hW => ?_⟩
        obtain ⟨s0, s1, s2, s3⟩ := hW
        go_simp
        first
        | done
        | rfl
      try simp only [Act.put, List.setIfInBounds_toArray, List.set_cons_zero, List.set_cons_succ]
      refine wpAnyU_takeAt 10 (some 31) (v := ?_) (by kernel_rfl) rfl (by kernel_rfl) (by kernel_rfl) (by kernel_rfl) (by kernel_rfl) (by kernel_rfl) (fun _ _ _ h => h) (by exact ⟨cP, cF, cK, cS⟩) (fun o hop w => by injection hop with hop; subst hop; rfl) (fun o hop => ?_) ?_
      rotate_left
      · injection hop with hop
        subst hop
        refine ⟨rfl, fun W hW => ?_⟩
        obtain ⟨s0, s1, s2, s3⟩ := hW
        go_simp
        first
        | done
        | rfl
      try simp only [Act.put, List.setIfInBounds_toArray, List.set_cons_zero, List.set_cons_succ]
      refine wpAnyU_takeAt 11 (some 32) (v := ?_) (by kernel_rfl) rfl (by kernel_rfl) (by kernel_rfl) (by kernel_rfl) (by kernel_rfl) (by kernel_rfl) (fun _ _ _ h => h) (by exact ⟨cP, cF, cK, cS⟩) (fun o hop w => by injection hop with hop; subst hop; rfl) (fun o hop => ?_) ?_
      rotate_left
      · injection hop with hop
        subst hop
        refine ⟨rfl, fun W hW => ?_⟩
        obtain ⟨s0, s1, s2, s3⟩ := hW
        go_simp
        first
        | done
        | rfl
      try simp only [Act.put, List.setIfInBounds_toArray, List.set_cons_zero, List.set_cons_succ]
      refine wpAnyU_takeAt 12 (some 33) (v := ?_) (by kernel_rfl) rfl (by kernel_rfl) (by kernel_rfl) (by kernel_rfl) (by kernel_rfl) (by kernel_rfl) (fun _ _ _ h => h) (by exact ⟨cP, cF, cK, cS⟩) (fun o hop w => by injection hop with hop; subst hop; rfl) (fun o hop => ?_) ?_
      rotate_left
      · injection hop with hop
        subst hop
        refine ⟨rfl, fun W hW => ?_⟩
        obtain ⟨s0, s1, s2, s3⟩ := hW
        go_simp
        first
        | done
        | rfl
      try simp only [Act.put, List.setIfInBounds_toArray, List.set_cons_zero, List.set_cons_succ]
      refine wpAnyU_one (i := 13) (by kernel_rfl) rfl rfl (fun K' hK => ?_)
      go_simp
      refine hK.out _ _ (fun _ _ => by exact ⟨cP, cF, cK, cS⟩) ?_
      clear hK K'
      refine wpAnyU_one (i := 14) (by kernel_rfl) rfl rfl (fun K' hK => ?_)
      go_simp
      refine hK.out _ _ (fun h => absurd rfl h) ?_
      clear hK K'
      refine wpAnyU_done (by kernel_rfl) ?_ _
      rw [show (if tc < tk + step then tk + step else tc) = max tc (tk + step) by split <;> omega]
      refine ⟨(KeepsOthers.setCell X _ _).trans (KeepsOthers.drew _), KeptB.setCell (W := X) HFK.out _, ?_, ?_, ?_, ?_⟩
      · show (X.setCell ⟨F, c, none⟩ (.int .i64 (max tc (tk + step)))).heap[F]? = _
        rw [HV.out, ← HSH.out, set_any h1.out]
        simp
      · exact (Below.heap_setCell _ _ _ _ (by have := HFL.out; show w1.heap.size ≠ F; omega)).trans h2.out
      · exact (Below.heap_setCell _ _ _ _ (by have := HF0.out; show w.heap.size ≠ F; omega)).trans h3.out
      · exact (h4.out.setCell (p := ⟨F, c, none⟩) (by have := HF0.out; show w.heap.size ≤ F; omega) _).drew
end Go.Proofs.Ytpejnkngmnabfai
