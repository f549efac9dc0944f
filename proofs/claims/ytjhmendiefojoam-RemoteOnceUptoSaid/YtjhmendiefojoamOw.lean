/- Both ends begin: the station. -/
import Derived.Test.YtjhmendiefojoamYc
import Derived.Test.YtjhmendiefojoamOo
namespace Go.Proofs.Ytjhmendiefojoam
open Go.RowKit Go.Shelf

theorem step_make_full {P : Program} {ops : Array Oper} {o : Oper} {a : Act} {w : World} {K : Act → World → Prop} {Q : Exit → Act → World → Prop} {E : Prop}
    (hg : o.guard = none) (l c : Operand) (t : TypeId) (hop : o.op = Op.makeSlice t l c)
    (base : Nat) (e : TypeId) (i : TypeInfo) (z : Value) (size : Nat) (h1 : P.underlying t = some (.slice e)) (h2 : P.info? e = some i) (h3 : i.zero = some z) (h4 : i.size = size)
    (kl kc : IntKind) (L C : Int) (n : Nat) (hl : a.eval l = .int kl L) (hc : a.eval c = .int kc C) (hL : L = (n : Int)) (hC : C = (n : Int)) (b2 : i.bytes * n ≤ 281474976710656) (b3 : n ≤ maxLen) (b4 : base ≤ w.heap.size)
    (hK : ∀ w', w'.ownsRow base e size (.slice (some ⟨w.heap.size, 0, none⟩) n n) n (madeCells z.cells (n * size)).toList → w.grownBy w' none → K (a.put o.dst (.slice (some ⟨w.heap.size, 0, none⟩) n n)) w') :
    if Region.wanted o (yielded ops a.tmps) = true then Oper.wp P o a w K Q else E := by
  have hw : Region.wanted o (yielded ops a.tmps) = true := by simp [Region.wanted, hg]
  rw [if_pos hw]
  obtain ⟨w', hrun, r1, r2⟩ := run_make_full (P := P) w base t e i z size h1 h2 h3 h4 kl kc n b2 b3 b4
  subst hL hC
  unfold Oper.wp
  simp [execOp, hop, hl, hc, hrun, Result.andThen]
  exact hK _ r1 r2
theorem Try.info4' : (Try.prog.info? 4).map (fun i => (i.zero, i.size, i.bytes)) = some (some (.bool false), 1, 1) := by kernel_rfl
/-- What the first region of the law leaves. -/
def StartQ (p : Int) (tv : Value) (w : World) : Exit → Act → World → Prop := fun e a w' => e = .normal ∧ ∃ (A : Nat) (pa : Option Addr) (pc : Nat) (g14 g15 g16 g17 g18 g19 g20 g21 : Value), a = ⟨#[.int .i64 p, tv, undef, undef, .bool false, .pointer (some ⟨A, 0, none⟩), .int .i64 0, undef, undef, undef, undef, undef, undef, undef, g14, g15, g16, g17, g18, g19, g20, g21, undef, undef, undef, undef, undef, undef, undef, undef, undef, undef, undef, undef, undef, undef, undef, undef, undef, undef, undef, undef, undef, undef, undef, undef, undef, undef, undef, undef, undef, undef, undef, undef, undef, undef, undef, undef, undef, undef, undef, undef, undef, undef, undef, undef, undef, undef, undef, undef, undef, undef, undef, undef, undef, undef, undef, undef, undef, undef, undef, undef, undef, undef, undef, undef, undef, undef, undef, undef, undef, undef, undef, undef, undef, undef, undef, undef, undef, undef, undef, undef, undef, undef, undef, undef, undef, undef, undef, undef, undef, undef, undef, undef, undef, undef, undef, undef, undef, undef, undef, undef, undef, undef, undef, undef, undef, undef, undef, undef, undef, undef, undef, undef, undef, undef, undef, undef, undef, undef], []⟩ ∧ w'.heap[A]? = some (.cells #[.slice pa 4 pc, .int .i64 (-1), .int .i64 (-1), .int .i64 0, .bool false, .int .i64 0, .int .i64 (20 + pickedI p 5)] 24 (0, 0)) ∧ w'.ownsRow 0 4 1 (.slice pa 4 pc) 4 [.bool false, .bool false, .bool false, .bool false] ∧ Below w.heap.size w w' ∧ w.heap.size ≤ A
theorem nomP {p : Int} {tv : Value} {w w' : World} {a a' : Act} {c : List PanicEntry} (h : StartQ p tv w (.panic c) a w') : StartQ p tv w (.panic c) a' w' := by
  obtain ⟨h, _⟩ := h
  cases h
set_option maxRecDepth 1000000 in
set_option maxHeartbeats 8000000 in
theorem start1 (p : Int) (hp : I6 p) (tv : Value) (w : World) : Code.wp Try.prog (headC 1 Try.f7) (StartQ p tv w) ⟨#[.int .i64 p, tv, undef, undef, .bool false, undef, undef, undef, undef, undef, undef, undef, undef, undef, undef, undef, undef, undef, undef, undef, undef, undef, undef, undef, undef, undef, undef, undef, undef, undef, undef, undef, undef, undef, undef, undef, undef, undef, undef, undef, undef, undef, undef, undef, undef, undef, undef, undef, undef, undef, undef, undef, undef, undef, undef, undef, undef, undef, undef, undef, undef, undef, undef, undef, undef, undef, undef, undef, undef, undef, undef, undef, undef, undef, undef, undef, undef, undef, undef, undef, undef, undef, undef, undef, undef, undef, undef, undef, undef, undef, undef, undef, undef, undef, undef, undef, undef, undef, undef, undef, undef, undef, undef, undef, undef, undef, undef, undef, undef, undef, undef, undef, undef, undef, undef, undef, undef, undef, undef, undef, undef, undef, undef, undef, undef, undef, undef, undef, undef, undef, undef, undef, undef, undef, undef, undef, undef, undef, undef, undef], []⟩ w := by
  obtain ⟨i4, hi4, h40, h41, h42⟩ := info_parts Try.info4'
  have hmk : (madeCells (Value.bool false).cells (4 * 1)).toList = [.bool false, .bool false, .bool false, .bool false] := by kernel_rfl
  have HPB : Hid (1 ≤ 20 + pickedI p 5 ∧ 20 + pickedI p 5 ≤ 1000) := by
    have h5 : 0 ≤ pickedI p 5 ∧ pickedI p 5 < 5 := picked_bd (n := p) (f := 5) (by decide)
    exact ⟨by omega, by omega⟩
  have HWR : Hid (IntKind.i64.wrap (20 + pickedI p 5) = 20 + pickedI p 5) := wrap_ok (by have := HPB.out; omega)
  have HBG : Hid (∀ z G, RowAt z (.slice (some ⟨G, 0, none⟩) 4 4) 4 1 [.bool false, .bool false, .bool false, .bool false] → Calls Try.prog 19 #[.slice (some ⟨G, 0, none⟩) 4 4, .int .i64 (20 + pickedI p 5)] z (fun e z' => ∃ pa pc, e = .returned (.tuple #[.agg #[.slice pa 4 pc, .int .i64 (-1), .int .i64 (-1), .int .i64 0, .bool false, .int .i64 0, .int .i64 (20 + pickedI p 5)], .int .i64 0]) ∧ z'.ownsRow 0 4 1 (.slice pa 4 pc) 4 [.bool false, .bool false, .bool false, .bool false] ∧ Below z.heap.size z z')) := fun z G hr => Begin_own [false, false, false, false] 4 4 (some ⟨G, 0, none⟩) (20 + pickedI p 5) z hr (by decide) [false, false, false, false] ⟨-1, -1, 0, false, 0, 20 + pickedI p 5⟩ 0 (.inr (.inr ⟨by decide, HPB.out, rfl, rfl, rfl⟩))
  conv => arg 2; whnf
  have H0 : Hid (Below w.heap.size w w.drew) := (Below.refl _ w).drew
  refine wp_region_tail (fun _ => True) 10 (by kernel_rfl) ?_
  refine wpAnyT_letter (fun q => Hid (Below w.heap.size w q)) H0.out ?_
  clear H0
  intro z H0
  refine wpAnyD_takeAt 1 (some 16) (v := ?_) rfl (by kernel_rfl) (by kernel_rfl) (by kernel_rfl) (by kernel_rfl) (by kernel_rfl) (fun c a w h => nomP h) (by trivial) (fun o hop => ?_) ?_
  rotate_left
  · injection hop with hop
    subst hop
    refine ⟨rfl, fun W' hW => ?_⟩
    go_simp
    first
    | rfl
    | (constructor <;> rfl)
  try simp only [Act.put, List.setIfInBounds_toArray, List.set_cons_zero, List.set_cons_succ]
  refine wpAnyT_three (i := 0) (j := 2) (k := 8) (by kernel_rfl) rfl rfl rfl rfl rfl rfl (fun K' hK => ?_) (fun K' hK => ?_) (fun K' hK => ?_)
  · refine step_make_full rfl _ _ 22 rfl w.heap.size 4 i4 (.bool false) 1 Try.underlying22 hi4 h40 h41 .i64 .i64 _ _ 4 rfl rfl rfl rfl (by rw [h42]; decide) (by decide) H0.out.size ?_
    intro z1 hown hgr
    obtain ⟨G, hG⟩ : ∃ x, x = z.heap.size := ⟨_, rfl⟩
    have hb2 : Below z.heap.size z z1 := (Below.refl _ z).grown hgr (Nat.le_refl _) (fun k e => by cases e)
    rw [← hG, hmk] at hown
    have H1 : Hid ((Below w.heap.size w z1) ∧ (z1.ownsRow w.heap.size 4 1 (.slice (some ⟨G, 0, none⟩) 4 4) 4 [.bool false, .bool false, .bool false, .bool false])) := ⟨H0.out.trans (hb2.mono H0.out.size), hown⟩
    rw [← hG]
    refine hK.out _ _ (fun _ => trivial) ?_
    clear hK K' hown hgr hb2 hG H0
    try simp only [Act.put, List.setIfInBounds_toArray]
    refine wpAnyT_two (i := 2) (j := 8) (by kernel_rfl) rfl rfl rfl rfl (fun K' hK => ?_) (fun K' hK => ?_)
    · go_simp
      go_at_call 20
      refine (picked_any p 5 hp (by decide) (by decide) _).mono ?_
      rintro e zz ⟨rfl, hzz⟩
      rw [hzz]
      clear hzz zz
      rw [show pickedI p ((5 : Nat) : Int) = pickedI p 5 from rfl]
      refine hK.out _ _ (fun _ => trivial) ?_
      clear hK K'
      try simp only [Act.put, List.setIfInBounds_toArray, List.set_cons_zero, List.set_cons_succ]
      refine wpAnyD_takeAt 3 (some 18) (v := .int .i64 (20 + pickedI p 5)) rfl (by kernel_rfl) (by kernel_rfl) (by kernel_rfl) (by kernel_rfl) (by kernel_rfl) (fun c a w h => nomP h) (by trivial) (fun o hop => ?_) ?_
      · injection hop with hop
        subst hop
        refine ⟨rfl, fun W' hW => ?_⟩
        go_simp
        first
        | rfl
        | (constructor <;> rfl)
        | rw [HWR.out]
      try simp only [Act.put, List.setIfInBounds_toArray, List.set_cons_zero, List.set_cons_succ]
      refine wpAnyT_two (i := 4) (j := 8) (by kernel_rfl) rfl rfl rfl rfl (fun K' hK => ?_) (fun K' hK => ?_)
      · go_simp
        go_at_call 19
        refine (HBG.out z1 G (rowAt_of_own H1.out.2)).mono ?_
        rintro e z3 ⟨pa, pc, rfl, hown, hb2⟩
        have H3 : Hid ((Below w.heap.size w z3) ∧ (z3.ownsRow w.heap.size 4 1 (.slice (some ⟨G, 0, none⟩) 4 4) 4 [.bool false, .bool false, .bool false, .bool false]) ∧ (z3.ownsRow 0 4 1 (.slice pa 4 pc) 4 [.bool false, .bool false, .bool false, .bool false])) := ⟨H1.out.1.trans (hb2.mono H1.out.1.size), own_below H1.out.2 hb2 (Nat.le_refl _), hown⟩
        refine hK.out _ _ (fun _ => trivial) ?_
        clear hK K' hown hb2 H1
        try simp only [Act.put, List.setIfInBounds_toArray, List.set_cons_zero, List.set_cons_succ]
        refine wpAnyD_takeAt 5 (some 14) (v := ?_) rfl (by kernel_rfl) (by kernel_rfl) (by kernel_rfl) (by kernel_rfl) (by kernel_rfl) (fun c a w h => nomP h) (by trivial) (fun o hop => ?_) ?_
        rotate_left
        · injection hop with hop
          subst hop
          refine ⟨rfl, fun W' hW => ?_⟩
          go_simp
          first
          | rfl
          | (constructor <;> rfl)
        try simp only [Act.put, List.setIfInBounds_toArray, List.set_cons_zero, List.set_cons_succ]
        refine wpAnyD_takeAt 6 (some 20) (v := ?_) rfl (by kernel_rfl) (by kernel_rfl) (by kernel_rfl) (by kernel_rfl) (by kernel_rfl) (fun c a w h => nomP h) (by trivial) (fun o hop => ?_) ?_
        rotate_left
        · injection hop with hop
          subst hop
          refine ⟨rfl, fun W' hW => ?_⟩
          go_simp
          first
          | rfl
          | (constructor <;> rfl)
        try simp only [Act.put, List.setIfInBounds_toArray, List.set_cons_zero, List.set_cons_succ]
        refine wpAnyD_takeAt 7 (some 21) (v := ?_) rfl (by kernel_rfl) (by kernel_rfl) (by kernel_rfl) (by kernel_rfl) (by kernel_rfl) (fun c a w h => nomP h) (by trivial) (fun o hop => ?_) ?_
        rotate_left
        · injection hop with hop
          subst hop
          refine ⟨rfl, fun W' hW => ?_⟩
          go_simp
          first
          | rfl
          | (constructor <;> rfl)
        try simp only [Act.put, List.setIfInBounds_toArray, List.set_cons_zero, List.set_cons_succ]
        refine wpAnyT_one (i := 8) (by kernel_rfl) rfl rfl (fun K' hK => ?_)
        go_simp
        obtain ⟨A, hA⟩ : ∃ x, x = z3.heap.size := ⟨_, rfl⟩
        have hb2 := below_al z3 (.cells #[.slice none 0 0, .int .i64 0, .int .i64 0, .int .i64 0, .bool false, .int .i64 0, .int .i64 0] 24)
        have hown := alloc_new z3 (.cells #[.slice none 0 0, .int .i64 0, .int .i64 0, .int .i64 0, .bool false, .int .i64 0, .int .i64 0] 24)
        rw [← hA] at hown
        obtain ⟨z4, hz2⟩ : ∃ x, x = z3.alloc (.cells #[.slice none 0 0, .int .i64 0, .int .i64 0, .int .i64 0, .bool false, .int .i64 0, .int .i64 0] 24) := ⟨_, rfl⟩
        rw [← hz2] at hown hb2 ⊢
        have H4 : Hid ((Below w.heap.size w z4) ∧ (z4.ownsRow w.heap.size 4 1 (.slice (some ⟨G, 0, none⟩) 4 4) 4 [.bool false, .bool false, .bool false, .bool false]) ∧ (z4.heap[A]? = some (.cells #[.slice none 0 0, .int .i64 0, .int .i64 0, .int .i64 0, .bool false, .int .i64 0, .int .i64 0] 24 (0, 0)) ∧ w.heap.size ≤ A) ∧ (z4.ownsRow 0 4 1 (.slice pa 4 pc) 4 [.bool false, .bool false, .bool false, .bool false])) := ⟨H3.out.1.trans (hb2.mono H3.out.1.size), own_below H3.out.2.1 hb2 (Nat.le_refl _), ⟨hown, by rw [hA]; exact H3.out.1.size⟩, own_below H3.out.2.2 hb2 (Nat.le_refl _)⟩
        rw [← hA]
        refine hK.out _ _ (fun _ => trivial) ?_
        clear hK K' hown hb2 hz2 hA H3
        try simp only [Act.put, List.setIfInBounds_toArray, List.set_cons_zero, List.set_cons_succ]
        have HEz := hide' H4.out.2.2.1.1
        obtain ⟨b0, b1, b2, b3, b4, b5, b6⟩ := cellsP7 HEz.out
        obtain ⟨e0, e1, e2, e3, e4, e5, e6⟩ := frozenP7 HEz.out
        have HP := hide' (put7 (S0 := StM.nought) HEz.out ⟨-1, -1, 0, false, 0, 20 + pickedI p 5⟩ (.slice pa 4 pc))
        have HFN : Hid ((((((((z4.setCell ⟨A, 0, none⟩ (.slice pa 4 pc)).setCell ⟨A, 1, none⟩ (.int .i64 (-1))).setCell ⟨A, 2, none⟩ (.int .i64 (-1))).setCell ⟨A, 3, none⟩ (.int .i64 0)).setCell ⟨A, 4, none⟩ (.bool false)).setCell ⟨A, 5, none⟩ (.int .i64 0)).setCell ⟨A, 6, none⟩ (.int .i64 (20 + pickedI p 5))).heap[A]? = some (.cells #[.slice pa 4 pc, .int .i64 (-1), .int .i64 (-1), .int .i64 0, .bool false, .int .i64 0, .int .i64 (20 + pickedI p 5)] 24 (0, 0)) ∧ (((((((z4.setCell ⟨A, 0, none⟩ (.slice pa 4 pc)).setCell ⟨A, 1, none⟩ (.int .i64 (-1))).setCell ⟨A, 2, none⟩ (.int .i64 (-1))).setCell ⟨A, 3, none⟩ (.int .i64 0)).setCell ⟨A, 4, none⟩ (.bool false)).setCell ⟨A, 5, none⟩ (.int .i64 0)).setCell ⟨A, 6, none⟩ (.int .i64 (20 + pickedI p 5))).ownsRow 0 4 1 (.slice pa 4 pc) 4 [.bool false, .bool false, .bool false, .bool false] ∧ Below w.heap.size w (((((((z4.setCell ⟨A, 0, none⟩ (.slice pa 4 pc)).setCell ⟨A, 1, none⟩ (.int .i64 (-1))).setCell ⟨A, 2, none⟩ (.int .i64 (-1))).setCell ⟨A, 3, none⟩ (.int .i64 0)).setCell ⟨A, 4, none⟩ (.bool false)).setCell ⟨A, 5, none⟩ (.int .i64 0)).setCell ⟨A, 6, none⟩ (.int .i64 (20 + pickedI p 5))) ∧ w.heap.size ≤ A) := ⟨HP.out.1, own_keep H4.out.2.2.2 (but_keep HP.out.2 HEz.out) (by decide), H4.out.1.trans (HP.out.2.below H4.out.2.2.1.2 H4.out.1.size), H4.out.2.2.1.2⟩
        refine wpAnyT_one (i := 9) (by kernel_rfl) rfl rfl (fun K' hK => ?_)
        go_simp
        refine hK.out _ _ (fun _ => trivial) ?_
        clear hK K'
        try simp only [Act.put, List.setIfInBounds_toArray, List.set_cons_zero, List.set_cons_succ]
        refine wpAnyT_one (i := 10) (by kernel_rfl) rfl rfl (fun K' hK => ?_)
        go_simp
        refine hK.out _ _ (fun h => absurd rfl h) ?_
        clear hK K'
        try simp only [Act.put, List.setIfInBounds_toArray, List.set_cons_zero, List.set_cons_succ]
        refine wpAnyT_done (by kernel_rfl) ?_ _
        exact ⟨rfl, A, pa, pc, _, _, _, _, _, _, _, _, rfl, HFN.out⟩
      · go_simp
        obtain ⟨A, hA⟩ : ∃ x, x = z1.heap.size := ⟨_, rfl⟩
        have hb2 := below_al z1 (.cells #[.slice none 0 0, .int .i64 0, .int .i64 0, .int .i64 0, .bool false, .int .i64 0, .int .i64 0] 24)
        have hown := alloc_new z1 (.cells #[.slice none 0 0, .int .i64 0, .int .i64 0, .int .i64 0, .bool false, .int .i64 0, .int .i64 0] 24)
        rw [← hA] at hown
        obtain ⟨z5, hz2⟩ : ∃ x, x = z1.alloc (.cells #[.slice none 0 0, .int .i64 0, .int .i64 0, .int .i64 0, .bool false, .int .i64 0, .int .i64 0] 24) := ⟨_, rfl⟩
        rw [← hz2] at hown hb2 ⊢
        have H5 : Hid ((Below w.heap.size w z5) ∧ (z5.ownsRow w.heap.size 4 1 (.slice (some ⟨G, 0, none⟩) 4 4) 4 [.bool false, .bool false, .bool false, .bool false]) ∧ (z5.heap[A]? = some (.cells #[.slice none 0 0, .int .i64 0, .int .i64 0, .int .i64 0, .bool false, .int .i64 0, .int .i64 0] 24 (0, 0)) ∧ w.heap.size ≤ A)) := ⟨H1.out.1.trans (hb2.mono H1.out.1.size), own_below H1.out.2 hb2 (Nat.le_refl _), ⟨hown, by rw [hA]; exact H1.out.1.size⟩⟩
        rw [← hA]
        refine hK.out _ _ (fun _ => trivial) ?_
        clear hK K' hown hb2 hz2 hA H1
        try simp only [Act.put, List.setIfInBounds_toArray, List.set_cons_zero, List.set_cons_succ]
        refine wpAnyT_one (i := 4) (by kernel_rfl) rfl rfl (fun K' hK => ?_)
        go_simp
        go_at_call 19
        refine (HBG.out z5 G (rowAt_of_own H5.out.2.1)).mono ?_
        rintro e z6 ⟨pa, pc, rfl, hown, hb2⟩
        have H6 : Hid ((Below w.heap.size w z6) ∧ (z6.ownsRow w.heap.size 4 1 (.slice (some ⟨G, 0, none⟩) 4 4) 4 [.bool false, .bool false, .bool false, .bool false]) ∧ (z6.heap[A]? = some (.cells #[.slice none 0 0, .int .i64 0, .int .i64 0, .int .i64 0, .bool false, .int .i64 0, .int .i64 0] 24 (0, 0)) ∧ w.heap.size ≤ A) ∧ (z6.ownsRow 0 4 1 (.slice pa 4 pc) 4 [.bool false, .bool false, .bool false, .bool false])) := ⟨H5.out.1.trans (hb2.mono H5.out.1.size), own_below H5.out.2.1 hb2 (Nat.le_refl _), ⟨(hb2.block A (lt_heap H5.out.2.2.1)).trans H5.out.2.2.1, H5.out.2.2.2⟩, hown⟩
        refine hK.out _ _ (fun _ => trivial) ?_
        clear hK K' hown hb2 H5
        try simp only [Act.put, List.setIfInBounds_toArray, List.set_cons_zero, List.set_cons_succ]
        refine wpAnyD_takeAt 5 (some 14) (v := ?_) rfl (by kernel_rfl) (by kernel_rfl) (by kernel_rfl) (by kernel_rfl) (by kernel_rfl) (fun c a w h => nomP h) (by trivial) (fun o hop => ?_) ?_
        rotate_left
        · injection hop with hop
          subst hop
          refine ⟨rfl, fun W' hW => ?_⟩
          go_simp
          first
          | rfl
          | (constructor <;> rfl)
        try simp only [Act.put, List.setIfInBounds_toArray, List.set_cons_zero, List.set_cons_succ]
        refine wpAnyD_takeAt 6 (some 20) (v := ?_) rfl (by kernel_rfl) (by kernel_rfl) (by kernel_rfl) (by kernel_rfl) (by kernel_rfl) (fun c a w h => nomP h) (by trivial) (fun o hop => ?_) ?_
        rotate_left
        · injection hop with hop
          subst hop
          refine ⟨rfl, fun W' hW => ?_⟩
          go_simp
          first
          | rfl
          | (constructor <;> rfl)
        try simp only [Act.put, List.setIfInBounds_toArray, List.set_cons_zero, List.set_cons_succ]
        refine wpAnyD_takeAt 7 (some 21) (v := ?_) rfl (by kernel_rfl) (by kernel_rfl) (by kernel_rfl) (by kernel_rfl) (by kernel_rfl) (fun c a w h => nomP h) (by trivial) (fun o hop => ?_) ?_
        rotate_left
        · injection hop with hop
          subst hop
          refine ⟨rfl, fun W' hW => ?_⟩
          go_simp
          first
          | rfl
          | (constructor <;> rfl)
        try simp only [Act.put, List.setIfInBounds_toArray, List.set_cons_zero, List.set_cons_succ]
        have HEz := hide' H6.out.2.2.1.1
        obtain ⟨b0, b1, b2, b3, b4, b5, b6⟩ := cellsP7 HEz.out
        obtain ⟨e0, e1, e2, e3, e4, e5, e6⟩ := frozenP7 HEz.out
        have HP := hide' (put7 (S0 := StM.nought) HEz.out ⟨-1, -1, 0, false, 0, 20 + pickedI p 5⟩ (.slice pa 4 pc))
        have HFN : Hid ((((((((z6.setCell ⟨A, 0, none⟩ (.slice pa 4 pc)).setCell ⟨A, 1, none⟩ (.int .i64 (-1))).setCell ⟨A, 2, none⟩ (.int .i64 (-1))).setCell ⟨A, 3, none⟩ (.int .i64 0)).setCell ⟨A, 4, none⟩ (.bool false)).setCell ⟨A, 5, none⟩ (.int .i64 0)).setCell ⟨A, 6, none⟩ (.int .i64 (20 + pickedI p 5))).heap[A]? = some (.cells #[.slice pa 4 pc, .int .i64 (-1), .int .i64 (-1), .int .i64 0, .bool false, .int .i64 0, .int .i64 (20 + pickedI p 5)] 24 (0, 0)) ∧ (((((((z6.setCell ⟨A, 0, none⟩ (.slice pa 4 pc)).setCell ⟨A, 1, none⟩ (.int .i64 (-1))).setCell ⟨A, 2, none⟩ (.int .i64 (-1))).setCell ⟨A, 3, none⟩ (.int .i64 0)).setCell ⟨A, 4, none⟩ (.bool false)).setCell ⟨A, 5, none⟩ (.int .i64 0)).setCell ⟨A, 6, none⟩ (.int .i64 (20 + pickedI p 5))).ownsRow 0 4 1 (.slice pa 4 pc) 4 [.bool false, .bool false, .bool false, .bool false] ∧ Below w.heap.size w (((((((z6.setCell ⟨A, 0, none⟩ (.slice pa 4 pc)).setCell ⟨A, 1, none⟩ (.int .i64 (-1))).setCell ⟨A, 2, none⟩ (.int .i64 (-1))).setCell ⟨A, 3, none⟩ (.int .i64 0)).setCell ⟨A, 4, none⟩ (.bool false)).setCell ⟨A, 5, none⟩ (.int .i64 0)).setCell ⟨A, 6, none⟩ (.int .i64 (20 + pickedI p 5))) ∧ w.heap.size ≤ A) := ⟨HP.out.1, own_keep H6.out.2.2.2 (but_keep HP.out.2 HEz.out) (by decide), H6.out.1.trans (HP.out.2.below H6.out.2.2.1.2 H6.out.1.size), H6.out.2.2.1.2⟩
        refine wpAnyT_one (i := 9) (by kernel_rfl) rfl rfl (fun K' hK => ?_)
        go_simp
        refine hK.out _ _ (fun _ => trivial) ?_
        clear hK K'
        try simp only [Act.put, List.setIfInBounds_toArray, List.set_cons_zero, List.set_cons_succ]
        refine wpAnyT_one (i := 10) (by kernel_rfl) rfl rfl (fun K' hK => ?_)
        go_simp
        refine hK.out _ _ (fun h => absurd rfl h) ?_
        clear hK K'
        try simp only [Act.put, List.setIfInBounds_toArray, List.set_cons_zero, List.set_cons_succ]
        refine wpAnyT_done (by kernel_rfl) ?_ _
        exact ⟨rfl, A, pa, pc, _, _, _, _, _, _, _, _, rfl, HFN.out⟩
    · go_simp
      obtain ⟨A, hA⟩ : ∃ x, x = z1.heap.size := ⟨_, rfl⟩
      have hb2 := below_al z1 (.cells #[.slice none 0 0, .int .i64 0, .int .i64 0, .int .i64 0, .bool false, .int .i64 0, .int .i64 0] 24)
      have hown := alloc_new z1 (.cells #[.slice none 0 0, .int .i64 0, .int .i64 0, .int .i64 0, .bool false, .int .i64 0, .int .i64 0] 24)
      rw [← hA] at hown
      obtain ⟨z7, hz2⟩ : ∃ x, x = z1.alloc (.cells #[.slice none 0 0, .int .i64 0, .int .i64 0, .int .i64 0, .bool false, .int .i64 0, .int .i64 0] 24) := ⟨_, rfl⟩
      rw [← hz2] at hown hb2 ⊢
      have H7 : Hid ((Below w.heap.size w z7) ∧ (z7.ownsRow w.heap.size 4 1 (.slice (some ⟨G, 0, none⟩) 4 4) 4 [.bool false, .bool false, .bool false, .bool false]) ∧ (z7.heap[A]? = some (.cells #[.slice none 0 0, .int .i64 0, .int .i64 0, .int .i64 0, .bool false, .int .i64 0, .int .i64 0] 24 (0, 0)) ∧ w.heap.size ≤ A)) := ⟨H1.out.1.trans (hb2.mono H1.out.1.size), own_below H1.out.2 hb2 (Nat.le_refl _), ⟨hown, by rw [hA]; exact H1.out.1.size⟩⟩
      rw [← hA]
      refine hK.out _ _ (fun _ => trivial) ?_
      clear hK K' hown hb2 hz2 hA H1
      try simp only [Act.put, List.setIfInBounds_toArray, List.set_cons_zero, List.set_cons_succ]
      refine wpAnyT_one (i := 2) (by kernel_rfl) rfl rfl (fun K' hK => ?_)
      go_simp
      go_at_call 20
      refine (picked_any p 5 hp (by decide) (by decide) _).mono ?_
      rintro e zz ⟨rfl, hzz⟩
      rw [hzz]
      clear hzz zz
      rw [show pickedI p ((5 : Nat) : Int) = pickedI p 5 from rfl]
      refine hK.out _ _ (fun _ => trivial) ?_
      clear hK K'
      try simp only [Act.put, List.setIfInBounds_toArray, List.set_cons_zero, List.set_cons_succ]
      refine wpAnyD_takeAt 3 (some 18) (v := .int .i64 (20 + pickedI p 5)) rfl (by kernel_rfl) (by kernel_rfl) (by kernel_rfl) (by kernel_rfl) (by kernel_rfl) (fun c a w h => nomP h) (by trivial) (fun o hop => ?_) ?_
      · injection hop with hop
        subst hop
        refine ⟨rfl, fun W' hW => ?_⟩
        go_simp
        first
        | rfl
        | (constructor <;> rfl)
        | rw [HWR.out]
      try simp only [Act.put, List.setIfInBounds_toArray, List.set_cons_zero, List.set_cons_succ]
      refine wpAnyT_one (i := 4) (by kernel_rfl) rfl rfl (fun K' hK => ?_)
      go_simp
      go_at_call 19
      refine (HBG.out z7 G (rowAt_of_own H7.out.2.1)).mono ?_
      rintro e z9 ⟨pa, pc, rfl, hown, hb2⟩
      have H9 : Hid ((Below w.heap.size w z9) ∧ (z9.ownsRow w.heap.size 4 1 (.slice (some ⟨G, 0, none⟩) 4 4) 4 [.bool false, .bool false, .bool false, .bool false]) ∧ (z9.heap[A]? = some (.cells #[.slice none 0 0, .int .i64 0, .int .i64 0, .int .i64 0, .bool false, .int .i64 0, .int .i64 0] 24 (0, 0)) ∧ w.heap.size ≤ A) ∧ (z9.ownsRow 0 4 1 (.slice pa 4 pc) 4 [.bool false, .bool false, .bool false, .bool false])) := ⟨H7.out.1.trans (hb2.mono H7.out.1.size), own_below H7.out.2.1 hb2 (Nat.le_refl _), ⟨(hb2.block A (lt_heap H7.out.2.2.1)).trans H7.out.2.2.1, H7.out.2.2.2⟩, hown⟩
      refine hK.out _ _ (fun _ => trivial) ?_
      clear hK K' hown hb2 H7
      try simp only [Act.put, List.setIfInBounds_toArray, List.set_cons_zero, List.set_cons_succ]
      refine wpAnyD_takeAt 5 (some 14) (v := ?_) rfl (by kernel_rfl) (by kernel_rfl) (by kernel_rfl) (by kernel_rfl) (by kernel_rfl) (fun c a w h => nomP h) (by trivial) (fun o hop => ?_) ?_
      rotate_left
      · injection hop with hop
        subst hop
        refine ⟨rfl, fun W' hW => ?_⟩
        go_simp
        first
        | rfl
        | (constructor <;> rfl)
      try simp only [Act.put, List.setIfInBounds_toArray, List.set_cons_zero, List.set_cons_succ]
      refine wpAnyD_takeAt 6 (some 20) (v := ?_) rfl (by kernel_rfl) (by kernel_rfl) (by kernel_rfl) (by kernel_rfl) (by kernel_rfl) (fun c a w h => nomP h) (by trivial) (fun o hop => ?_) ?_
      rotate_left
      · injection hop with hop
        subst hop
        refine ⟨rfl, fun W' hW => ?_⟩
        go_simp
        first
        | rfl
        | (constructor <;> rfl)
      try simp only [Act.put, List.setIfInBounds_toArray, List.set_cons_zero, List.set_cons_succ]
      refine wpAnyD_takeAt 7 (some 21) (v := ?_) rfl (by kernel_rfl) (by kernel_rfl) (by kernel_rfl) (by kernel_rfl) (by kernel_rfl) (fun c a w h => nomP h) (by trivial) (fun o hop => ?_) ?_
      rotate_left
      · injection hop with hop
        subst hop
        refine ⟨rfl, fun W' hW => ?_⟩
        go_simp
        first
        | rfl
        | (constructor <;> rfl)
      try simp only [Act.put, List.setIfInBounds_toArray, List.set_cons_zero, List.set_cons_succ]
      have HEz := hide' H9.out.2.2.1.1
      obtain ⟨b0, b1, b2, b3, b4, b5, b6⟩ := cellsP7 HEz.out
      obtain ⟨e0, e1, e2, e3, e4, e5, e6⟩ := frozenP7 HEz.out
      have HP := hide' (put7 (S0 := StM.nought) HEz.out ⟨-1, -1, 0, false, 0, 20 + pickedI p 5⟩ (.slice pa 4 pc))
      have HFN : Hid ((((((((z9.setCell ⟨A, 0, none⟩ (.slice pa 4 pc)).setCell ⟨A, 1, none⟩ (.int .i64 (-1))).setCell ⟨A, 2, none⟩ (.int .i64 (-1))).setCell ⟨A, 3, none⟩ (.int .i64 0)).setCell ⟨A, 4, none⟩ (.bool false)).setCell ⟨A, 5, none⟩ (.int .i64 0)).setCell ⟨A, 6, none⟩ (.int .i64 (20 + pickedI p 5))).heap[A]? = some (.cells #[.slice pa 4 pc, .int .i64 (-1), .int .i64 (-1), .int .i64 0, .bool false, .int .i64 0, .int .i64 (20 + pickedI p 5)] 24 (0, 0)) ∧ (((((((z9.setCell ⟨A, 0, none⟩ (.slice pa 4 pc)).setCell ⟨A, 1, none⟩ (.int .i64 (-1))).setCell ⟨A, 2, none⟩ (.int .i64 (-1))).setCell ⟨A, 3, none⟩ (.int .i64 0)).setCell ⟨A, 4, none⟩ (.bool false)).setCell ⟨A, 5, none⟩ (.int .i64 0)).setCell ⟨A, 6, none⟩ (.int .i64 (20 + pickedI p 5))).ownsRow 0 4 1 (.slice pa 4 pc) 4 [.bool false, .bool false, .bool false, .bool false] ∧ Below w.heap.size w (((((((z9.setCell ⟨A, 0, none⟩ (.slice pa 4 pc)).setCell ⟨A, 1, none⟩ (.int .i64 (-1))).setCell ⟨A, 2, none⟩ (.int .i64 (-1))).setCell ⟨A, 3, none⟩ (.int .i64 0)).setCell ⟨A, 4, none⟩ (.bool false)).setCell ⟨A, 5, none⟩ (.int .i64 0)).setCell ⟨A, 6, none⟩ (.int .i64 (20 + pickedI p 5))) ∧ w.heap.size ≤ A) := ⟨HP.out.1, own_keep H9.out.2.2.2 (but_keep HP.out.2 HEz.out) (by decide), H9.out.1.trans (HP.out.2.below H9.out.2.2.1.2 H9.out.1.size), H9.out.2.2.1.2⟩
      refine wpAnyT_one (i := 9) (by kernel_rfl) rfl rfl (fun K' hK => ?_)
      go_simp
      refine hK.out _ _ (fun _ => trivial) ?_
      clear hK K'
      try simp only [Act.put, List.setIfInBounds_toArray, List.set_cons_zero, List.set_cons_succ]
      refine wpAnyT_one (i := 10) (by kernel_rfl) rfl rfl (fun K' hK => ?_)
      go_simp
      refine hK.out _ _ (fun h => absurd rfl h) ?_
      clear hK K'
      try simp only [Act.put, List.setIfInBounds_toArray, List.set_cons_zero, List.set_cons_succ]
      refine wpAnyT_done (by kernel_rfl) ?_ _
      exact ⟨rfl, A, pa, pc, _, _, _, _, _, _, _, _, rfl, HFN.out⟩
  · go_simp
    go_at_call 20
    refine (picked_any p 5 hp (by decide) (by decide) _).mono ?_
    rintro e zz ⟨rfl, hzz⟩
    rw [hzz]
    clear hzz zz
    rw [show pickedI p ((5 : Nat) : Int) = pickedI p 5 from rfl]
    refine hK.out _ _ (fun _ => trivial) ?_
    clear hK K'
    try simp only [Act.put, List.setIfInBounds_toArray, List.set_cons_zero, List.set_cons_succ]
    refine wpAnyD_takeAt 3 (some 18) (v := .int .i64 (20 + pickedI p 5)) rfl (by kernel_rfl) (by kernel_rfl) (by kernel_rfl) (by kernel_rfl) (by kernel_rfl) (fun c a w h => nomP h) (by trivial) (fun o hop => ?_) ?_
    · injection hop with hop
      subst hop
      refine ⟨rfl, fun W' hW => ?_⟩
      go_simp
      first
      | rfl
      | (constructor <;> rfl)
      | rw [HWR.out]
    try simp only [Act.put, List.setIfInBounds_toArray, List.set_cons_zero, List.set_cons_succ]
    refine wpAnyT_two (i := 0) (j := 8) (by kernel_rfl) rfl rfl rfl rfl (fun K' hK => ?_) (fun K' hK => ?_)
    · refine step_make_full rfl _ _ 22 rfl w.heap.size 4 i4 (.bool false) 1 Try.underlying22 hi4 h40 h41 .i64 .i64 _ _ 4 rfl rfl rfl rfl (by rw [h42]; decide) (by decide) H0.out.size ?_
      intro z11 hown hgr
      obtain ⟨G, hG⟩ : ∃ x, x = z.heap.size := ⟨_, rfl⟩
      have hb2 : Below z.heap.size z z11 := (Below.refl _ z).grown hgr (Nat.le_refl _) (fun k e => by cases e)
      rw [← hG, hmk] at hown
      have H11 : Hid ((Below w.heap.size w z11) ∧ (z11.ownsRow w.heap.size 4 1 (.slice (some ⟨G, 0, none⟩) 4 4) 4 [.bool false, .bool false, .bool false, .bool false])) := ⟨H0.out.trans (hb2.mono H0.out.size), hown⟩
      rw [← hG]
      refine hK.out _ _ (fun _ => trivial) ?_
      clear hK K' hown hgr hb2 hG H0
      try simp only [Act.put, List.setIfInBounds_toArray]
      refine wpAnyT_two (i := 4) (j := 8) (by kernel_rfl) rfl rfl rfl rfl (fun K' hK => ?_) (fun K' hK => ?_)
      · go_simp
        go_at_call 19
        refine (HBG.out z11 G (rowAt_of_own H11.out.2)).mono ?_
        rintro e z12 ⟨pa, pc, rfl, hown, hb2⟩
        have H12 : Hid ((Below w.heap.size w z12) ∧ (z12.ownsRow w.heap.size 4 1 (.slice (some ⟨G, 0, none⟩) 4 4) 4 [.bool false, .bool false, .bool false, .bool false]) ∧ (z12.ownsRow 0 4 1 (.slice pa 4 pc) 4 [.bool false, .bool false, .bool false, .bool false])) := ⟨H11.out.1.trans (hb2.mono H11.out.1.size), own_below H11.out.2 hb2 (Nat.le_refl _), hown⟩
        refine hK.out _ _ (fun _ => trivial) ?_
        clear hK K' hown hb2 H11
        try simp only [Act.put, List.setIfInBounds_toArray, List.set_cons_zero, List.set_cons_succ]
        refine wpAnyD_takeAt 5 (some 14) (v := ?_) rfl (by kernel_rfl) (by kernel_rfl) (by kernel_rfl) (by kernel_rfl) (by kernel_rfl) (fun c a w h => nomP h) (by trivial) (fun o hop => ?_) ?_
        rotate_left
        · injection hop with hop
          subst hop
          refine ⟨rfl, fun W' hW => ?_⟩
          go_simp
          first
          | rfl
          | (constructor <;> rfl)
        try simp only [Act.put, List.setIfInBounds_toArray, List.set_cons_zero, List.set_cons_succ]
        refine wpAnyD_takeAt 6 (some 20) (v := ?_) rfl (by kernel_rfl) (by kernel_rfl) (by kernel_rfl) (by kernel_rfl) (by kernel_rfl) (fun c a w h => nomP h) (by trivial) (fun o hop => ?_) ?_
        rotate_left
        · injection hop with hop
          subst hop
          refine ⟨rfl, fun W' hW => ?_⟩
          go_simp
          first
          | rfl
          | (constructor <;> rfl)
        try simp only [Act.put, List.setIfInBounds_toArray, List.set_cons_zero, List.set_cons_succ]
        refine wpAnyD_takeAt 7 (some 21) (v := ?_) rfl (by kernel_rfl) (by kernel_rfl) (by kernel_rfl) (by kernel_rfl) (by kernel_rfl) (fun c a w h => nomP h) (by trivial) (fun o hop => ?_) ?_
        rotate_left
        · injection hop with hop
          subst hop
          refine ⟨rfl, fun W' hW => ?_⟩
          go_simp
          first
          | rfl
          | (constructor <;> rfl)
        try simp only [Act.put, List.setIfInBounds_toArray, List.set_cons_zero, List.set_cons_succ]
        refine wpAnyT_one (i := 8) (by kernel_rfl) rfl rfl (fun K' hK => ?_)
        go_simp
        obtain ⟨A, hA⟩ : ∃ x, x = z12.heap.size := ⟨_, rfl⟩
        have hb2 := below_al z12 (.cells #[.slice none 0 0, .int .i64 0, .int .i64 0, .int .i64 0, .bool false, .int .i64 0, .int .i64 0] 24)
        have hown := alloc_new z12 (.cells #[.slice none 0 0, .int .i64 0, .int .i64 0, .int .i64 0, .bool false, .int .i64 0, .int .i64 0] 24)
        rw [← hA] at hown
        obtain ⟨z13, hz2⟩ : ∃ x, x = z12.alloc (.cells #[.slice none 0 0, .int .i64 0, .int .i64 0, .int .i64 0, .bool false, .int .i64 0, .int .i64 0] 24) := ⟨_, rfl⟩
        rw [← hz2] at hown hb2 ⊢
        have H13 : Hid ((Below w.heap.size w z13) ∧ (z13.ownsRow w.heap.size 4 1 (.slice (some ⟨G, 0, none⟩) 4 4) 4 [.bool false, .bool false, .bool false, .bool false]) ∧ (z13.heap[A]? = some (.cells #[.slice none 0 0, .int .i64 0, .int .i64 0, .int .i64 0, .bool false, .int .i64 0, .int .i64 0] 24 (0, 0)) ∧ w.heap.size ≤ A) ∧ (z13.ownsRow 0 4 1 (.slice pa 4 pc) 4 [.bool false, .bool false, .bool false, .bool false])) := ⟨H12.out.1.trans (hb2.mono H12.out.1.size), own_below H12.out.2.1 hb2 (Nat.le_refl _), ⟨hown, by rw [hA]; exact H12.out.1.size⟩, own_below H12.out.2.2 hb2 (Nat.le_refl _)⟩
        rw [← hA]
        refine hK.out _ _ (fun _ => trivial) ?_
        clear hK K' hown hb2 hz2 hA H12
        try simp only [Act.put, List.setIfInBounds_toArray, List.set_cons_zero, List.set_cons_succ]
        have HEz := hide' H13.out.2.2.1.1
        obtain ⟨b0, b1, b2, b3, b4, b5, b6⟩ := cellsP7 HEz.out
        obtain ⟨e0, e1, e2, e3, e4, e5, e6⟩ := frozenP7 HEz.out
        have HP := hide' (put7 (S0 := StM.nought) HEz.out ⟨-1, -1, 0, false, 0, 20 + pickedI p 5⟩ (.slice pa 4 pc))
        have HFN : Hid ((((((((z13.setCell ⟨A, 0, none⟩ (.slice pa 4 pc)).setCell ⟨A, 1, none⟩ (.int .i64 (-1))).setCell ⟨A, 2, none⟩ (.int .i64 (-1))).setCell ⟨A, 3, none⟩ (.int .i64 0)).setCell ⟨A, 4, none⟩ (.bool false)).setCell ⟨A, 5, none⟩ (.int .i64 0)).setCell ⟨A, 6, none⟩ (.int .i64 (20 + pickedI p 5))).heap[A]? = some (.cells #[.slice pa 4 pc, .int .i64 (-1), .int .i64 (-1), .int .i64 0, .bool false, .int .i64 0, .int .i64 (20 + pickedI p 5)] 24 (0, 0)) ∧ (((((((z13.setCell ⟨A, 0, none⟩ (.slice pa 4 pc)).setCell ⟨A, 1, none⟩ (.int .i64 (-1))).setCell ⟨A, 2, none⟩ (.int .i64 (-1))).setCell ⟨A, 3, none⟩ (.int .i64 0)).setCell ⟨A, 4, none⟩ (.bool false)).setCell ⟨A, 5, none⟩ (.int .i64 0)).setCell ⟨A, 6, none⟩ (.int .i64 (20 + pickedI p 5))).ownsRow 0 4 1 (.slice pa 4 pc) 4 [.bool false, .bool false, .bool false, .bool false] ∧ Below w.heap.size w (((((((z13.setCell ⟨A, 0, none⟩ (.slice pa 4 pc)).setCell ⟨A, 1, none⟩ (.int .i64 (-1))).setCell ⟨A, 2, none⟩ (.int .i64 (-1))).setCell ⟨A, 3, none⟩ (.int .i64 0)).setCell ⟨A, 4, none⟩ (.bool false)).setCell ⟨A, 5, none⟩ (.int .i64 0)).setCell ⟨A, 6, none⟩ (.int .i64 (20 + pickedI p 5))) ∧ w.heap.size ≤ A) := ⟨HP.out.1, own_keep H13.out.2.2.2 (but_keep HP.out.2 HEz.out) (by decide), H13.out.1.trans (HP.out.2.below H13.out.2.2.1.2 H13.out.1.size), H13.out.2.2.1.2⟩
        refine wpAnyT_one (i := 9) (by kernel_rfl) rfl rfl (fun K' hK => ?_)
        go_simp
        refine hK.out _ _ (fun _ => trivial) ?_
        clear hK K'
        try simp only [Act.put, List.setIfInBounds_toArray, List.set_cons_zero, List.set_cons_succ]
        refine wpAnyT_one (i := 10) (by kernel_rfl) rfl rfl (fun K' hK => ?_)
        go_simp
        refine hK.out _ _ (fun h => absurd rfl h) ?_
        clear hK K'
        try simp only [Act.put, List.setIfInBounds_toArray, List.set_cons_zero, List.set_cons_succ]
        refine wpAnyT_done (by kernel_rfl) ?_ _
        exact ⟨rfl, A, pa, pc, _, _, _, _, _, _, _, _, rfl, HFN.out⟩
      · go_simp
        obtain ⟨A, hA⟩ : ∃ x, x = z11.heap.size := ⟨_, rfl⟩
        have hb2 := below_al z11 (.cells #[.slice none 0 0, .int .i64 0, .int .i64 0, .int .i64 0, .bool false, .int .i64 0, .int .i64 0] 24)
        have hown := alloc_new z11 (.cells #[.slice none 0 0, .int .i64 0, .int .i64 0, .int .i64 0, .bool false, .int .i64 0, .int .i64 0] 24)
        rw [← hA] at hown
        obtain ⟨z14, hz2⟩ : ∃ x, x = z11.alloc (.cells #[.slice none 0 0, .int .i64 0, .int .i64 0, .int .i64 0, .bool false, .int .i64 0, .int .i64 0] 24) := ⟨_, rfl⟩
        rw [← hz2] at hown hb2 ⊢
        have H14 : Hid ((Below w.heap.size w z14) ∧ (z14.ownsRow w.heap.size 4 1 (.slice (some ⟨G, 0, none⟩) 4 4) 4 [.bool false, .bool false, .bool false, .bool false]) ∧ (z14.heap[A]? = some (.cells #[.slice none 0 0, .int .i64 0, .int .i64 0, .int .i64 0, .bool false, .int .i64 0, .int .i64 0] 24 (0, 0)) ∧ w.heap.size ≤ A)) := ⟨H11.out.1.trans (hb2.mono H11.out.1.size), own_below H11.out.2 hb2 (Nat.le_refl _), ⟨hown, by rw [hA]; exact H11.out.1.size⟩⟩
        rw [← hA]
        refine hK.out _ _ (fun _ => trivial) ?_
        clear hK K' hown hb2 hz2 hA H11
        try simp only [Act.put, List.setIfInBounds_toArray, List.set_cons_zero, List.set_cons_succ]
        refine wpAnyT_one (i := 4) (by kernel_rfl) rfl rfl (fun K' hK => ?_)
        go_simp
        go_at_call 19
        refine (HBG.out z14 G (rowAt_of_own H14.out.2.1)).mono ?_
        rintro e z15 ⟨pa, pc, rfl, hown, hb2⟩
        have H15 : Hid ((Below w.heap.size w z15) ∧ (z15.ownsRow w.heap.size 4 1 (.slice (some ⟨G, 0, none⟩) 4 4) 4 [.bool false, .bool false, .bool false, .bool false]) ∧ (z15.heap[A]? = some (.cells #[.slice none 0 0, .int .i64 0, .int .i64 0, .int .i64 0, .bool false, .int .i64 0, .int .i64 0] 24 (0, 0)) ∧ w.heap.size ≤ A) ∧ (z15.ownsRow 0 4 1 (.slice pa 4 pc) 4 [.bool false, .bool false, .bool false, .bool false])) := ⟨H14.out.1.trans (hb2.mono H14.out.1.size), own_below H14.out.2.1 hb2 (Nat.le_refl _), ⟨(hb2.block A (lt_heap H14.out.2.2.1)).trans H14.out.2.2.1, H14.out.2.2.2⟩, hown⟩
        refine hK.out _ _ (fun _ => trivial) ?_
        clear hK K' hown hb2 H14
        try simp only [Act.put, List.setIfInBounds_toArray, List.set_cons_zero, List.set_cons_succ]
        refine wpAnyD_takeAt 5 (some 14) (v := ?_) rfl (by kernel_rfl) (by kernel_rfl) (by kernel_rfl) (by kernel_rfl) (by kernel_rfl) (fun c a w h => nomP h) (by trivial) (fun o hop => ?_) ?_
        rotate_left
        · injection hop with hop
          subst hop
          refine ⟨rfl, fun W' hW => ?_⟩
          go_simp
          first
          | rfl
          | (constructor <;> rfl)
        try simp only [Act.put, List.setIfInBounds_toArray, List.set_cons_zero, List.set_cons_succ]
        refine wpAnyD_takeAt 6 (some 20) (v := ?_) rfl (by kernel_rfl) (by kernel_rfl) (by kernel_rfl) (by kernel_rfl) (by kernel_rfl) (fun c a w h => nomP h) (by trivial) (fun o hop => ?_) ?_
        rotate_left
        · injection hop with hop
          subst hop
          refine ⟨rfl, fun W' hW => ?_⟩
          go_simp
          first
          | rfl
          | (constructor <;> rfl)
        try simp only [Act.put, List.setIfInBounds_toArray, List.set_cons_zero, List.set_cons_succ]
        refine wpAnyD_takeAt 7 (some 21) (v := ?_) rfl (by kernel_rfl) (by kernel_rfl) (by kernel_rfl) (by kernel_rfl) (by kernel_rfl) (fun c a w h => nomP h) (by trivial) (fun o hop => ?_) ?_
        rotate_left
        · injection hop with hop
          subst hop
          refine ⟨rfl, fun W' hW => ?_⟩
          go_simp
          first
          | rfl
          | (constructor <;> rfl)
        try simp only [Act.put, List.setIfInBounds_toArray, List.set_cons_zero, List.set_cons_succ]
        have HEz := hide' H15.out.2.2.1.1
        obtain ⟨b0, b1, b2, b3, b4, b5, b6⟩ := cellsP7 HEz.out
        obtain ⟨e0, e1, e2, e3, e4, e5, e6⟩ := frozenP7 HEz.out
        have HP := hide' (put7 (S0 := StM.nought) HEz.out ⟨-1, -1, 0, false, 0, 20 + pickedI p 5⟩ (.slice pa 4 pc))
        have HFN : Hid ((((((((z15.setCell ⟨A, 0, none⟩ (.slice pa 4 pc)).setCell ⟨A, 1, none⟩ (.int .i64 (-1))).setCell ⟨A, 2, none⟩ (.int .i64 (-1))).setCell ⟨A, 3, none⟩ (.int .i64 0)).setCell ⟨A, 4, none⟩ (.bool false)).setCell ⟨A, 5, none⟩ (.int .i64 0)).setCell ⟨A, 6, none⟩ (.int .i64 (20 + pickedI p 5))).heap[A]? = some (.cells #[.slice pa 4 pc, .int .i64 (-1), .int .i64 (-1), .int .i64 0, .bool false, .int .i64 0, .int .i64 (20 + pickedI p 5)] 24 (0, 0)) ∧ (((((((z15.setCell ⟨A, 0, none⟩ (.slice pa 4 pc)).setCell ⟨A, 1, none⟩ (.int .i64 (-1))).setCell ⟨A, 2, none⟩ (.int .i64 (-1))).setCell ⟨A, 3, none⟩ (.int .i64 0)).setCell ⟨A, 4, none⟩ (.bool false)).setCell ⟨A, 5, none⟩ (.int .i64 0)).setCell ⟨A, 6, none⟩ (.int .i64 (20 + pickedI p 5))).ownsRow 0 4 1 (.slice pa 4 pc) 4 [.bool false, .bool false, .bool false, .bool false] ∧ Below w.heap.size w (((((((z15.setCell ⟨A, 0, none⟩ (.slice pa 4 pc)).setCell ⟨A, 1, none⟩ (.int .i64 (-1))).setCell ⟨A, 2, none⟩ (.int .i64 (-1))).setCell ⟨A, 3, none⟩ (.int .i64 0)).setCell ⟨A, 4, none⟩ (.bool false)).setCell ⟨A, 5, none⟩ (.int .i64 0)).setCell ⟨A, 6, none⟩ (.int .i64 (20 + pickedI p 5))) ∧ w.heap.size ≤ A) := ⟨HP.out.1, own_keep H15.out.2.2.2 (but_keep HP.out.2 HEz.out) (by decide), H15.out.1.trans (HP.out.2.below H15.out.2.2.1.2 H15.out.1.size), H15.out.2.2.1.2⟩
        refine wpAnyT_one (i := 9) (by kernel_rfl) rfl rfl (fun K' hK => ?_)
        go_simp
        refine hK.out _ _ (fun _ => trivial) ?_
        clear hK K'
        try simp only [Act.put, List.setIfInBounds_toArray, List.set_cons_zero, List.set_cons_succ]
        refine wpAnyT_one (i := 10) (by kernel_rfl) rfl rfl (fun K' hK => ?_)
        go_simp
        refine hK.out _ _ (fun h => absurd rfl h) ?_
        clear hK K'
        try simp only [Act.put, List.setIfInBounds_toArray, List.set_cons_zero, List.set_cons_succ]
        refine wpAnyT_done (by kernel_rfl) ?_ _
        exact ⟨rfl, A, pa, pc, _, _, _, _, _, _, _, _, rfl, HFN.out⟩
    · go_simp
      obtain ⟨A, hA⟩ : ∃ x, x = z.heap.size := ⟨_, rfl⟩
      have hb2 := below_al z (.cells #[.slice none 0 0, .int .i64 0, .int .i64 0, .int .i64 0, .bool false, .int .i64 0, .int .i64 0] 24)
      have hown := alloc_new z (.cells #[.slice none 0 0, .int .i64 0, .int .i64 0, .int .i64 0, .bool false, .int .i64 0, .int .i64 0] 24)
      rw [← hA] at hown
      obtain ⟨z16, hz2⟩ : ∃ x, x = z.alloc (.cells #[.slice none 0 0, .int .i64 0, .int .i64 0, .int .i64 0, .bool false, .int .i64 0, .int .i64 0] 24) := ⟨_, rfl⟩
      rw [← hz2] at hown hb2 ⊢
      have H16 : Hid ((Below w.heap.size w z16) ∧ (z16.heap[A]? = some (.cells #[.slice none 0 0, .int .i64 0, .int .i64 0, .int .i64 0, .bool false, .int .i64 0, .int .i64 0] 24 (0, 0)) ∧ w.heap.size ≤ A)) := ⟨H0.out.trans (hb2.mono H0.out.size), ⟨hown, by rw [hA]; exact H0.out.size⟩⟩
      rw [← hA]
      refine hK.out _ _ (fun _ => trivial) ?_
      clear hK K' hown hb2 hz2 hA H0
      try simp only [Act.put, List.setIfInBounds_toArray, List.set_cons_zero, List.set_cons_succ]
      refine wpAnyT_one (i := 0) (by kernel_rfl) rfl rfl (fun K' hK => ?_)
      refine step_make_full rfl _ _ 22 rfl w.heap.size 4 i4 (.bool false) 1 Try.underlying22 hi4 h40 h41 .i64 .i64 _ _ 4 rfl rfl rfl rfl (by rw [h42]; decide) (by decide) H16.out.1.size ?_
      intro z17 hown hgr
      obtain ⟨G, hG⟩ : ∃ x, x = z16.heap.size := ⟨_, rfl⟩
      have hb2 : Below z16.heap.size z16 z17 := (Below.refl _ z16).grown hgr (Nat.le_refl _) (fun k e => by cases e)
      rw [← hG, hmk] at hown
      have H17 : Hid ((Below w.heap.size w z17) ∧ (z17.ownsRow w.heap.size 4 1 (.slice (some ⟨G, 0, none⟩) 4 4) 4 [.bool false, .bool false, .bool false, .bool false]) ∧ (z17.heap[A]? = some (.cells #[.slice none 0 0, .int .i64 0, .int .i64 0, .int .i64 0, .bool false, .int .i64 0, .int .i64 0] 24 (0, 0)) ∧ w.heap.size ≤ A)) := ⟨H16.out.1.trans (hb2.mono H16.out.1.size), hown, ⟨(hb2.block A (lt_heap H16.out.2.1)).trans H16.out.2.1, H16.out.2.2⟩⟩
      rw [← hG]
      refine hK.out _ _ (fun _ => trivial) ?_
      clear hK K' hown hgr hb2 hG H16
      try simp only [Act.put, List.setIfInBounds_toArray]
      refine wpAnyT_one (i := 4) (by kernel_rfl) rfl rfl (fun K' hK => ?_)
      go_simp
      go_at_call 19
      refine (HBG.out z17 G (rowAt_of_own H17.out.2.1)).mono ?_
      rintro e z18 ⟨pa, pc, rfl, hown, hb2⟩
      have H18 : Hid ((Below w.heap.size w z18) ∧ (z18.ownsRow w.heap.size 4 1 (.slice (some ⟨G, 0, none⟩) 4 4) 4 [.bool false, .bool false, .bool false, .bool false]) ∧ (z18.heap[A]? = some (.cells #[.slice none 0 0, .int .i64 0, .int .i64 0, .int .i64 0, .bool false, .int .i64 0, .int .i64 0] 24 (0, 0)) ∧ w.heap.size ≤ A) ∧ (z18.ownsRow 0 4 1 (.slice pa 4 pc) 4 [.bool false, .bool false, .bool false, .bool false])) := ⟨H17.out.1.trans (hb2.mono H17.out.1.size), own_below H17.out.2.1 hb2 (Nat.le_refl _), ⟨(hb2.block A (lt_heap H17.out.2.2.1)).trans H17.out.2.2.1, H17.out.2.2.2⟩, hown⟩
      refine hK.out _ _ (fun _ => trivial) ?_
      clear hK K' hown hb2 H17
      try simp only [Act.put, List.setIfInBounds_toArray, List.set_cons_zero, List.set_cons_succ]
      refine wpAnyD_takeAt 5 (some 14) (v := ?_) rfl (by kernel_rfl) (by kernel_rfl) (by kernel_rfl) (by kernel_rfl) (by kernel_rfl) (fun c a w h => nomP h) (by trivial) (fun o hop => ?_) ?_
      rotate_left
      · injection hop with hop
        subst hop
        refine ⟨rfl, fun W' hW => ?_⟩
        go_simp
        first
        | rfl
        | (constructor <;> rfl)
      try simp only [Act.put, List.setIfInBounds_toArray, List.set_cons_zero, List.set_cons_succ]
      refine wpAnyD_takeAt 6 (some 20) (v := ?_) rfl (by kernel_rfl) (by kernel_rfl) (by kernel_rfl) (by kernel_rfl) (by kernel_rfl) (fun c a w h => nomP h) (by trivial) (fun o hop => ?_) ?_
      rotate_left
      · injection hop with hop
        subst hop
        refine ⟨rfl, fun W' hW => ?_⟩
        go_simp
        first
        | rfl
        | (constructor <;> rfl)
      try simp only [Act.put, List.setIfInBounds_toArray, List.set_cons_zero, List.set_cons_succ]
      refine wpAnyD_takeAt 7 (some 21) (v := ?_) rfl (by kernel_rfl) (by kernel_rfl) (by kernel_rfl) (by kernel_rfl) (by kernel_rfl) (fun c a w h => nomP h) (by trivial) (fun o hop => ?_) ?_
      rotate_left
      · injection hop with hop
        subst hop
        refine ⟨rfl, fun W' hW => ?_⟩
        go_simp
        first
        | rfl
        | (constructor <;> rfl)
      try simp only [Act.put, List.setIfInBounds_toArray, List.set_cons_zero, List.set_cons_succ]
      have HEz := hide' H18.out.2.2.1.1
      obtain ⟨b0, b1, b2, b3, b4, b5, b6⟩ := cellsP7 HEz.out
      obtain ⟨e0, e1, e2, e3, e4, e5, e6⟩ := frozenP7 HEz.out
      have HP := hide' (put7 (S0 := StM.nought) HEz.out ⟨-1, -1, 0, false, 0, 20 + pickedI p 5⟩ (.slice pa 4 pc))
      have HFN : Hid ((((((((z18.setCell ⟨A, 0, none⟩ (.slice pa 4 pc)).setCell ⟨A, 1, none⟩ (.int .i64 (-1))).setCell ⟨A, 2, none⟩ (.int .i64 (-1))).setCell ⟨A, 3, none⟩ (.int .i64 0)).setCell ⟨A, 4, none⟩ (.bool false)).setCell ⟨A, 5, none⟩ (.int .i64 0)).setCell ⟨A, 6, none⟩ (.int .i64 (20 + pickedI p 5))).heap[A]? = some (.cells #[.slice pa 4 pc, .int .i64 (-1), .int .i64 (-1), .int .i64 0, .bool false, .int .i64 0, .int .i64 (20 + pickedI p 5)] 24 (0, 0)) ∧ (((((((z18.setCell ⟨A, 0, none⟩ (.slice pa 4 pc)).setCell ⟨A, 1, none⟩ (.int .i64 (-1))).setCell ⟨A, 2, none⟩ (.int .i64 (-1))).setCell ⟨A, 3, none⟩ (.int .i64 0)).setCell ⟨A, 4, none⟩ (.bool false)).setCell ⟨A, 5, none⟩ (.int .i64 0)).setCell ⟨A, 6, none⟩ (.int .i64 (20 + pickedI p 5))).ownsRow 0 4 1 (.slice pa 4 pc) 4 [.bool false, .bool false, .bool false, .bool false] ∧ Below w.heap.size w (((((((z18.setCell ⟨A, 0, none⟩ (.slice pa 4 pc)).setCell ⟨A, 1, none⟩ (.int .i64 (-1))).setCell ⟨A, 2, none⟩ (.int .i64 (-1))).setCell ⟨A, 3, none⟩ (.int .i64 0)).setCell ⟨A, 4, none⟩ (.bool false)).setCell ⟨A, 5, none⟩ (.int .i64 0)).setCell ⟨A, 6, none⟩ (.int .i64 (20 + pickedI p 5))) ∧ w.heap.size ≤ A) := ⟨HP.out.1, own_keep H18.out.2.2.2 (but_keep HP.out.2 HEz.out) (by decide), H18.out.1.trans (HP.out.2.below H18.out.2.2.1.2 H18.out.1.size), H18.out.2.2.1.2⟩
      refine wpAnyT_one (i := 9) (by kernel_rfl) rfl rfl (fun K' hK => ?_)
      go_simp
      refine hK.out _ _ (fun _ => trivial) ?_
      clear hK K'
      try simp only [Act.put, List.setIfInBounds_toArray, List.set_cons_zero, List.set_cons_succ]
      refine wpAnyT_one (i := 10) (by kernel_rfl) rfl rfl (fun K' hK => ?_)
      go_simp
      refine hK.out _ _ (fun h => absurd rfl h) ?_
      clear hK K'
      try simp only [Act.put, List.setIfInBounds_toArray, List.set_cons_zero, List.set_cons_succ]
      refine wpAnyT_done (by kernel_rfl) ?_ _
      exact ⟨rfl, A, pa, pc, _, _, _, _, _, _, _, _, rfl, HFN.out⟩
  · go_simp
    obtain ⟨A, hA⟩ : ∃ x, x = z.heap.size := ⟨_, rfl⟩
    have hb2 := below_al z (.cells #[.slice none 0 0, .int .i64 0, .int .i64 0, .int .i64 0, .bool false, .int .i64 0, .int .i64 0] 24)
    have hown := alloc_new z (.cells #[.slice none 0 0, .int .i64 0, .int .i64 0, .int .i64 0, .bool false, .int .i64 0, .int .i64 0] 24)
    rw [← hA] at hown
    obtain ⟨z19, hz2⟩ : ∃ x, x = z.alloc (.cells #[.slice none 0 0, .int .i64 0, .int .i64 0, .int .i64 0, .bool false, .int .i64 0, .int .i64 0] 24) := ⟨_, rfl⟩
    rw [← hz2] at hown hb2 ⊢
    have H19 : Hid ((Below w.heap.size w z19) ∧ (z19.heap[A]? = some (.cells #[.slice none 0 0, .int .i64 0, .int .i64 0, .int .i64 0, .bool false, .int .i64 0, .int .i64 0] 24 (0, 0)) ∧ w.heap.size ≤ A)) := ⟨H0.out.trans (hb2.mono H0.out.size), ⟨hown, by rw [hA]; exact H0.out.size⟩⟩
    rw [← hA]
    refine hK.out _ _ (fun _ => trivial) ?_
    clear hK K' hown hb2 hz2 hA H0
    try simp only [Act.put, List.setIfInBounds_toArray, List.set_cons_zero, List.set_cons_succ]
    refine wpAnyT_two (i := 0) (j := 2) (by kernel_rfl) rfl rfl rfl rfl (fun K' hK => ?_) (fun K' hK => ?_)
    · refine step_make_full rfl _ _ 22 rfl w.heap.size 4 i4 (.bool false) 1 Try.underlying22 hi4 h40 h41 .i64 .i64 _ _ 4 rfl rfl rfl rfl (by rw [h42]; decide) (by decide) H19.out.1.size ?_
      intro z20 hown hgr
      obtain ⟨G, hG⟩ : ∃ x, x = z19.heap.size := ⟨_, rfl⟩
      have hb2 : Below z19.heap.size z19 z20 := (Below.refl _ z19).grown hgr (Nat.le_refl _) (fun k e => by cases e)
      rw [← hG, hmk] at hown
      have H20 : Hid ((Below w.heap.size w z20) ∧ (z20.ownsRow w.heap.size 4 1 (.slice (some ⟨G, 0, none⟩) 4 4) 4 [.bool false, .bool false, .bool false, .bool false]) ∧ (z20.heap[A]? = some (.cells #[.slice none 0 0, .int .i64 0, .int .i64 0, .int .i64 0, .bool false, .int .i64 0, .int .i64 0] 24 (0, 0)) ∧ w.heap.size ≤ A)) := ⟨H19.out.1.trans (hb2.mono H19.out.1.size), hown, ⟨(hb2.block A (lt_heap H19.out.2.1)).trans H19.out.2.1, H19.out.2.2⟩⟩
      rw [← hG]
      refine hK.out _ _ (fun _ => trivial) ?_
      clear hK K' hown hgr hb2 hG H19
      try simp only [Act.put, List.setIfInBounds_toArray]
      refine wpAnyT_one (i := 2) (by kernel_rfl) rfl rfl (fun K' hK => ?_)
      go_simp
      go_at_call 20
      refine (picked_any p 5 hp (by decide) (by decide) _).mono ?_
      rintro e zz ⟨rfl, hzz⟩
      rw [hzz]
      clear hzz zz
      rw [show pickedI p ((5 : Nat) : Int) = pickedI p 5 from rfl]
      refine hK.out _ _ (fun _ => trivial) ?_
      clear hK K'
      try simp only [Act.put, List.setIfInBounds_toArray, List.set_cons_zero, List.set_cons_succ]
      refine wpAnyD_takeAt 3 (some 18) (v := .int .i64 (20 + pickedI p 5)) rfl (by kernel_rfl) (by kernel_rfl) (by kernel_rfl) (by kernel_rfl) (by kernel_rfl) (fun c a w h => nomP h) (by trivial) (fun o hop => ?_) ?_
      · injection hop with hop
        subst hop
        refine ⟨rfl, fun W' hW => ?_⟩
        go_simp
        first
        | rfl
        | (constructor <;> rfl)
        | rw [HWR.out]
      try simp only [Act.put, List.setIfInBounds_toArray, List.set_cons_zero, List.set_cons_succ]
      refine wpAnyT_one (i := 4) (by kernel_rfl) rfl rfl (fun K' hK => ?_)
      go_simp
      go_at_call 19
      refine (HBG.out z20 G (rowAt_of_own H20.out.2.1)).mono ?_
      rintro e z22 ⟨pa, pc, rfl, hown, hb2⟩
      have H22 : Hid ((Below w.heap.size w z22) ∧ (z22.ownsRow w.heap.size 4 1 (.slice (some ⟨G, 0, none⟩) 4 4) 4 [.bool false, .bool false, .bool false, .bool false]) ∧ (z22.heap[A]? = some (.cells #[.slice none 0 0, .int .i64 0, .int .i64 0, .int .i64 0, .bool false, .int .i64 0, .int .i64 0] 24 (0, 0)) ∧ w.heap.size ≤ A) ∧ (z22.ownsRow 0 4 1 (.slice pa 4 pc) 4 [.bool false, .bool false, .bool false, .bool false])) := ⟨H20.out.1.trans (hb2.mono H20.out.1.size), own_below H20.out.2.1 hb2 (Nat.le_refl _), ⟨(hb2.block A (lt_heap H20.out.2.2.1)).trans H20.out.2.2.1, H20.out.2.2.2⟩, hown⟩
      refine hK.out _ _ (fun _ => trivial) ?_
      clear hK K' hown hb2 H20
      try simp only [Act.put, List.setIfInBounds_toArray, List.set_cons_zero, List.set_cons_succ]
      refine wpAnyD_takeAt 5 (some 14) (v := ?_) rfl (by kernel_rfl) (by kernel_rfl) (by kernel_rfl) (by kernel_rfl) (by kernel_rfl) (fun c a w h => nomP h) (by trivial) (fun o hop => ?_) ?_
      rotate_left
      · injection hop with hop
        subst hop
        refine ⟨rfl, fun W' hW => ?_⟩
        go_simp
        first
        | rfl
        | (constructor <;> rfl)
      try simp only [Act.put, List.setIfInBounds_toArray, List.set_cons_zero, List.set_cons_succ]
      refine wpAnyD_takeAt 6 (some 20) (v := ?_) rfl (by kernel_rfl) (by kernel_rfl) (by kernel_rfl) (by kernel_rfl) (by kernel_rfl) (fun c a w h => nomP h) (by trivial) (fun o hop => ?_) ?_
      rotate_left
      · injection hop with hop
        subst hop
        refine ⟨rfl, fun W' hW => ?_⟩
        go_simp
        first
        | rfl
        | (constructor <;> rfl)
      try simp only [Act.put, List.setIfInBounds_toArray, List.set_cons_zero, List.set_cons_succ]
      refine wpAnyD_takeAt 7 (some 21) (v := ?_) rfl (by kernel_rfl) (by kernel_rfl) (by kernel_rfl) (by kernel_rfl) (by kernel_rfl) (fun c a w h => nomP h) (by trivial) (fun o hop => ?_) ?_
      rotate_left
      · injection hop with hop
        subst hop
        refine ⟨rfl, fun W' hW => ?_⟩
        go_simp
        first
        | rfl
        | (constructor <;> rfl)
      try simp only [Act.put, List.setIfInBounds_toArray, List.set_cons_zero, List.set_cons_succ]
      have HEz := hide' H22.out.2.2.1.1
      obtain ⟨b0, b1, b2, b3, b4, b5, b6⟩ := cellsP7 HEz.out
      obtain ⟨e0, e1, e2, e3, e4, e5, e6⟩ := frozenP7 HEz.out
      have HP := hide' (put7 (S0 := StM.nought) HEz.out ⟨-1, -1, 0, false, 0, 20 + pickedI p 5⟩ (.slice pa 4 pc))
      have HFN : Hid ((((((((z22.setCell ⟨A, 0, none⟩ (.slice pa 4 pc)).setCell ⟨A, 1, none⟩ (.int .i64 (-1))).setCell ⟨A, 2, none⟩ (.int .i64 (-1))).setCell ⟨A, 3, none⟩ (.int .i64 0)).setCell ⟨A, 4, none⟩ (.bool false)).setCell ⟨A, 5, none⟩ (.int .i64 0)).setCell ⟨A, 6, none⟩ (.int .i64 (20 + pickedI p 5))).heap[A]? = some (.cells #[.slice pa 4 pc, .int .i64 (-1), .int .i64 (-1), .int .i64 0, .bool false, .int .i64 0, .int .i64 (20 + pickedI p 5)] 24 (0, 0)) ∧ (((((((z22.setCell ⟨A, 0, none⟩ (.slice pa 4 pc)).setCell ⟨A, 1, none⟩ (.int .i64 (-1))).setCell ⟨A, 2, none⟩ (.int .i64 (-1))).setCell ⟨A, 3, none⟩ (.int .i64 0)).setCell ⟨A, 4, none⟩ (.bool false)).setCell ⟨A, 5, none⟩ (.int .i64 0)).setCell ⟨A, 6, none⟩ (.int .i64 (20 + pickedI p 5))).ownsRow 0 4 1 (.slice pa 4 pc) 4 [.bool false, .bool false, .bool false, .bool false] ∧ Below w.heap.size w (((((((z22.setCell ⟨A, 0, none⟩ (.slice pa 4 pc)).setCell ⟨A, 1, none⟩ (.int .i64 (-1))).setCell ⟨A, 2, none⟩ (.int .i64 (-1))).setCell ⟨A, 3, none⟩ (.int .i64 0)).setCell ⟨A, 4, none⟩ (.bool false)).setCell ⟨A, 5, none⟩ (.int .i64 0)).setCell ⟨A, 6, none⟩ (.int .i64 (20 + pickedI p 5))) ∧ w.heap.size ≤ A) := ⟨HP.out.1, own_keep H22.out.2.2.2 (but_keep HP.out.2 HEz.out) (by decide), H22.out.1.trans (HP.out.2.below H22.out.2.2.1.2 H22.out.1.size), H22.out.2.2.1.2⟩
      refine wpAnyT_one (i := 9) (by kernel_rfl) rfl rfl (fun K' hK => ?_)
      go_simp
      refine hK.out _ _ (fun _ => trivial) ?_
      clear hK K'
      try simp only [Act.put, List.setIfInBounds_toArray, List.set_cons_zero, List.set_cons_succ]
      refine wpAnyT_one (i := 10) (by kernel_rfl) rfl rfl (fun K' hK => ?_)
      go_simp
      refine hK.out _ _ (fun h => absurd rfl h) ?_
      clear hK K'
      try simp only [Act.put, List.setIfInBounds_toArray, List.set_cons_zero, List.set_cons_succ]
      refine wpAnyT_done (by kernel_rfl) ?_ _
      exact ⟨rfl, A, pa, pc, _, _, _, _, _, _, _, _, rfl, HFN.out⟩
    · go_simp
      go_at_call 20
      refine (picked_any p 5 hp (by decide) (by decide) _).mono ?_
      rintro e zz ⟨rfl, hzz⟩
      rw [hzz]
      clear hzz zz
      rw [show pickedI p ((5 : Nat) : Int) = pickedI p 5 from rfl]
      refine hK.out _ _ (fun _ => trivial) ?_
      clear hK K'
      try simp only [Act.put, List.setIfInBounds_toArray, List.set_cons_zero, List.set_cons_succ]
      refine wpAnyD_takeAt 3 (some 18) (v := .int .i64 (20 + pickedI p 5)) rfl (by kernel_rfl) (by kernel_rfl) (by kernel_rfl) (by kernel_rfl) (by kernel_rfl) (fun c a w h => nomP h) (by trivial) (fun o hop => ?_) ?_
      · injection hop with hop
        subst hop
        refine ⟨rfl, fun W' hW => ?_⟩
        go_simp
        first
        | rfl
        | (constructor <;> rfl)
        | rw [HWR.out]
      try simp only [Act.put, List.setIfInBounds_toArray, List.set_cons_zero, List.set_cons_succ]
      refine wpAnyT_one (i := 0) (by kernel_rfl) rfl rfl (fun K' hK => ?_)
      refine step_make_full rfl _ _ 22 rfl w.heap.size 4 i4 (.bool false) 1 Try.underlying22 hi4 h40 h41 .i64 .i64 _ _ 4 rfl rfl rfl rfl (by rw [h42]; decide) (by decide) H19.out.1.size ?_
      intro z24 hown hgr
      obtain ⟨G, hG⟩ : ∃ x, x = z19.heap.size := ⟨_, rfl⟩
      have hb2 : Below z19.heap.size z19 z24 := (Below.refl _ z19).grown hgr (Nat.le_refl _) (fun k e => by cases e)
      rw [← hG, hmk] at hown
      have H24 : Hid ((Below w.heap.size w z24) ∧ (z24.ownsRow w.heap.size 4 1 (.slice (some ⟨G, 0, none⟩) 4 4) 4 [.bool false, .bool false, .bool false, .bool false]) ∧ (z24.heap[A]? = some (.cells #[.slice none 0 0, .int .i64 0, .int .i64 0, .int .i64 0, .bool false, .int .i64 0, .int .i64 0] 24 (0, 0)) ∧ w.heap.size ≤ A)) := ⟨H19.out.1.trans (hb2.mono H19.out.1.size), hown, ⟨(hb2.block A (lt_heap H19.out.2.1)).trans H19.out.2.1, H19.out.2.2⟩⟩
      rw [← hG]
      refine hK.out _ _ (fun _ => trivial) ?_
      clear hK K' hown hgr hb2 hG H19
      try simp only [Act.put, List.setIfInBounds_toArray]
      refine wpAnyT_one (i := 4) (by kernel_rfl) rfl rfl (fun K' hK => ?_)
      go_simp
      go_at_call 19
      refine (HBG.out z24 G (rowAt_of_own H24.out.2.1)).mono ?_
      rintro e z25 ⟨pa, pc, rfl, hown, hb2⟩
      have H25 : Hid ((Below w.heap.size w z25) ∧ (z25.ownsRow w.heap.size 4 1 (.slice (some ⟨G, 0, none⟩) 4 4) 4 [.bool false, .bool false, .bool false, .bool false]) ∧ (z25.heap[A]? = some (.cells #[.slice none 0 0, .int .i64 0, .int .i64 0, .int .i64 0, .bool false, .int .i64 0, .int .i64 0] 24 (0, 0)) ∧ w.heap.size ≤ A) ∧ (z25.ownsRow 0 4 1 (.slice pa 4 pc) 4 [.bool false, .bool false, .bool false, .bool false])) := ⟨H24.out.1.trans (hb2.mono H24.out.1.size), own_below H24.out.2.1 hb2 (Nat.le_refl _), ⟨(hb2.block A (lt_heap H24.out.2.2.1)).trans H24.out.2.2.1, H24.out.2.2.2⟩, hown⟩
      refine hK.out _ _ (fun _ => trivial) ?_
      clear hK K' hown hb2 H24
      try simp only [Act.put, List.setIfInBounds_toArray, List.set_cons_zero, List.set_cons_succ]
      refine wpAnyD_takeAt 5 (some 14) (v := ?_) rfl (by kernel_rfl) (by kernel_rfl) (by kernel_rfl) (by kernel_rfl) (by kernel_rfl) (fun c a w h => nomP h) (by trivial) (fun o hop => ?_) ?_
      rotate_left
      · injection hop with hop
        subst hop
        refine ⟨rfl, fun W' hW => ?_⟩
        go_simp
        first
        | rfl
        | (constructor <;> rfl)
      try simp only [Act.put, List.setIfInBounds_toArray, List.set_cons_zero, List.set_cons_succ]
      refine wpAnyD_takeAt 6 (some 20) (v := ?_) rfl (by kernel_rfl) (by kernel_rfl) (by kernel_rfl) (by kernel_rfl) (by kernel_rfl) (fun c a w h => nomP h) (by trivial) (fun o hop => ?_) ?_
      rotate_left
      · injection hop with hop
        subst hop
        refine ⟨rfl, fun W' hW => ?_⟩
        go_simp
        first
        | rfl
        | (constructor <;> rfl)
      try simp only [Act.put, List.setIfInBounds_toArray, List.set_cons_zero, List.set_cons_succ]
      refine wpAnyD_takeAt 7 (some 21) (v := ?_) rfl (by kernel_rfl) (by kernel_rfl) (by kernel_rfl) (by kernel_rfl) (by kernel_rfl) (fun c a w h => nomP h) (by trivial) (fun o hop => ?_) ?_
      rotate_left
      · injection hop with hop
        subst hop
        refine ⟨rfl, fun W' hW => ?_⟩
        go_simp
        first
        | rfl
        | (constructor <;> rfl)
      try simp only [Act.put, List.setIfInBounds_toArray, List.set_cons_zero, List.set_cons_succ]
      have HEz := hide' H25.out.2.2.1.1
      obtain ⟨b0, b1, b2, b3, b4, b5, b6⟩ := cellsP7 HEz.out
      obtain ⟨e0, e1, e2, e3, e4, e5, e6⟩ := frozenP7 HEz.out
      have HP := hide' (put7 (S0 := StM.nought) HEz.out ⟨-1, -1, 0, false, 0, 20 + pickedI p 5⟩ (.slice pa 4 pc))
      have HFN : Hid ((((((((z25.setCell ⟨A, 0, none⟩ (.slice pa 4 pc)).setCell ⟨A, 1, none⟩ (.int .i64 (-1))).setCell ⟨A, 2, none⟩ (.int .i64 (-1))).setCell ⟨A, 3, none⟩ (.int .i64 0)).setCell ⟨A, 4, none⟩ (.bool false)).setCell ⟨A, 5, none⟩ (.int .i64 0)).setCell ⟨A, 6, none⟩ (.int .i64 (20 + pickedI p 5))).heap[A]? = some (.cells #[.slice pa 4 pc, .int .i64 (-1), .int .i64 (-1), .int .i64 0, .bool false, .int .i64 0, .int .i64 (20 + pickedI p 5)] 24 (0, 0)) ∧ (((((((z25.setCell ⟨A, 0, none⟩ (.slice pa 4 pc)).setCell ⟨A, 1, none⟩ (.int .i64 (-1))).setCell ⟨A, 2, none⟩ (.int .i64 (-1))).setCell ⟨A, 3, none⟩ (.int .i64 0)).setCell ⟨A, 4, none⟩ (.bool false)).setCell ⟨A, 5, none⟩ (.int .i64 0)).setCell ⟨A, 6, none⟩ (.int .i64 (20 + pickedI p 5))).ownsRow 0 4 1 (.slice pa 4 pc) 4 [.bool false, .bool false, .bool false, .bool false] ∧ Below w.heap.size w (((((((z25.setCell ⟨A, 0, none⟩ (.slice pa 4 pc)).setCell ⟨A, 1, none⟩ (.int .i64 (-1))).setCell ⟨A, 2, none⟩ (.int .i64 (-1))).setCell ⟨A, 3, none⟩ (.int .i64 0)).setCell ⟨A, 4, none⟩ (.bool false)).setCell ⟨A, 5, none⟩ (.int .i64 0)).setCell ⟨A, 6, none⟩ (.int .i64 (20 + pickedI p 5))) ∧ w.heap.size ≤ A) := ⟨HP.out.1, own_keep H25.out.2.2.2 (but_keep HP.out.2 HEz.out) (by decide), H25.out.1.trans (HP.out.2.below H25.out.2.2.1.2 H25.out.1.size), H25.out.2.2.1.2⟩
      refine wpAnyT_one (i := 9) (by kernel_rfl) rfl rfl (fun K' hK => ?_)
      go_simp
      refine hK.out _ _ (fun _ => trivial) ?_
      clear hK K'
      try simp only [Act.put, List.setIfInBounds_toArray, List.set_cons_zero, List.set_cons_succ]
      refine wpAnyT_one (i := 10) (by kernel_rfl) rfl rfl (fun K' hK => ?_)
      go_simp
      refine hK.out _ _ (fun h => absurd rfl h) ?_
      clear hK K'
      try simp only [Act.put, List.setIfInBounds_toArray, List.set_cons_zero, List.set_cons_succ]
      refine wpAnyT_done (by kernel_rfl) ?_ _
      exact ⟨rfl, A, pa, pc, _, _, _, _, _, _, _, _, rfl, HFN.out⟩
end Go.Proofs.Ytjhmendiefojoam
