/- The program's search: its first place. -/
import Derived.Test.YtcnoipcpifackahXl
namespace Go.Proofs.Ytcnoipcpifackah
open Go.RowKit Go.Shelf

def dropC : Nat → Code → Code
  | 0, c => c
  | n + 1, .seq _ b => dropC n b
  | _ + 1, c => c
def headC (n : Nat) (f : Func) : Code := match dropC n (f.body.getD .skip) with
  | .seq a _ => a
  | c => c
theorem put11 {w : World} {A e : Nat} {x0 x1 x2 x3 x4 x5 x6 x7 x8 x9 x10 : Value} (h : w.heap[A]? = some (.cells #[x0, x1, x2, x3, x4, x5, x6, x7, x8, x9, x10] e (0, 0))) (v0 v1 v2 v3 v4 v5 v6 v7 v8 v9 v10 : Value) : (((((((((((w.setCell ⟨A, 0, none⟩ v0).setCell ⟨A, 1, none⟩ v1).setCell ⟨A, 2, none⟩ v2).setCell ⟨A, 3, none⟩ v3).setCell ⟨A, 4, none⟩ v4).setCell ⟨A, 5, none⟩ v5).setCell ⟨A, 6, none⟩ v6).setCell ⟨A, 7, none⟩ v7).setCell ⟨A, 8, none⟩ v8).setCell ⟨A, 9, none⟩ v9).setCell ⟨A, 10, none⟩ v10).heap[A]? = some (.cells #[v0, v1, v2, v3, v4, v5, v6, v7, v8, v9, v10] e (0, 0)) ∧ But A w (((((((((((w.setCell ⟨A, 0, none⟩ v0).setCell ⟨A, 1, none⟩ v1).setCell ⟨A, 2, none⟩ v2).setCell ⟨A, 3, none⟩ v3).setCell ⟨A, 4, none⟩ v4).setCell ⟨A, 5, none⟩ v5).setCell ⟨A, 6, none⟩ v6).setCell ⟨A, 7, none⟩ v7).setCell ⟨A, 8, none⟩ v8).setCell ⟨A, 9, none⟩ v9).setCell ⟨A, 10, none⟩ v10) :=
  ⟨(set_any (set_any (set_any (set_any (set_any (set_any (set_any (set_any (set_any (set_any (set_any (h) 0 _) 1 _) 2 _) 3 _) 4 _) 5 _) 6 _) 7 _) 8 _) 9 _) 10 _).trans (by simp only [List.setIfInBounds_toArray, List.set_cons_zero, List.set_cons_succ]), But.set (But.set (But.set (But.set (But.set (But.set (But.set (But.set (But.set (But.set (But.set (But.refl A w) _ _) _ _) _ _) _ _) _ _) _ _) _ _) _ _) _ _) _ _) _ _⟩
def PQ2 (w : World) (Y s0 n cs lf cf ld cd m cg cl ce cq : Nat) (af ad as' ag al ae aq : Option Addr) (pt : Int) (pr : Array Value → Nat → Prop) : Exit → Act → World → Prop := fun e a z => e = .normal ∧ ∃ T, pr a.tmps T ∧ a.defers = [] ∧ z.heap[T]? = some (.cells #[.int .i64 pt, .slice af lf cf, .slice ad ld cd, .slice as' n cs, .slice ag m cg, .slice al m cl, .slice ae m ce, .slice aq m cq, .int .i64 (s0 : Int), .int .i64 0, .int .i64 0] 74 (0, 0)) ∧ z.heap[Y]? = some (.cells #[.int .i64 pt, .slice af lf cf, .slice ad ld cd, .slice as' n cs, .slice ag m cg, .slice al m cl, .slice ae m ce, .slice aq m cq] 50 (0, 0)) ∧ Below w.heap.size w z ∧ w.heap.size ≤ T
theorem nomN {w w' : World} {Y s0 n cs lf cf ld cd m cg cl ce cq : Nat} {af ad as' ag al ae aq : Option Addr} {pt : Int} {pr : Array Value → Nat → Prop} {a a' : Act} {c : List PanicEntry} (h : PQ2 w Y s0 n cs lf cf ld cd m cg cl ce cq af ad as' ag al ae aq pt pr (.panic c) a w') : PQ2 w Y s0 n cs lf cf ld cd m cg cl ce cq af ad as' ag al ae aq pt pr (.panic c) a' w' := by
  obtain ⟨h, _⟩ := h
  cases h
set_option maxRecDepth 100000 in
set_option maxHeartbeats 4000000 in
theorem planR2 {w w1 : World} {Y s0 n cs lf cf ld cd m cg cl ce cq gc en : Nat} {af ad as' ag al ae aq ga : Option Addr} {pt : Int} (hY : w1.heap[Y]? = some (.cells #[.int .i64 pt, .slice af lf cf, .slice ad ld cd, .slice as' n cs, .slice ag m cg, .slice al m cl, .slice ae m ce, .slice aq m cq] 50 (0, 0))) (hb : Below w.heap.size w w1) (hBD : ∀ z, Below w.heap.size w z → Calls Try.prog 39 #[.slice as' n cs, .func (.func 40) #[] #[]] z fun e w' => e = .returned (.int .i64 (s0 : Int)) ∧ Below z.heap.size z w') : Code.wp Try.prog (headC 2 Try.f25) (PQ2 w Y s0 n cs lf cf ld cd m cg cl ce cq af ad as' ag al ae aq pt (fun t T => ∃ g18 g19 g20 g21 g22 g23, t = #[.agg #[.int .i64 pt, .slice af lf cf, .slice ad ld cd, .slice as' n cs, .slice ag m cg, .slice al m cl, .slice ae m ce, .slice aq m cq], .slice ga n gc, .pointer (some ⟨Y, 0, none⟩), undef, .slice none 0 0, .int .i64 0, .int .i64 (en : Int), .pointer (some ⟨T, 0, none⟩), undef, undef, undef, undef, undef, undef, undef, undef, .slice ga n gc, .int .i64 (en : Int), g18, g19, g20, g21, g22, g23, undef, undef, undef, undef, undef, undef, undef, undef, undef, undef, undef, undef, undef, undef, undef, undef, undef, undef, undef, undef, undef, undef, undef, undef, undef, undef, undef, undef, undef, undef, undef, undef, undef, undef, undef, undef, undef, undef, undef, undef, undef, undef, undef, undef, undef, undef, undef, undef, undef, undef, undef, undef, undef, undef, undef, undef, undef])) ⟨#[.agg #[.int .i64 pt, .slice af lf cf, .slice ad ld cd, .slice as' n cs, .slice ag m cg, .slice al m cl, .slice ae m ce, .slice aq m cq], .slice ga n gc, .pointer (some ⟨Y, 0, none⟩), undef, .slice none 0 0, .int .i64 0, .int .i64 (en : Int), undef, undef, undef, undef, undef, undef, undef, undef, undef, .slice ga n gc, .int .i64 (en : Int), undef, undef, undef, undef, undef, undef, undef, undef, undef, undef, undef, undef, undef, undef, undef, undef, undef, undef, undef, undef, undef, undef, undef, undef, undef, undef, undef, undef, undef, undef, undef, undef, undef, undef, undef, undef, undef, undef, undef, undef, undef, undef, undef, undef, undef, undef, undef, undef, undef, undef, undef, undef, undef, undef, undef, undef, undef, undef, undef, undef, undef, undef, undef], []⟩ w1 := by
  have HBD := hide' hBD
  clear hBD
  conv => arg 2; whnf
  refine wp_region_tail (fun W' => W'.heap[Y]? = some (.cells #[.int .i64 pt, .slice af lf cf, .slice ad ld cd, .slice as' n cs, .slice ag m cg, .slice al m cl, .slice ae m ce, .slice aq m cq] 50 (0, 0))) 7 (by kernel_rfl) ?_
  refine wpAnyT_letter (fun q => Hid ((q.heap[Y]? = some (.cells #[.int .i64 pt, .slice af lf cf, .slice ad ld cd, .slice as' n cs, .slice ag m cg, .slice al m cl, .slice ae m ce, .slice aq m cq] 50 (0, 0))) ∧ Below w.heap.size w q)) ⟨hY, hb.drew⟩ ?_
  clear hY hb
  intro z H0
  refine wpAnyD_takeAt 0 (some 18) (v := ?_) rfl (by kernel_rfl) (by kernel_rfl) (by kernel_rfl) (by kernel_rfl) (by kernel_rfl) (fun _ _ _ h => nomN h) (by exact H0.out.1) (fun o hop => ?_) ?_
  rotate_left
  · injection hop with hop
    subst hop
    refine ⟨rfl, fun W' hW => ?_⟩
    have g0 : W'.cell? ⟨Y, 0, none⟩ = some (.int .i64 pt) := (cells_at hW 0).trans rfl
    have g1 : W'.cell? ⟨Y, 1, none⟩ = some (.slice af lf cf) := (cells_at hW 1).trans rfl
    have g2 : W'.cell? ⟨Y, 2, none⟩ = some (.slice ad ld cd) := (cells_at hW 2).trans rfl
    have g3 : W'.cell? ⟨Y, 3, none⟩ = some (.slice as' n cs) := (cells_at hW 3).trans rfl
    have g4 : W'.cell? ⟨Y, 4, none⟩ = some (.slice ag m cg) := (cells_at hW 4).trans rfl
    have g5 : W'.cell? ⟨Y, 5, none⟩ = some (.slice al m cl) := (cells_at hW 5).trans rfl
    have g6 : W'.cell? ⟨Y, 6, none⟩ = some (.slice ae m ce) := (cells_at hW 6).trans rfl
    have g7 : W'.cell? ⟨Y, 7, none⟩ = some (.slice aq m cq) := (cells_at hW 7).trans rfl
    go_simp
    first
    | rfl
    | (constructor <;> rfl)
  try simp only [Act.put, List.setIfInBounds_toArray, List.set_cons_zero, List.set_cons_succ]
  refine wpAnyD_takeAt 1 (some 19) (v := ?_) rfl (by kernel_rfl) (by kernel_rfl) (by kernel_rfl) (by kernel_rfl) (by kernel_rfl) (fun _ _ _ h => nomN h) (by exact H0.out.1) (fun o hop => ?_) ?_
  rotate_left
  · injection hop with hop
    subst hop
    refine ⟨rfl, fun W' hW => ?_⟩
    have g0 : W'.cell? ⟨Y, 0, none⟩ = some (.int .i64 pt) := (cells_at hW 0).trans rfl
    have g1 : W'.cell? ⟨Y, 1, none⟩ = some (.slice af lf cf) := (cells_at hW 1).trans rfl
    have g2 : W'.cell? ⟨Y, 2, none⟩ = some (.slice ad ld cd) := (cells_at hW 2).trans rfl
    have g3 : W'.cell? ⟨Y, 3, none⟩ = some (.slice as' n cs) := (cells_at hW 3).trans rfl
    have g4 : W'.cell? ⟨Y, 4, none⟩ = some (.slice ag m cg) := (cells_at hW 4).trans rfl
    have g5 : W'.cell? ⟨Y, 5, none⟩ = some (.slice al m cl) := (cells_at hW 5).trans rfl
    have g6 : W'.cell? ⟨Y, 6, none⟩ = some (.slice ae m ce) := (cells_at hW 6).trans rfl
    have g7 : W'.cell? ⟨Y, 7, none⟩ = some (.slice aq m cq) := (cells_at hW 7).trans rfl
    go_simp
    first
    | rfl
    | (constructor <;> rfl)
  try simp only [Act.put, List.setIfInBounds_toArray, List.set_cons_zero, List.set_cons_succ]
  refine wpAnyD_takeAt 2 (some 20) (v := ?_) rfl (by kernel_rfl) (by kernel_rfl) (by kernel_rfl) (by kernel_rfl) (by kernel_rfl) (fun _ _ _ h => nomN h) (by exact H0.out.1) (fun o hop => ?_) ?_
  rotate_left
  · injection hop with hop
    subst hop
    refine ⟨rfl, fun W' hW => ?_⟩
    have g0 : W'.cell? ⟨Y, 0, none⟩ = some (.int .i64 pt) := (cells_at hW 0).trans rfl
    have g1 : W'.cell? ⟨Y, 1, none⟩ = some (.slice af lf cf) := (cells_at hW 1).trans rfl
    have g2 : W'.cell? ⟨Y, 2, none⟩ = some (.slice ad ld cd) := (cells_at hW 2).trans rfl
    have g3 : W'.cell? ⟨Y, 3, none⟩ = some (.slice as' n cs) := (cells_at hW 3).trans rfl
    have g4 : W'.cell? ⟨Y, 4, none⟩ = some (.slice ag m cg) := (cells_at hW 4).trans rfl
    have g5 : W'.cell? ⟨Y, 5, none⟩ = some (.slice al m cl) := (cells_at hW 5).trans rfl
    have g6 : W'.cell? ⟨Y, 6, none⟩ = some (.slice ae m ce) := (cells_at hW 6).trans rfl
    have g7 : W'.cell? ⟨Y, 7, none⟩ = some (.slice aq m cq) := (cells_at hW 7).trans rfl
    go_simp
    first
    | rfl
    | (constructor <;> rfl)
  try simp only [Act.put, List.setIfInBounds_toArray, List.set_cons_zero, List.set_cons_succ]
  refine wpAnyD_takeAt 3 (some 21) (v := ?_) rfl (by kernel_rfl) (by kernel_rfl) (by kernel_rfl) (by kernel_rfl) (by kernel_rfl) (fun _ _ _ h => nomN h) (by exact H0.out.1) (fun o hop => ?_) ?_
  rotate_left
  · injection hop with hop
    subst hop
    refine ⟨rfl, fun W' hW => ?_⟩
    have g0 : W'.cell? ⟨Y, 0, none⟩ = some (.int .i64 pt) := (cells_at hW 0).trans rfl
    have g1 : W'.cell? ⟨Y, 1, none⟩ = some (.slice af lf cf) := (cells_at hW 1).trans rfl
    have g2 : W'.cell? ⟨Y, 2, none⟩ = some (.slice ad ld cd) := (cells_at hW 2).trans rfl
    have g3 : W'.cell? ⟨Y, 3, none⟩ = some (.slice as' n cs) := (cells_at hW 3).trans rfl
    have g4 : W'.cell? ⟨Y, 4, none⟩ = some (.slice ag m cg) := (cells_at hW 4).trans rfl
    have g5 : W'.cell? ⟨Y, 5, none⟩ = some (.slice al m cl) := (cells_at hW 5).trans rfl
    have g6 : W'.cell? ⟨Y, 6, none⟩ = some (.slice ae m ce) := (cells_at hW 6).trans rfl
    have g7 : W'.cell? ⟨Y, 7, none⟩ = some (.slice aq m cq) := (cells_at hW 7).trans rfl
    go_simp
    first
    | rfl
    | (constructor <;> rfl)
  try simp only [Act.put, List.setIfInBounds_toArray, List.set_cons_zero, List.set_cons_succ]
  refine wpAnyT_two (i := 4) (j := 6) (by kernel_rfl) rfl rfl rfl rfl (fun K' hK => ?_) (fun K' hK => ?_)
  · go_simp
    go_at_call 39
    refine (HBD.out _ H0.out.2).mono ?_
    rintro e z2 ⟨rfl, hb2⟩
    have H2 : Hid ((z2.heap[Y]? = some (.cells #[.int .i64 pt, .slice af lf cf, .slice ad ld cd, .slice as' n cs, .slice ag m cg, .slice al m cl, .slice ae m ce, .slice aq m cq] 50 (0, 0))) ∧ Below w.heap.size w z2) := ⟨(hb2.block Y (lt_heap H0.out.1)).trans H0.out.1, H0.out.2.trans (hb2.mono H0.out.2.size)⟩
    refine hK.out _ _ (fun _ => H2.out.1) ?_
    clear hK K' hb2 H0
    try simp only [Act.put, List.setIfInBounds_toArray, List.set_cons_zero, List.set_cons_succ]
    refine wpAnyD_takeAt 5 (some 23) (v := ?_) rfl (by kernel_rfl) (by kernel_rfl) (by kernel_rfl) (by kernel_rfl) (by kernel_rfl) (fun _ _ _ h => nomN h) (by exact H2.out.1) (fun o hop => ?_) ?_
    rotate_left
    · injection hop with hop
      subst hop
      refine ⟨rfl, fun W' hW => ?_⟩
      have g0 : W'.cell? ⟨Y, 0, none⟩ = some (.int .i64 pt) := (cells_at hW 0).trans rfl
      have g1 : W'.cell? ⟨Y, 1, none⟩ = some (.slice af lf cf) := (cells_at hW 1).trans rfl
      have g2 : W'.cell? ⟨Y, 2, none⟩ = some (.slice ad ld cd) := (cells_at hW 2).trans rfl
      have g3 : W'.cell? ⟨Y, 3, none⟩ = some (.slice as' n cs) := (cells_at hW 3).trans rfl
      have g4 : W'.cell? ⟨Y, 4, none⟩ = some (.slice ag m cg) := (cells_at hW 4).trans rfl
      have g5 : W'.cell? ⟨Y, 5, none⟩ = some (.slice al m cl) := (cells_at hW 5).trans rfl
      have g6 : W'.cell? ⟨Y, 6, none⟩ = some (.slice ae m ce) := (cells_at hW 6).trans rfl
      have g7 : W'.cell? ⟨Y, 7, none⟩ = some (.slice aq m cq) := (cells_at hW 7).trans rfl
      go_simp
      first
      | rfl
      | (constructor <;> rfl)
    try simp only [Act.put, List.setIfInBounds_toArray, List.set_cons_zero, List.set_cons_succ]
    refine wpAnyT_one (i := 6) (by kernel_rfl) rfl rfl (fun K' hK => ?_)
    go_simp
    obtain ⟨T, hT⟩ : ∃ x, x = z2.heap.size := ⟨_, rfl⟩
    have hb2 := below_al z2 (.cells #[.int .i64 0, .slice none 0 0, .slice none 0 0, .slice none 0 0, .slice none 0 0, .slice none 0 0, .slice none 0 0, .slice none 0 0, .int .i64 0, .int .i64 0, .int .i64 0] 74)
    have hnw := alloc_new z2 (.cells #[.int .i64 0, .slice none 0 0, .slice none 0 0, .slice none 0 0, .slice none 0 0, .slice none 0 0, .slice none 0 0, .slice none 0 0, .int .i64 0, .int .i64 0, .int .i64 0] 74)
    rw [← hT] at hnw
    obtain ⟨z3, hz2⟩ : ∃ x, x = z2.alloc (.cells #[.int .i64 0, .slice none 0 0, .slice none 0 0, .slice none 0 0, .slice none 0 0, .slice none 0 0, .slice none 0 0, .slice none 0 0, .int .i64 0, .int .i64 0, .int .i64 0] 74) := ⟨_, rfl⟩
    rw [← hz2] at hnw hb2 ⊢
    have H3 : Hid ((z3.heap[Y]? = some (.cells #[.int .i64 pt, .slice af lf cf, .slice ad ld cd, .slice as' n cs, .slice ag m cg, .slice al m cl, .slice ae m ce, .slice aq m cq] 50 (0, 0))) ∧ Below w.heap.size w z3 ∧ z3.heap[T]? = some (.cells #[.int .i64 0, .slice none 0 0, .slice none 0 0, .slice none 0 0, .slice none 0 0, .slice none 0 0, .slice none 0 0, .slice none 0 0, .int .i64 0, .int .i64 0, .int .i64 0] 74 (0, 0)) ∧ w.heap.size ≤ T) := ⟨(hb2.block Y (lt_heap H2.out.1)).trans H2.out.1, H2.out.2.trans (hb2.mono H2.out.2.size), hnw, by rw [hT]; exact H2.out.2.size⟩
    rw [← hT]
    refine hK.out _ _ (fun _ => H3.out.1) ?_
    clear hK K' hnw hb2 hz2 hT H2
    try simp only [Act.put, List.setIfInBounds_toArray, List.set_cons_zero, List.set_cons_succ]
    have HE := hide' H3.out.2.2.1
    have b0 : z3.cell? ⟨T, 0, none⟩ = some (.int .i64 0) := (cells_at HE.out 0).trans rfl
    have b1 : z3.cell? ⟨T, 1, none⟩ = some (.slice none 0 0) := (cells_at HE.out 1).trans rfl
    have b2 : z3.cell? ⟨T, 2, none⟩ = some (.slice none 0 0) := (cells_at HE.out 2).trans rfl
    have b3 : z3.cell? ⟨T, 3, none⟩ = some (.slice none 0 0) := (cells_at HE.out 3).trans rfl
    have b4 : z3.cell? ⟨T, 4, none⟩ = some (.slice none 0 0) := (cells_at HE.out 4).trans rfl
    have b5 : z3.cell? ⟨T, 5, none⟩ = some (.slice none 0 0) := (cells_at HE.out 5).trans rfl
    have b6 : z3.cell? ⟨T, 6, none⟩ = some (.slice none 0 0) := (cells_at HE.out 6).trans rfl
    have b7 : z3.cell? ⟨T, 7, none⟩ = some (.slice none 0 0) := (cells_at HE.out 7).trans rfl
    have b8 : z3.cell? ⟨T, 8, none⟩ = some (.int .i64 0) := (cells_at HE.out 8).trans rfl
    have b9 : z3.cell? ⟨T, 9, none⟩ = some (.int .i64 0) := (cells_at HE.out 9).trans rfl
    have b10 : z3.cell? ⟨T, 10, none⟩ = some (.int .i64 0) := (cells_at HE.out 10).trans rfl
    have e0 : z3.frozen? ⟨T, 0, none⟩ = false := frozen_no HE.out _
    have e1 : z3.frozen? ⟨T, 1, none⟩ = false := frozen_no HE.out _
    have e2 : z3.frozen? ⟨T, 2, none⟩ = false := frozen_no HE.out _
    have e3 : z3.frozen? ⟨T, 3, none⟩ = false := frozen_no HE.out _
    have e4 : z3.frozen? ⟨T, 4, none⟩ = false := frozen_no HE.out _
    have e5 : z3.frozen? ⟨T, 5, none⟩ = false := frozen_no HE.out _
    have e6 : z3.frozen? ⟨T, 6, none⟩ = false := frozen_no HE.out _
    have e7 : z3.frozen? ⟨T, 7, none⟩ = false := frozen_no HE.out _
    have e8 : z3.frozen? ⟨T, 8, none⟩ = false := frozen_no HE.out _
    have e9 : z3.frozen? ⟨T, 9, none⟩ = false := frozen_no HE.out _
    have e10 : z3.frozen? ⟨T, 10, none⟩ = false := frozen_no HE.out _
    have HP := hide' (put11 HE.out (.int .i64 pt) (.slice af lf cf) (.slice ad ld cd) (.slice as' n cs) (.slice ag m cg) (.slice al m cl) (.slice ae m ce) (.slice aq m cq) (.int .i64 (s0 : Int)) (.int .i64 0) (.int .i64 0))
    have HFN : Hid ((((((((((((z3.setCell ⟨T, 0, none⟩ (.int .i64 pt)).setCell ⟨T, 1, none⟩ (.slice af lf cf)).setCell ⟨T, 2, none⟩ (.slice ad ld cd)).setCell ⟨T, 3, none⟩ (.slice as' n cs)).setCell ⟨T, 4, none⟩ (.slice ag m cg)).setCell ⟨T, 5, none⟩ (.slice al m cl)).setCell ⟨T, 6, none⟩ (.slice ae m ce)).setCell ⟨T, 7, none⟩ (.slice aq m cq)).setCell ⟨T, 8, none⟩ (.int .i64 (s0 : Int))).setCell ⟨T, 9, none⟩ (.int .i64 0)).setCell ⟨T, 10, none⟩ (.int .i64 0)).heap[T]? = some (.cells #[.int .i64 pt, .slice af lf cf, .slice ad ld cd, .slice as' n cs, .slice ag m cg, .slice al m cl, .slice ae m ce, .slice aq m cq, .int .i64 (s0 : Int), .int .i64 0, .int .i64 0] 74 (0, 0)) ∧ (((((((((((z3.setCell ⟨T, 0, none⟩ (.int .i64 pt)).setCell ⟨T, 1, none⟩ (.slice af lf cf)).setCell ⟨T, 2, none⟩ (.slice ad ld cd)).setCell ⟨T, 3, none⟩ (.slice as' n cs)).setCell ⟨T, 4, none⟩ (.slice ag m cg)).setCell ⟨T, 5, none⟩ (.slice al m cl)).setCell ⟨T, 6, none⟩ (.slice ae m ce)).setCell ⟨T, 7, none⟩ (.slice aq m cq)).setCell ⟨T, 8, none⟩ (.int .i64 (s0 : Int))).setCell ⟨T, 9, none⟩ (.int .i64 0)).setCell ⟨T, 10, none⟩ (.int .i64 0)).heap[Y]? = some (.cells #[.int .i64 pt, .slice af lf cf, .slice ad ld cd, .slice as' n cs, .slice ag m cg, .slice al m cl, .slice ae m ce, .slice aq m cq] 50 (0, 0)) ∧ Below w.heap.size w (((((((((((z3.setCell ⟨T, 0, none⟩ (.int .i64 pt)).setCell ⟨T, 1, none⟩ (.slice af lf cf)).setCell ⟨T, 2, none⟩ (.slice ad ld cd)).setCell ⟨T, 3, none⟩ (.slice as' n cs)).setCell ⟨T, 4, none⟩ (.slice ag m cg)).setCell ⟨T, 5, none⟩ (.slice al m cl)).setCell ⟨T, 6, none⟩ (.slice ae m ce)).setCell ⟨T, 7, none⟩ (.slice aq m cq)).setCell ⟨T, 8, none⟩ (.int .i64 (s0 : Int))).setCell ⟨T, 9, none⟩ (.int .i64 0)).setCell ⟨T, 10, none⟩ (.int .i64 0)) ∧ w.heap.size ≤ T) := by
      refine ⟨HP.out.1, ?_, (((((((((((H3.out.2.1).setCell (p := ⟨T, 0, none⟩) H3.out.2.2.2 _).setCell (p := ⟨T, 1, none⟩) H3.out.2.2.2 _).setCell (p := ⟨T, 2, none⟩) H3.out.2.2.2 _).setCell (p := ⟨T, 3, none⟩) H3.out.2.2.2 _).setCell (p := ⟨T, 4, none⟩) H3.out.2.2.2 _).setCell (p := ⟨T, 5, none⟩) H3.out.2.2.2 _).setCell (p := ⟨T, 6, none⟩) H3.out.2.2.2 _).setCell (p := ⟨T, 7, none⟩) H3.out.2.2.2 _).setCell (p := ⟨T, 8, none⟩) H3.out.2.2.2 _).setCell (p := ⟨T, 9, none⟩) H3.out.2.2.2 _).setCell (p := ⟨T, 10, none⟩) H3.out.2.2.2 _, H3.out.2.2.2⟩
      refine (HP.out.2.block Y (lt_heap H3.out.1) (fun q => ?_)).trans H3.out.1
      have h1 := H3.out.1
      rw [q, HE.out] at h1
      cases h1
    refine wpAnyT_one (i := 7) (by kernel_rfl) rfl rfl (fun K' hK => ?_)
    go_simp
    refine hK.out _ _ (fun h => absurd rfl h) ?_
    clear hK K'
    try simp only [Act.put, List.setIfInBounds_toArray, List.set_cons_zero, List.set_cons_succ]
    refine wpAnyT_done (by kernel_rfl) ?_ _
    exact ⟨rfl, T, ⟨_, _, _, _, _, _, rfl⟩, rfl, HFN.out⟩
  · go_simp
    obtain ⟨T, hT⟩ : ∃ x, x = z.heap.size := ⟨_, rfl⟩
    have hb2 := below_al z (.cells #[.int .i64 0, .slice none 0 0, .slice none 0 0, .slice none 0 0, .slice none 0 0, .slice none 0 0, .slice none 0 0, .slice none 0 0, .int .i64 0, .int .i64 0, .int .i64 0] 74)
    have hnw := alloc_new z (.cells #[.int .i64 0, .slice none 0 0, .slice none 0 0, .slice none 0 0, .slice none 0 0, .slice none 0 0, .slice none 0 0, .slice none 0 0, .int .i64 0, .int .i64 0, .int .i64 0] 74)
    rw [← hT] at hnw
    obtain ⟨z2, hz2⟩ : ∃ x, x = z.alloc (.cells #[.int .i64 0, .slice none 0 0, .slice none 0 0, .slice none 0 0, .slice none 0 0, .slice none 0 0, .slice none 0 0, .slice none 0 0, .int .i64 0, .int .i64 0, .int .i64 0] 74) := ⟨_, rfl⟩
    rw [← hz2] at hnw hb2 ⊢
    have H2 : Hid ((z2.heap[Y]? = some (.cells #[.int .i64 pt, .slice af lf cf, .slice ad ld cd, .slice as' n cs, .slice ag m cg, .slice al m cl, .slice ae m ce, .slice aq m cq] 50 (0, 0))) ∧ Below w.heap.size w z2 ∧ z2.heap[T]? = some (.cells #[.int .i64 0, .slice none 0 0, .slice none 0 0, .slice none 0 0, .slice none 0 0, .slice none 0 0, .slice none 0 0, .slice none 0 0, .int .i64 0, .int .i64 0, .int .i64 0] 74 (0, 0)) ∧ w.heap.size ≤ T) := ⟨(hb2.block Y (lt_heap H0.out.1)).trans H0.out.1, H0.out.2.trans (hb2.mono H0.out.2.size), hnw, by rw [hT]; exact H0.out.2.size⟩
    rw [← hT]
    refine hK.out _ _ (fun _ => H2.out.1) ?_
    clear hK K' hnw hb2 hz2 hT H0
    try simp only [Act.put, List.setIfInBounds_toArray, List.set_cons_zero, List.set_cons_succ]
    refine wpAnyT_one (i := 4) (by kernel_rfl) rfl rfl (fun K' hK => ?_)
    go_simp
    go_at_call 39
    refine (HBD.out _ H2.out.2.1).mono ?_
    rintro e z3 ⟨rfl, hb2⟩
    have H3 : Hid ((z3.heap[Y]? = some (.cells #[.int .i64 pt, .slice af lf cf, .slice ad ld cd, .slice as' n cs, .slice ag m cg, .slice al m cl, .slice ae m ce, .slice aq m cq] 50 (0, 0))) ∧ Below w.heap.size w z3 ∧ z3.heap[T]? = some (.cells #[.int .i64 0, .slice none 0 0, .slice none 0 0, .slice none 0 0, .slice none 0 0, .slice none 0 0, .slice none 0 0, .slice none 0 0, .int .i64 0, .int .i64 0, .int .i64 0] 74 (0, 0)) ∧ w.heap.size ≤ T) := ⟨(hb2.block Y (lt_heap H2.out.1)).trans H2.out.1, H2.out.2.1.trans (hb2.mono H2.out.2.1.size), (hb2.block T (lt_heap H2.out.2.2.1)).trans H2.out.2.2.1, H2.out.2.2.2⟩
    refine hK.out _ _ (fun _ => H3.out.1) ?_
    clear hK K' hb2 H2
    try simp only [Act.put, List.setIfInBounds_toArray, List.set_cons_zero, List.set_cons_succ]
    refine wpAnyD_takeAt 5 (some 23) (v := ?_) rfl (by kernel_rfl) (by kernel_rfl) (by kernel_rfl) (by kernel_rfl) (by kernel_rfl) (fun _ _ _ h => nomN h) (by exact H3.out.1) (fun o hop => ?_) ?_
    rotate_left
    · injection hop with hop
      subst hop
      refine ⟨rfl, fun W' hW => ?_⟩
      have g0 : W'.cell? ⟨Y, 0, none⟩ = some (.int .i64 pt) := (cells_at hW 0).trans rfl
      have g1 : W'.cell? ⟨Y, 1, none⟩ = some (.slice af lf cf) := (cells_at hW 1).trans rfl
      have g2 : W'.cell? ⟨Y, 2, none⟩ = some (.slice ad ld cd) := (cells_at hW 2).trans rfl
      have g3 : W'.cell? ⟨Y, 3, none⟩ = some (.slice as' n cs) := (cells_at hW 3).trans rfl
      have g4 : W'.cell? ⟨Y, 4, none⟩ = some (.slice ag m cg) := (cells_at hW 4).trans rfl
      have g5 : W'.cell? ⟨Y, 5, none⟩ = some (.slice al m cl) := (cells_at hW 5).trans rfl
      have g6 : W'.cell? ⟨Y, 6, none⟩ = some (.slice ae m ce) := (cells_at hW 6).trans rfl
      have g7 : W'.cell? ⟨Y, 7, none⟩ = some (.slice aq m cq) := (cells_at hW 7).trans rfl
      go_simp
      first
      | rfl
      | (constructor <;> rfl)
    try simp only [Act.put, List.setIfInBounds_toArray, List.set_cons_zero, List.set_cons_succ]
    have HE := hide' H3.out.2.2.1
    have b0 : z3.cell? ⟨T, 0, none⟩ = some (.int .i64 0) := (cells_at HE.out 0).trans rfl
    have b1 : z3.cell? ⟨T, 1, none⟩ = some (.slice none 0 0) := (cells_at HE.out 1).trans rfl
    have b2 : z3.cell? ⟨T, 2, none⟩ = some (.slice none 0 0) := (cells_at HE.out 2).trans rfl
    have b3 : z3.cell? ⟨T, 3, none⟩ = some (.slice none 0 0) := (cells_at HE.out 3).trans rfl
    have b4 : z3.cell? ⟨T, 4, none⟩ = some (.slice none 0 0) := (cells_at HE.out 4).trans rfl
    have b5 : z3.cell? ⟨T, 5, none⟩ = some (.slice none 0 0) := (cells_at HE.out 5).trans rfl
    have b6 : z3.cell? ⟨T, 6, none⟩ = some (.slice none 0 0) := (cells_at HE.out 6).trans rfl
    have b7 : z3.cell? ⟨T, 7, none⟩ = some (.slice none 0 0) := (cells_at HE.out 7).trans rfl
    have b8 : z3.cell? ⟨T, 8, none⟩ = some (.int .i64 0) := (cells_at HE.out 8).trans rfl
    have b9 : z3.cell? ⟨T, 9, none⟩ = some (.int .i64 0) := (cells_at HE.out 9).trans rfl
    have b10 : z3.cell? ⟨T, 10, none⟩ = some (.int .i64 0) := (cells_at HE.out 10).trans rfl
    have e0 : z3.frozen? ⟨T, 0, none⟩ = false := frozen_no HE.out _
    have e1 : z3.frozen? ⟨T, 1, none⟩ = false := frozen_no HE.out _
    have e2 : z3.frozen? ⟨T, 2, none⟩ = false := frozen_no HE.out _
    have e3 : z3.frozen? ⟨T, 3, none⟩ = false := frozen_no HE.out _
    have e4 : z3.frozen? ⟨T, 4, none⟩ = false := frozen_no HE.out _
    have e5 : z3.frozen? ⟨T, 5, none⟩ = false := frozen_no HE.out _
    have e6 : z3.frozen? ⟨T, 6, none⟩ = false := frozen_no HE.out _
    have e7 : z3.frozen? ⟨T, 7, none⟩ = false := frozen_no HE.out _
    have e8 : z3.frozen? ⟨T, 8, none⟩ = false := frozen_no HE.out _
    have e9 : z3.frozen? ⟨T, 9, none⟩ = false := frozen_no HE.out _
    have e10 : z3.frozen? ⟨T, 10, none⟩ = false := frozen_no HE.out _
    have HP := hide' (put11 HE.out (.int .i64 pt) (.slice af lf cf) (.slice ad ld cd) (.slice as' n cs) (.slice ag m cg) (.slice al m cl) (.slice ae m ce) (.slice aq m cq) (.int .i64 (s0 : Int)) (.int .i64 0) (.int .i64 0))
    have HFN : Hid ((((((((((((z3.setCell ⟨T, 0, none⟩ (.int .i64 pt)).setCell ⟨T, 1, none⟩ (.slice af lf cf)).setCell ⟨T, 2, none⟩ (.slice ad ld cd)).setCell ⟨T, 3, none⟩ (.slice as' n cs)).setCell ⟨T, 4, none⟩ (.slice ag m cg)).setCell ⟨T, 5, none⟩ (.slice al m cl)).setCell ⟨T, 6, none⟩ (.slice ae m ce)).setCell ⟨T, 7, none⟩ (.slice aq m cq)).setCell ⟨T, 8, none⟩ (.int .i64 (s0 : Int))).setCell ⟨T, 9, none⟩ (.int .i64 0)).setCell ⟨T, 10, none⟩ (.int .i64 0)).heap[T]? = some (.cells #[.int .i64 pt, .slice af lf cf, .slice ad ld cd, .slice as' n cs, .slice ag m cg, .slice al m cl, .slice ae m ce, .slice aq m cq, .int .i64 (s0 : Int), .int .i64 0, .int .i64 0] 74 (0, 0)) ∧ (((((((((((z3.setCell ⟨T, 0, none⟩ (.int .i64 pt)).setCell ⟨T, 1, none⟩ (.slice af lf cf)).setCell ⟨T, 2, none⟩ (.slice ad ld cd)).setCell ⟨T, 3, none⟩ (.slice as' n cs)).setCell ⟨T, 4, none⟩ (.slice ag m cg)).setCell ⟨T, 5, none⟩ (.slice al m cl)).setCell ⟨T, 6, none⟩ (.slice ae m ce)).setCell ⟨T, 7, none⟩ (.slice aq m cq)).setCell ⟨T, 8, none⟩ (.int .i64 (s0 : Int))).setCell ⟨T, 9, none⟩ (.int .i64 0)).setCell ⟨T, 10, none⟩ (.int .i64 0)).heap[Y]? = some (.cells #[.int .i64 pt, .slice af lf cf, .slice ad ld cd, .slice as' n cs, .slice ag m cg, .slice al m cl, .slice ae m ce, .slice aq m cq] 50 (0, 0)) ∧ Below w.heap.size w (((((((((((z3.setCell ⟨T, 0, none⟩ (.int .i64 pt)).setCell ⟨T, 1, none⟩ (.slice af lf cf)).setCell ⟨T, 2, none⟩ (.slice ad ld cd)).setCell ⟨T, 3, none⟩ (.slice as' n cs)).setCell ⟨T, 4, none⟩ (.slice ag m cg)).setCell ⟨T, 5, none⟩ (.slice al m cl)).setCell ⟨T, 6, none⟩ (.slice ae m ce)).setCell ⟨T, 7, none⟩ (.slice aq m cq)).setCell ⟨T, 8, none⟩ (.int .i64 (s0 : Int))).setCell ⟨T, 9, none⟩ (.int .i64 0)).setCell ⟨T, 10, none⟩ (.int .i64 0)) ∧ w.heap.size ≤ T) := by
      refine ⟨HP.out.1, ?_, (((((((((((H3.out.2.1).setCell (p := ⟨T, 0, none⟩) H3.out.2.2.2 _).setCell (p := ⟨T, 1, none⟩) H3.out.2.2.2 _).setCell (p := ⟨T, 2, none⟩) H3.out.2.2.2 _).setCell (p := ⟨T, 3, none⟩) H3.out.2.2.2 _).setCell (p := ⟨T, 4, none⟩) H3.out.2.2.2 _).setCell (p := ⟨T, 5, none⟩) H3.out.2.2.2 _).setCell (p := ⟨T, 6, none⟩) H3.out.2.2.2 _).setCell (p := ⟨T, 7, none⟩) H3.out.2.2.2 _).setCell (p := ⟨T, 8, none⟩) H3.out.2.2.2 _).setCell (p := ⟨T, 9, none⟩) H3.out.2.2.2 _).setCell (p := ⟨T, 10, none⟩) H3.out.2.2.2 _, H3.out.2.2.2⟩
      refine (HP.out.2.block Y (lt_heap H3.out.1) (fun q => ?_)).trans H3.out.1
      have h1 := H3.out.1
      rw [q, HE.out] at h1
      cases h1
    refine wpAnyT_one (i := 7) (by kernel_rfl) rfl rfl (fun K' hK => ?_)
    go_simp
    refine hK.out _ _ (fun h => absurd rfl h) ?_
    clear hK K'
    try simp only [Act.put, List.setIfInBounds_toArray, List.set_cons_zero, List.set_cons_succ]
    refine wpAnyT_done (by kernel_rfl) ?_ _
    exact ⟨rfl, T, ⟨_, _, _, _, _, _, rfl⟩, rfl, HFN.out⟩
end Go.Proofs.Ytcnoipcpifackah
