/- Runs of releases, and what they are worth. -/
import Derived.Test.YtmbgjmkndhjilakVe
namespace Go.Proofs.Ytmbgjmkndhjilak
open Go.RowKit Go.Shelf

theorem step_make_full {P : Program} {ops : Array Oper} {o : Oper} {a : Act} {w : World} {K : Act → World → Prop} {Q : Exit → Act → World → Prop} {E : Prop}
    (hg : o.guard = none) (l c : Operand) (t : TypeId) (hop : o.op = Op.makeSlice t l c)
    (base : Nat) (e : TypeId) (i : TypeInfo) (z : Value) (size : Nat) (h1 : P.underlying t = some (.slice e)) (h2 : P.info? e = some i) (h3 : i.zero = some z) (h4 : i.size = size)
    (kl kc : IntKind) (L C : Int) (n : Nat) (hl : a.eval l = .int kl L) (hc : a.eval c = .int kc C) (hL : L = (n : Int)) (hC : C = (n : Int)) (b2 : i.bytes * n ≤ 281474976710656) (b3 : n ≤ maxLen) (b4 : base ≤ w.heap.size)
    (hK : ∀ w', w'.ownsRow base e size (.slice (some ⟨w.heap.size, 0, none⟩) n n) n (madeCells z.cells (n * size)).toList → w.grownBy w' none → K (a.put o.dst (.slice (some ⟨w.heap.size, 0, none⟩) n n)) w') :
    if Region.wanted o (yielded ops a.tmps) = true then Oper.wp P o a w K Q else E := by
  have hw : Region.wanted o (yielded ops a.tmps) = true := by simp [Region.wanted, hg]
  rw [if_pos hw]
  obtain ⟨w', hrun, r1, r2⟩ := run_make_full (P := P) w base t e i z size h1 h2 h3 h4 kl kc n b2 b3 b4
  subst hL hC
  unfold Oper.wp
  simp [execOp, hop, hl, hc, hrun, Result.andThen]
  exact hK _ r1 r2
/-- A table of releases of the right shape. -/
structure TabOk (L H : Nat) (tr : List (List Int)) : Prop where
  n : tr.length = H
  w : ∀ l ∈ tr, l.length = L
  b : ∀ l ∈ tr, ∀ x ∈ l, 0 ≤ x ∧ x ≤ 4
theorem TabOk.row {L H : Nat} {tr : List (List Int)} (h : TabOk L H tr) {k : Nat} (hk : k < H) : (tr.getD k []).length = L ∧ ∀ i, i < L → 0 ≤ (tr.getD k []).getD i 0 ∧ (tr.getD k []).getD i 0 ≤ 4 := by
  have hk' : k < tr.length := by rw [h.n]; exact hk
  rw [getD_at hk']
  exact ⟨h.w _ (List.getElem_mem hk'), fun i hi => h.b _ (List.getElem_mem hk') _ (getD_mem (by rw [h.w _ (List.getElem_mem hk')]; exact hi))⟩
/-- What Run answers of such a table. -/
def RunP (ls : List LakeM) (L H : Nat) (ti tr : List (List Int)) (W : World) (e : Ending) (w' : World) : Prop :=
  ((runK ls L ti tr H = none ∧ e = .returned (.tuple #[.slice none 0 0, .slice none 0 0, .int .i64 15])) ∨ ∃ r a1 c1 v2, runK ls L ti tr H = some r ∧ e = .returned (.tuple #[.slice a1 H c1, v2, .int .i64 0]) ∧ TabAt w' (.slice a1 H c1) r.lv) ∧ Below W.heap.size W w'
section
variable {ls : List LakeM} {L H : Nat} {ti : List (List Int)} {pr en : List Int} {tr : List (List Int)}
theorem Run_ok (hp : PlanOk ls L H ti pr en) (ht : TabOk L H tr) {al ai ar : Option Addr} {cl ci cr : Nat} {W : World} (h1 : RowAt W (.slice al L cl) ls.length 5 (ls.flatMap LakeM.cells)) (h2 : TabAt W (.slice ai H ci) ti) (h3 : TabAt W (.slice ar H cr) tr) :
    Calls Try.prog 12 #[.slice al L cl, .slice ai H ci, .slice ar H cr] W (RunP ls L H ti tr W) := by
  have hH8 := hp.H8
  have hL2 := hp.L2
  have h := Run_any ls ti tr al ai ar cl ci cr W (by have h := h1; rw [← hp.l] at h; exact h) (by rw [hp.t]; exact h2) (by rw [ht.n]; exact h3) (by rw [hp.l]; omega) (by rw [hp.t]; omega) (by rw [ht.n]; omega) (fun l hl => by rw [hp.tr l hl]; omega)
  rw [hp.l, hp.t, ht.n] at h
  refine h.mono ?_
  rintro e w' ⟨hc, hb⟩
  refine ⟨?_, hb⟩
  have z1 : sizeOk ls.length ti tr = true := by
    unfold sizeOk
    rw [hp.l, sized_iff.2 ⟨hL2, by rw [hp.t]; omega, hp.tr⟩, sized_iff.2 ⟨hL2, by rw [ht.n]; omega, ht.w⟩, hp.t, ht.n]
    simp
  obtain ⟨-, z2, z3, -, -⟩ := plan_sized hp
  rcases hc with ⟨q, _⟩ | ⟨_, q, _⟩ | ⟨_, _, q, _⟩ | ⟨_, _, _, q⟩
  · rw [z1] at q; cases q
  · rw [z2] at q; cases q
  · rw [z3] at q; cases q
  · rw [hp.l, hp.t] at q
    rcases q with q | ⟨r, u1, u2, q1, rfl, q3, q4⟩
    · exact .inl q
    · obtain ⟨a1, c1, e1⟩ := q3.slice
      rw [(run_len q1).1] at e1
      subst e1
      exact .inr ⟨r, a1, c1, u2, q1, rfl, q3.tab⟩
theorem worth_run (hp : PlanOk ls L H ti pr en) (ht : TabOk L H tr) {r : RunR} (hr : runK ls L ti tr H = some r) {al at_ av ap ae : Option Addr} {cl ct cv cp ce : Nat} {W : World} (h1 : RowAt W (.slice al L cl) ls.length 5 (ls.flatMap LakeM.cells)) (h2 : TabAt W (.slice at_ H ct) tr) (h3 : TabAt W (.slice av H cv) r.lv) (h4 : RowAt W (.slice ap H cp) H 1 (ints pr)) (h5 : RowAt W (.slice ae L ce) L 1 (ints en)) :
    Calls Try.prog 13 #[.slice al L cl, .slice at_ H ct, .slice av H cv, .slice ap H cp, .slice ae L ce] W fun e w' => e = .returned (.int .i64 (earnT ls L pr tr H + keptK en r.s.l0 r.s.l1 L)) ∧ Below W.heap.size W w' := by
  have g := good_run hp.ok hp.l hp.L2 (H := H) (fun h hh => hp.inb hh) (Nat.le_refl _) hr
  have gb := good_bounds hp.ok hp.l g
  have key : ∀ h, h + 1 = H → ∃ q, r.s = hourS ls L q (ti.getD h []) (tr.getD h []) ∧ r.lv.getD h [] = listOf (hourS ls L q (ti.getD h []) (tr.getD h [])).l0 (hourS ls L q (ti.getD h []) (tr.getD h [])).l1 L := fun h hh => by
    subst hh
    obtain ⟨q, q1, q2, q3, _⟩ := run_at hr h (by omega)
    exact ⟨q.s, (run_succ q1 hr).2, q3⟩
  refine worthOf_any ls hp.ok tr r.lv pr en al at_ av ap ae L H cl ct cv cp ce r.s.l0 r.s.l1 W h1 hp.l hp.L2 hp.H8 h2 ht.n (fun h hh => (ht.row hh).1) (fun h i hh hi => (ht.row hh).2 i hi) h3 (run_len hr).1 (fun h hh => ?_) h4 hp.p (fun h hh => hp.pb _ (getD_mem (by rw [hp.p]; exact hh))) h5 hp.e (fun i hi => hp.eb _ (getD_mem (by rw [hp.e]; exact hi))) ⟨⟨gb.1.1, gb.1.2.1⟩, gb.1.2.2.1, gb.1.2.2.2⟩ ⟨fun h hL hh => ?_, fun h hL hh => ?_⟩ (fun h0 => ?_)
  · obtain ⟨q, _, _, q3, _⟩ := run_at hr h hh
    rw [q3]
    exact list_len _ _ hp.L2
  · obtain ⟨q, e1, e2⟩ := key h hh
    rw [e2, e1]
    exact list_at0 _ _ hL
  · obtain ⟨q, e1, e2⟩ := key h hh
    rw [e2, e1]
    exact list_at1 _ _ hL
  · subst h0
    unfold runK at hr
    cases hr
    exact ⟨fun hL => (if_pos hL).symm, fun hL => (if_pos hL).symm⟩
theorem plan_tab (hp : PlanOk ls L H ti pr en) : TabOk L H (planK ls L H ti pr en H).2 := by
  have row : ∀ l ∈ (planK ls L H ti pr en H).2, ∃ k, k < H ∧ l = (planK ls L H ti pr en H).2.getD k [] := fun l hl => by
    obtain ⟨k, hk, rfl⟩ := List.mem_iff_getElem.1 hl
    exact ⟨k, by rw [plan_len] at hk; exact hk, (getD_at hk).symm⟩
  have fit : ∀ k, k < H → Fit ls L (fullH L ti k (planK ls L H ti pr en k).1) (lookD ls L ti pr en (H - k) k (planK ls L H ti pr en k).1).2 := fun k hk => by
    rw [show H - k = (H - k - 1) + 1 by omega]
    exact look_fit hp (by omega) (plan_good hp k (by omega))
  refine ⟨plan_len H, fun l hl => ?_, fun l hl x hx => ?_⟩
  · obtain ⟨k, hk, rfl⟩ := row l hl
    rw [plan_at hk]
    exact list_len _ _ hp.L2
  · obtain ⟨k, hk, rfl⟩ := row l hl
    rw [plan_at hk] at hx
    have hb := fit_bd hp hk (plan_good hp k (by omega)) (fit k hk)
    have hx2 := List.mem_of_mem_take hx
    simp only [List.mem_cons, List.not_mem_nil, or_false] at hx2
    rcases hx2 with rfl | rfl
    · exact hb.1
    · exact hb.2
end
end Go.Proofs.Ytmbgjmkndhjilak
