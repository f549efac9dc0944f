/- The best releases, hour by hour. -/
import Derived.Test.YtnhddmcdmcpkeajV8
namespace Go.Proofs.Ytnhddmcdmcpkeaj
open Go.RowKit Go.Shelf Go.ChangeMaps

theorem field90' (x y z : Int) (w : World) : (Instr.field 131 (.agg #[.int .i64 x, .int .i64 y, .int .i64 z]) 1).run Try.prog w = .ok (.agg #[.int .i64 y, .int .i64 z]) w := by
  simp [Instr.field, run_underlying Try.underlying131, asAgg, part, Try.isAgg117, Result.andThen]
theorem ahead_all {ls : List LakeM} {L H : Nat} {ti : List (List Int)} {pr en : List Int} {al ai ap ae : Option Addr} {cl ci cp ce M : Nat} (hp : PlanOk ls L H ti pr en) : ∀ d, AheadGood ls L H ti pr en al ai ap ae cl ci cp ce M d
  | 0 => ahead_zero hp
  | d + 1 => ahead_succ hp (ahead_all hp d)
/-- The best way, its first k hours: how lakes stand then, and what was released. -/
def planK (ls : List LakeM) (L H : Nat) (ti : List (List Int)) (pr en : List Int) : Nat → Stnd × List (List Int)
  | 0 => (startS ls L, [])
  | k + 1 => (next2 ls L (fullH L ti k (planK ls L H ti pr en k).1) (lookD ls L ti pr en (H - k) k (planK ls L H ti pr en k).1).2, (planK ls L H ti pr en k).2 ++ [listOf (lookD ls L ti pr en (H - k) k (planK ls L H ti pr en k).1).2.a (lookD ls L ti pr en (H - k) k (planK ls L H ti pr en k).1).2.b L])
theorem plan_good {ls : List LakeM} {L H : Nat} {ti : List (List Int)} {pr en : List Int} (hp : PlanOk ls L H ti pr en) : ∀ k, k ≤ H → Good ls L (planK ls L H ti pr en k).1
  | 0, _ => good_start hp.ok hp.l
  | k + 1, hk => by
    have g := plan_good hp k (by omega)
    have e : H - k = (H - k - 1) + 1 := by omega
    show Good ls L (next2 ls L (fullH L ti k (planK ls L H ti pr en k).1) (lookD ls L ti pr en (H - k) k (planK ls L H ti pr en k).1).2)
    rw [e]
    exact fit_good hp (by omega) g (look_fit hp (by omega) g)
theorem plan_len {ls : List LakeM} {L H : Nat} {ti : List (List Int)} {pr en : List Int} : ∀ k, (planK ls L H ti pr en k).2.length = k
  | 0 => rfl
  | k + 1 => by show ((planK ls L H ti pr en k).2 ++ _).length = _; rw [List.length_append, plan_len k]; rfl
theorem own_but {M : Nat} {W W' : World} {es : Array MapEntry} {clock B e sz n : Nat} {v : Value} {xs : List Value} (h : But M W W') (hm : W.heap[M]? = some (.map es clock)) (ho : W.ownsRow B e sz v n xs) : W'.ownsRow B e sz v n xs := by
  refine ⟨ho.1, ?_⟩
  rcases ho.2 with h2 | ⟨g, cap, cur, h3, h4, h5, h6⟩
  · exact .inl h2
  · exact .inr ⟨g, cap, cur, h3, h4, (h.block g (lt_heap h5) (fun e1 => by subst e1; rw [hm] at h5; cases h5)).trans h5, h6⟩
theorem StepsAt.but {M : Nat} {W W' : World} {es : Array MapEntry} {clock B : Nat} {v : Value} {l : List (List Int)} (h : But M W W') (hm : W.heap[M]? = some (.map es clock)) (ho : StepsAt W B v l) : StepsAt W' B v l := by
  obtain ⟨vals, h1, h2, h3⟩ := ho
  exact ⟨vals, h1, own_but h hm h2, fun j x l hx hl => own_but h hm (h3 j x l hx hl)⟩
/-- A row's store into a box of another kind. -/
theorem StepsAt.set {W : World} {B T j t : Nat} {cs : Array Value} {v u : Value} {l : List (List Int)} (ho : StepsAt W B v l) (hT : W.heap[T]? = some (.cells cs t (0, 0))) (h1 : t ≠ 39) (h2 : t ≠ 3) : StepsAt (W.setCell ⟨T, j, none⟩ u) B v l := ho.keep (keep_set hT j u) (fun e => h1 e.symm) (fun e => h2 e.symm)
/-- What best stands on, hour by hour. -/
structure BSt (W wr : World) (ls : List LakeM) (L H : Nat) (ti : List (List Int)) (pr en : List Int) (M P T : Nat) (pv mv : Array Value) (tv : Value) (rel : List (List Int)) : Prop where
  hP : wr.heap[P]? = some (.cells pv 88 (0, 0))
  hT : wr.heap[T]? = some (.cells mv 129 (0, 0))
  sT : W.heap.size ≤ T
  sP : W.heap.size ≤ P
  st : StepsAt wr W.heap.size tv rel
  but : But M W wr
  known : ∃ es clock, wr.heap[M]? = some (.map es clock) ∧ Known ls L H ti pr en es.toList
section
variable {ls : List LakeM} {L H : Nat} {ti : List (List Int)} {pr en : List Int} {W wr wr' : World} {M P T : Nat} {pv mv : Array Value} {tv : Value} {rel : List (List Int)}
theorem BSt.more (h : BSt W wr ls L H ti pr en M P T pv mv tv rel) (hb : But M wr wr') (hk : ∃ es clock, wr'.heap[M]? = some (.map es clock) ∧ Known ls L H ti pr en es.toList) : BSt W wr' ls L H ti pr en M P T pv mv tv rel := by
  obtain ⟨es, clock, hm, _⟩ := h.known
  exact ⟨(hb.block P (lt_heap h.hP) (fun e => by have := h.hP; rw [e, hm] at this; cases this)).trans h.hP, (hb.block T (lt_heap h.hT) (fun e => by have := h.hT; rw [e, hm] at this; cases this)).trans h.hT, h.sT, h.sP, StepsAt.but hb hm h.st, h.but.trans hb, hk⟩
theorem BSt.below (h : BSt W wr ls L H ti pr en M P T pv mv tv rel) (hb : Below wr.heap.size wr wr') : BSt W wr' ls L H ti pr en M P T pv mv tv rel := by
  obtain ⟨es, clock, hm, hk⟩ := h.known
  exact h.more (But.of hb) ⟨es, clock, (hb.block M (lt_heap hm)).trans hm, hk⟩
theorem BSt.env {al ai ap ae : Option Addr} {cl ci cp ce : Nat} (h : BSt W wr ls L H ti pr en M P T pv mv tv rel) (he : PEnv W ls L H ti pr en al ai ap ae cl ci cp ce M) : PEnv wr ls L H ti pr en al ai ap ae cl ci cp ce M := he.but h.but h.known
theorem BSt.set5 (h : BSt W wr ls L H ti pr en M P T pv mv tv rel) (hPT : P ≠ T) {c0 c1 c2 c3 c4 : Value} (hmv : mv = #[c0, c1, c2, c3, c4]) (x0 x1 x2 x3 x4 : Value) : BSt W (((((wr.setCell ⟨T, 0, none⟩ x0).setCell ⟨T, 1, none⟩ x1).setCell ⟨T, 2, none⟩ x2).setCell ⟨T, 3, none⟩ x3).setCell ⟨T, 4, none⟩ x4) ls L H ti pr en M P T pv #[x0, x1, x2, x3, x4] tv rel := by
  subst hmv
  obtain ⟨es, clock, hm, hkn⟩ := h.known
  have hTM : M ≠ T := fun e => by have := h.hT; rw [← e, hm] at this; cases this
  have s : ∀ k, k ≠ T → (((((wr.setCell ⟨T, 0, none⟩ x0).setCell ⟨T, 1, none⟩ x1).setCell ⟨T, 2, none⟩ x2).setCell ⟨T, 3, none⟩ x3).setCell ⟨T, 4, none⟩ x4).heap[k]? = wr.heap[k]? := fun k hk => by
    rw [Below.heap_setCell _ _ _ k hk, Below.heap_setCell _ _ _ k hk, Below.heap_setCell _ _ _ k hk, Below.heap_setCell _ _ _ k hk, Below.heap_setCell _ _ _ k hk]
  refine ⟨(s P hPT).trans h.hP, set_fiveM h.hT x0 x1 x2 x3 x4, h.sT, h.sP, ?_, ((((h.but.setOut h.sT x0).setOut h.sT x1).setOut h.sT x2).setOut h.sT x3).setOut h.sT x4, es, clock, (s M hTM).trans hm, hkn⟩
  exact ((((h.st.set h.hT (by decide) (by decide)).set (set_any h.hT 0 x0) (by decide) (by decide)).set (set_any (set_any h.hT 0 x0) 1 x1) (by decide) (by decide)).set (set_any (set_any (set_any h.hT 0 x0) 1 x1) 2 x2) (by decide) (by decide)).set (set_any (set_any (set_any (set_any h.hT 0 x0) 1 x1) 2 x2) 3 x3) (by decide) (by decide)
theorem BSt.grow {l : List Int} {v' ov : Value} {vals : List Value} {o : Obj} {n : Nat} (h : BSt W wr ls L H ti pr en M P T pv mv tv rel) (hl : vals.length = rel.length) (ho : wr.ownsRow W.heap.size 39 1 tv rel.length vals) (hr : ∀ (j : Nat) (x : Value) (l : List Int), vals[j]? = some x → rel[j]? = some l → wr.ownsRow W.heap.size 3 1 x l.length (ints l)) (hov : wr.ownsRow W.heap.size 3 1 ov l.length (ints l)) (hown : wr'.ownsRow W.heap.size 39 1 v' n (vals ++ [ov])) (hn : n = rel.length + 1) (hg : (wr.alloc o).grownBy wr' tv.ownBlock) : BSt W wr' ls L H ti pr en M P T pv mv v' (rel ++ [l]) := by
  obtain ⟨es, clock, hm, hkn⟩ := h.known
  have ho2 := own_below ho (below_al wr o) (Nat.le_refl _)
  exact ⟨grown_keep (w := W) ho hg h.hP (by decide), grown_keep (w := W) ho hg h.hT (by decide), h.sT, h.sP, StepsAt.more hl ho hr hov hown hn hg, (h.but.trans (But.of (below_al wr o))).grown hg (own_at ho2) (Nat.le_refl _), es, clock, map_grown ho2 hg ((alloc_old wr o (lt_heap hm)).trans hm), hkn⟩
end
end Go.Proofs.Ytnhddmcdmcpkeaj
