/- The best schedule, in the program: all of it. -/
import Derived.Test.YtlbeecjkfakkpagEs
import Derived.Test.YtlbeecjkfakkpagEo
namespace Go.Proofs.Ytlbeecjkfakkpag
open Go.RowKit Go.Shelf Go.ChangeMaps

/-- Lists of numbers, each apart. -/
def NumsO (w : World) (vs : List Value) (l : List (List Int)) : Prop := vs.length = l.length ∧ ∀ (i : Nat) (b : List Int), l[i]? = some b → ∃ x, vs[i]? = some x ∧ IntsO w x b
theorem NumsO.keep {e : TypeId} {w w' : World} {vs : List Value} {l : List (List Int)} (h : NumsO w vs l) (hk : KeepE e w w') (h4 : (3 : Nat) ≠ e) : NumsO w' vs l :=
  ⟨h.1, fun i b hb => by obtain ⟨x, hx, ho⟩ := h.2 i b hb; exact ⟨x, hx, own_keep ho hk h4⟩⟩
theorem NumsO.snoc {w : World} {vs : List Value} {l : List (List Int)} {x : Value} {b : List Int} (h : NumsO w vs l) (hx : IntsO w x b) : NumsO w (vs ++ [x]) (l ++ [b]) := by
  refine ⟨by simp [h.1], fun i c hc => ?_⟩
  by_cases hi : i < l.length
  · rw [List.getElem?_append_left hi] at hc
    obtain ⟨y, hy, ho⟩ := h.2 i c hc
    exact ⟨y, by rw [List.getElem?_append_left (by rw [h.1]; exact hi)]; exact hy, ho⟩
  · by_cases he : i = l.length
    · subst he
      rw [List.getElem?_append_right (Nat.le_refl _), Nat.sub_self] at hc
      cases hc
      exact ⟨x, by rw [List.getElem?_append_right (by rw [h.1]; exact Nat.le_refl _), h.1, Nat.sub_self]; rfl, hx⟩
    · rw [List.getElem?_eq_none (by simp; omega)] at hc
      cases hc
theorem NumsO.at' {w : World} {v : Value} {vs : List Value} {l : List (List Int)} (h1 : w.ownsRow 0 24 1 v l.length vs) (h2 : NumsO w vs l) : NumsAt w v l :=
  ⟨vs, h2.1, rowAt_of_own h1, fun i b hb => by obtain ⟨x, hx, ho⟩ := h2.2 i b hb; exact ⟨x, hx, rowAt_of_own ho⟩⟩
theorem CSt.keep {e : TypeId} {w wr wr' : World} {P n k : Nat} {vs : List Value} (h : CSt w wr P n k vs) (hk : KeepE e wr wr') (h4 : (4 : Nat) ≠ e) (h23 : (23 : Nat) ≠ e) (hb : Below w.heap.size w wr') : CSt w wr' P n k vs :=
  ⟨h.len, (hk P _ _ _ h.hP h23).trans h.hP, h.sP, hb, fun j hj => by
    obtain ⟨g, h1, h2, h3⟩ := h.rows j hj
    exact ⟨g, h1, h2, (hk g _ _ _ h3 h4).trans h3⟩⟩
theorem CSt.base {W w wr : World} {P n k : Nat} {vs : List Value} (h : CSt w wr P n k vs) (hb : Below W.heap.size W w) : CSt W wr P n k vs :=
  ⟨h.len, h.hP, Nat.le_trans hb.size h.sP, hb.trans (h.bel.mono hb.size), h.rows⟩
def zero7 : Array Value := #[.slice none 0 0, .slice none 0 0, .slice none 0 0, .slice none 0 0, .slice none 0 0, .slice none 0 0, .map none]
/-- The blocks that the search has laid first. -/
structure SPre (W wr : World) (P A : Nat) (pv : Array Value) : Prop where
  hP : wr.heap[P]? = some (.cells pv 64 (0, 0))
  hA : wr.heap[A]? = some (.cells zero7 94 (0, 0))
  sA : W.heap.size ≤ A
  bel : Below W.heap.size W wr
theorem SPre.more {W wr wr' : World} {P A : Nat} {pv : Array Value} (h : SPre W wr P A pv) (hb : Below wr.heap.size wr wr') : SPre W wr' P A pv :=
  ⟨(hb.block P (Array.getElem?_eq_some_iff.1 h.hP).1).trans h.hP, (hb.block A (Array.getElem?_eq_some_iff.1 h.hA).1).trans h.hA, h.sA, h.bel.trans (hb.mono h.bel.size)⟩
/-- The blocks that the search has laid. -/
structure SBox (W wr : World) (P A S M C n : Nat) (pv sv : Array Value) (cvs : List Value) : Prop where
  pre : SPre W wr P A pv
  hS : wr.heap[S]? = some (.cells sv 94 (0, 0))
  hM : ∃ cl, wr.heap[M]? = some (.map #[] cl)
  cst : CSt W wr C n (2 ^ n) cvs
  nAS : A ≠ S
  sS : W.heap.size ≤ S
  sM : W.heap.size ≤ M
theorem SBox.more {W wr wr' : World} {P A S M C n : Nat} {pv sv : Array Value} {cvs : List Value} (h : SBox W wr P A S M C n pv sv cvs) (hb : Below wr.heap.size wr wr') : SBox W wr' P A S M C n pv sv cvs := by
  obtain ⟨cl, hm⟩ := h.hM
  exact ⟨h.pre.more hb, (hb.block S (Array.getElem?_eq_some_iff.1 h.hS).1).trans h.hS, ⟨cl, (hb.block M (Array.getElem?_eq_some_iff.1 hm).1).trans hm⟩, h.cst.more hb, h.nAS, h.sS, h.sM⟩
/-- The search at work: rows of hours that are done. -/
structure SSt (W wr : World) (P A S M C n : Nat) (pv sv : Array Value) (cvs : List Value) (uv : Value) (vs : List Value) (k : Nat) (dn : List (List Int)) : Prop where
  box : SBox W wr P A S M C n pv sv cvs
  own : wr.ownsRow W.heap.size 24 1 uv k vs
  rows : NumsO wr vs dn
theorem SSt.more {W wr wr' : World} {P A S M C n k : Nat} {pv sv : Array Value} {cvs vs : List Value} {uv : Value} {dn : List (List Int)} (h : SSt W wr P A S M C n pv sv cvs uv vs k dn) (hb : Below wr.heap.size wr wr') : SSt W wr' P A S M C n pv sv cvs uv vs k dn :=
  ⟨h.box.more hb, own_keep h.own (KeepE.below (e := 76) hb (Nat.le_refl _)) (by decide), h.rows.keep (KeepE.below (e := 76) hb (Nat.le_refl _)) (by decide)⟩
theorem map_grown {e : TypeId} {B sz n M cl : Nat} {es : Array MapEntry} {v : Value} {xs : List Value} {w w' : World} (h : w.ownsRow B e sz v n xs) (hg : w.grownBy w' v.ownBlock) (hm : w.heap[M]? = some (.map es cl)) : w'.heap[M]? = some (.map es cl) := by
  refine (hg.block M (Array.getElem?_eq_some_iff.1 hm).1 ?_).trans hm
  rcases h.2 with ⟨rfl, _⟩ | ⟨g, cap, cur', rfl, _, hg', _⟩
  · simp [Value.ownBlock]
  · simp only [Value.ownBlock, ne_eq, Option.some.injEq]
    rintro rfl
    rw [hm] at hg'
    cases hg'
theorem SSt.app {W wr : World} {P A S M C n k : Nat} {pv sv : Array Value} {cvs vs : List Value} {uv : Value} {dn : List (List Int)} {wr' : World} {uv' x : Value} {b : List Int} {o : Obj} (h : SSt W wr P A S M C n pv sv cvs uv vs k dn) (hg : (wr.alloc o).grownBy wr' uv.ownBlock) (ho : wr'.ownsRow W.heap.size 24 1 uv' (k + 1) (vs ++ [x])) (hx : IntsO wr x b) : SSt W wr' P A S M C n pv sv cvs uv' (vs ++ [x]) (k + 1) (dn ++ [b]) := by
  obtain ⟨cl, hm⟩ := h.box.hM
  have hb : Below W.heap.size wr wr' := below_app (Below.refl _ wr) h.own (Nat.le_refl _) h.box.pre.bel.size hg
  have hke : KeepE 24 wr wr' := (KeepE.alloc 24 wr o).trans (KeepE.grown (h.own.alloc o) hg)
  have hB := h.box.pre.bel.trans hb
  exact ⟨⟨⟨(hke P _ _ _ h.box.pre.hP (by decide)).trans h.box.pre.hP, (hke A _ _ _ h.box.pre.hA (by decide)).trans h.box.pre.hA, h.box.pre.sA, hB⟩, (hke S _ _ _ h.box.hS (by decide)).trans h.box.hS, ⟨cl, map_grown (h.own.alloc o) hg ((alloc_old _ _ (Array.getElem?_eq_some_iff.1 hm).1).trans hm)⟩, h.box.cst.keep hke (by decide) (by decide) hB, h.box.nAS, h.box.sS, h.box.sM⟩, ho, (h.rows.keep hke (by decide)).snoc (own_keep hx hke (by decide))⟩
theorem keep_set {w : World} {S : Nat} {sv : Array Value} {e : TypeId} (h : w.heap[S]? = some (.cells sv e (0, 0))) (j : Nat) (x : Value) : KeepE e w (w.setCell ⟨S, j, none⟩ x) := fun k cur e1 fz hk he => Below.heap_setCell _ _ _ k (fun e => by subst e; rw [h] at hk; cases hk; exact he rfl)
theorem SSt.set {W wr : World} {P A S M C n k j : Nat} {pv sv : Array Value} {cvs vs : List Value} {uv x : Value} {dn : List (List Int)} (h : SSt W wr P A S M C n pv sv cvs uv vs k dn) : SSt W (wr.setCell ⟨S, j, none⟩ x) P A S M C n pv (sv.setIfInBounds j x) cvs uv vs k dn := by
  obtain ⟨cl, hm⟩ := h.box.hM
  have hke : KeepE 94 wr (wr.setCell ⟨S, j, none⟩ x) := keep_set h.box.hS j x
  have hB := h.box.pre.bel.setCell (p := ⟨S, j, none⟩) h.box.sS x
  exact ⟨⟨⟨(hke P _ _ _ h.box.pre.hP (by decide)).trans h.box.pre.hP, (Below.heap_setCell _ _ _ A h.box.nAS).trans h.box.pre.hA, h.box.pre.sA, hB⟩, set_any h.box.hS j x, ⟨cl, (Below.heap_setCell _ _ _ M (fun e => by have e' : M = S := e; rw [e', h.box.hS] at hm; cases hm)).trans hm⟩, h.box.cst.keep hke (by decide) (by decide) hB, h.box.nAS, h.box.sS, h.box.sM⟩, own_keep h.own hke (by decide), h.rows.keep hke (by decide)⟩
/-- What the search lies on when it is answered. -/
theorem SSt.fin {W wr wr' : World} {us : List UnitM} {need spare : List Int} {P A S M C n c : Nat} {pv sv : Array Value} {cvs vs : List Value} {lv uv : Value} (h : SSt W wr P A S M C us.length pv sv cvs uv vs need.length (runsL us need spare)) (hn : n = 2 ^ us.length) (hu : UnitsAt W lv us) (hk : KeepE 94 wr wr') (hm : wr'.heap[M]? = wr.heap[M]?) (hb : Below W.heap.size W wr') : Srch wr' us need spare lv (.slice (some ⟨C, 0, none⟩) n c) uv M := by
  obtain ⟨cl, hm0⟩ := h.box.hM
  subst hn
  refine ⟨hu.below hb (Nat.le_refl _), (h.box.cst.keep hk (by decide) (by decide) hb).signs, NumsO.at' ?_ (h.rows.keep hk (by decide)), #[], cl, hm.trans hm0, ?_⟩
  · rw [runsL_len]
    exact own_base (own_keep h.own hk (by decide)) (Nat.zero_le _)
  · intro x hx
    cases hx
end Go.Proofs.Ytlbeecjkfakkpag
namespace Go.Proofs.Ytlbeecjkfakkpag
open Go.RowKit Go.Shelf Go.ChangeMaps

structure SZ (W w : World) (A S : Nat) : Prop where
  h : w.heap[S]? = some (.cells zero7 94 (0, 0))
  ne : A ≠ S
  s : W.heap.size ≤ S
theorem SZ.more {W w w' : World} {A S : Nat} (h : SZ W w A S) (hb : Below w.heap.size w w') : SZ W w' A S := ⟨(hb.block S (Array.getElem?_eq_some_iff.1 h.h).1).trans h.h, h.ne, h.s⟩
structure MZ (W w : World) (M : Nat) : Prop where
  h : w.heap[M]? = some (.map #[] 0)
  s : W.heap.size ≤ M
theorem MZ.more {W w w' : World} {M : Nat} (h : MZ W w M) (hb : Below w.heap.size w w') : MZ W w' M := ⟨(hb.block M (Array.getElem?_eq_some_iff.1 h.h).1).trans h.h, h.s⟩
theorem below_al (w : World) (o : Obj) : Below w.heap.size w (w.alloc o) := (Below.refl _ w).alloc (Nat.le_refl _) o
theorem SPre.newS {W w : World} {P A : Nat} {pv : Array Value} (h : SPre W w P A pv) : SZ W (w.alloc (.cells zero7 94)) A w.heap.size :=
  ⟨alloc_new _ _, by have := (Array.getElem?_eq_some_iff.1 h.hA).1; omega, h.bel.size⟩
theorem SPre.newM {W w : World} {P A : Nat} {pv : Array Value} (h : SPre W w P A pv) : MZ W (w.alloc (.map #[] 0)) w.heap.size :=
  ⟨alloc_new _ _, h.bel.size⟩
theorem SPre.c {W w : World} {P A : Nat} {a b c d : Value} (h : SPre W w P A #[a, b, c, d]) : w.cell? ⟨P, 0, none⟩ = some a ∧ w.cell? ⟨P, 1, none⟩ = some b ∧ w.cell? ⟨P, 2, none⟩ = some c ∧ w.cell? ⟨P, 3, none⟩ = some d := by
  refine ⟨?_, ?_, ?_, ?_⟩ <;> simp [World.cell?, h.hP]
theorem box_make {W w : World} {P A S M C n : Nat} {pv : Array Value} {cvs : List Value} (hpr : SPre W w P A pv) (hsz : SZ W w A S) (hmz : MZ W w M) (hcs : CSt W w C n (2 ^ n) cvs) (x0 x1 x2 x3 x4 x5 x6 : Value) : SBox W (((((((w.setCell ⟨S, 0, none⟩ x0).setCell ⟨S, 1, none⟩ x1).setCell ⟨S, 2, none⟩ x2).setCell ⟨S, 3, none⟩ x3).setCell ⟨S, 4, none⟩ x4).setCell ⟨S, 5, none⟩ x5).setCell ⟨S, 6, none⟩ x6) P A S M C n pv #[x0, x1, x2, x3, x4, x5, x6] cvs := by
  have hs : ∀ j, j ≠ S → (((((((w.setCell ⟨S, 0, none⟩ x0).setCell ⟨S, 1, none⟩ x1).setCell ⟨S, 2, none⟩ x2).setCell ⟨S, 3, none⟩ x3).setCell ⟨S, 4, none⟩ x4).setCell ⟨S, 5, none⟩ x5).setCell ⟨S, 6, none⟩ x6).heap[j]? = w.heap[j]? := fun j hj => by
    rw [Below.heap_setCell _ _ _ j hj, Below.heap_setCell _ _ _ j hj, Below.heap_setCell _ _ _ j hj, Below.heap_setCell _ _ _ j hj, Below.heap_setCell _ _ _ j hj, Below.heap_setCell _ _ _ j hj, Below.heap_setCell _ _ _ j hj]
  have hke : KeepE 94 w (((((((w.setCell ⟨S, 0, none⟩ x0).setCell ⟨S, 1, none⟩ x1).setCell ⟨S, 2, none⟩ x2).setCell ⟨S, 3, none⟩ x3).setCell ⟨S, 4, none⟩ x4).setCell ⟨S, 5, none⟩ x5).setCell ⟨S, 6, none⟩ x6) := fun j cur e1 fz hj he => hs j (fun e => by subst e; rw [hsz.h] at hj; cases hj; exact he rfl)
  have hB : Below W.heap.size W (((((((w.setCell ⟨S, 0, none⟩ x0).setCell ⟨S, 1, none⟩ x1).setCell ⟨S, 2, none⟩ x2).setCell ⟨S, 3, none⟩ x3).setCell ⟨S, 4, none⟩ x4).setCell ⟨S, 5, none⟩ x5).setCell ⟨S, 6, none⟩ x6) := ((((((hpr.bel.setCell (p := ⟨S, 0, none⟩) hsz.s _).setCell (p := ⟨S, 1, none⟩) hsz.s _).setCell (p := ⟨S, 2, none⟩) hsz.s _).setCell (p := ⟨S, 3, none⟩) hsz.s _).setCell (p := ⟨S, 4, none⟩) hsz.s _).setCell (p := ⟨S, 5, none⟩) hsz.s _).setCell (p := ⟨S, 6, none⟩) hsz.s _
  exact ⟨⟨(hke P _ _ _ hpr.hP (by decide)).trans hpr.hP, (hs A hsz.ne).trans hpr.hA, hpr.sA, hB⟩, (set_any (set_any (set_any (set_any (set_any (set_any (set_any hsz.h 0 _) 1 _) 2 _) 3 _) 4 _) 5 _) 6 _).trans rfl, ⟨0, (hs M (fun e => by have h1 := hmz.h; rw [e, hsz.h] at h1; cases h1)).trans hmz.h⟩, hcs.keep hke (by decide) (by decide) hB, hsz.ne, hsz.s, hmz.s⟩
attribute [local go_sem] run_makeMap_plain Oper.semAt_some
/-- A letter for a world. -/
theorem wpAnyT_letter {P : Program} {md : Region.Mode} {ops : Array Oper} {Q : Exit → Act → World → Prop} {S : World → Prop} {tl fuel : Nat} {listed : Array Bool} {a : Act} {w : World} (R : World → Prop) (h : R w) (k : ∀ w', R w' → wpAnyT P md ops Q S tl fuel listed a w') : wpAnyT P md ops Q S tl fuel listed a w := k w h
theorem Try.info24 : (Try.prog.info? 24).map (fun i => (i.zero, i.size, i.bytes)) = some (some (.slice none 0 0), 1, 24) := by kernel_rfl
set_option maxRecDepth 100000 in
set_option maxHeartbeats 1000000 in
theorem search_any (us : List UnitM) (need spare : List Int) (hp : Plan us need spare) : SearchGood us need spare := by
  intro d lv ar an as' cr cn cs W hx hr hd hn hs
  obtain ⟨i24, hi24, h240, h241, h242⟩ := info_parts Try.info24
  obtain ⟨i3, hi3, h30, h31, h32⟩ := info_parts Try.info3
  obtain ⟨ag, cg, rfl⟩ := rowAt_slice hx
  have HG := hide' hx
  have HR := hide' hr
  have HD := hide' hd
  have HN := hide' hn
  have HS := hide' hs
  have HP := hide' hp
  have h4 := hp.h4
  have h8 := hp.h8
  obtain ⟨pw, hpwe⟩ : ∃ p, p = 2 ^ us.length := ⟨_, rfl⟩
  have HPW := hide' hpwe
  have hpw16 : pw ≤ 16 := by rw [hpwe]; exact pow16' hp.h4
  clear hx hr hd hn hs hp hpwe
  go_enter Try.func53, Try.ntmps53
  go_upto_region 1 with fail
  have HPR0 : Hid (SPre W ((W.alloc (.cells #[.slice ag us.length cg, .slice ar us.length cr, .slice an need.length cn, .slice as' need.length cs] 64)).alloc (.cells #[.slice none 0 0, .slice none 0 0, .slice none 0 0, .slice none 0 0, .slice none 0 0, .slice none 0 0, .map none] 94)) W.heap.size (W.heap.size + 1) #[.slice ag us.length cg, .slice ar us.length cr, .slice an need.length cn, .slice as' need.length cs]) := by
    have h2 := alloc_new (W.alloc (.cells #[.slice ag us.length cg, .slice ar us.length cr, .slice an need.length cn, .slice as' need.length cs] 64)) (.cells #[.slice none 0 0, .slice none 0 0, .slice none 0 0, .slice none 0 0, .slice none 0 0, .slice none 0 0, .map none] 94)
    rw [World.size_alloc] at h2
    exact ⟨(alloc_old _ _ (by simp)).trans (alloc_new _ _), h2, by omega, ((Below.refl _ W).alloc (Nat.le_refl _) _).alloc (by simp) _⟩
  obtain ⟨A, hA⟩ : ∃ A, A = W.heap.size + 1 := ⟨_, rfl⟩
  rw [← hA] at HPR0 ⊢
  obtain ⟨P, hP⟩ : ∃ P, P = W.heap.size := ⟨_, rfl⟩
  obtain ⟨W2, hW2⟩ : ∃ W2, W2 = (W.alloc (.cells #[.slice ag us.length cg, .slice ar us.length cr, .slice an need.length cn, .slice as' need.length cs] 64)).alloc (.cells #[.slice none 0 0, .slice none 0 0, .slice none 0 0, .slice none 0 0, .slice none 0 0, .slice none 0 0, .map none] 94) := ⟨_, rfl⟩
  rw [← hW2] at HPR0 ⊢
  have HPR : Hid (SPre W W2 P A #[.slice ag us.length cg, .slice ar us.length cr, .slice an need.length cn, .slice as' need.length cs]) := by rw [hP]; exact HPR0
  rw [show (Value.pointer (some { block := W.heap.size, off := 0 })) = Value.pointer (some { block := P, off := 0 }) by rw [hP]]
  clear hA hP hW2 HPR0
  go_cut [1, 2, 3] from 10 to 17 (fun p1 p2 p3 wc => ∃ (S M C cc : Nat) (cvs : List Value), p1 = .pointer (some ⟨P, 0, none⟩) ∧ p2 = .pointer (some ⟨A, 0, none⟩) ∧ p3 = .pointer (some ⟨S, 0, none⟩) ∧ Hid (SBox W wc P A S M C us.length #[.slice ag us.length cg, .slice ar us.length cr, .slice an need.length cn, .slice as' need.length cs] #[.slice ag us.length cg, .slice ar us.length cr, .slice an need.length cn, .slice as' need.length cs, .slice (some ⟨C, 0, none⟩) pw cc, .slice none 0 0, .map (some M)] cvs))
  case first =>
    have d0 : W2.cell? ⟨P, 0, none⟩ = some (.slice ag us.length cg) := by simp [World.cell?, HPR.out.hP]
    have d1 : W2.cell? ⟨P, 1, none⟩ = some (.slice ar us.length cr) := by simp [World.cell?, HPR.out.hP]
    have d2 : W2.cell? ⟨P, 2, none⟩ = some (.slice an need.length cn) := by simp [World.cell?, HPR.out.hP]
    have d3 : W2.cell? ⟨P, 3, none⟩ = some (.slice as' need.length cs) := by simp [World.cell?, HPR.out.hP]
    go_wp2_with fail
    refine wp_region_tail (fun W => W.cell? ⟨P, 0, none⟩ = some (.slice ag us.length cg) ∧ W.cell? ⟨P, 1, none⟩ = some (.slice ar us.length cr) ∧ W.cell? ⟨P, 2, none⟩ = some (.slice an need.length cn) ∧ W.cell? ⟨P, 3, none⟩ = some (.slice as' need.length cs)) 9 (by kernel_rfl) ?_
    refine wpAnyD_takeAt 0 (some 10) (v := ?_) rfl (by kernel_rfl) (by kernel_rfl) (by kernel_rfl) (by kernel_rfl) (by kernel_rfl) (fun _ _ _ h => h) (by exact ⟨d0, d1, d2, d3⟩) (fun o hop => ?_) ?_
    rotate_left
    · injection hop with hop
      subst hop
      refine ⟨rfl, fun W hW => ?_⟩
      obtain ⟨s0, s1, s2, s3⟩ := hW
      go_simp
      first
      | rfl
      | rw [if_neg (by omega)]
    try simp only [Act.put, List.setIfInBounds_toArray, List.set_cons_zero, List.set_cons_succ]
    refine wpAnyD_takeAt 1 (some 11) (v := ?_) rfl (by kernel_rfl) (by kernel_rfl) (by kernel_rfl) (by kernel_rfl) (by kernel_rfl) (fun _ _ _ h => h) (by exact ⟨d0, d1, d2, d3⟩) (fun o hop => ?_) ?_
    rotate_left
    · injection hop with hop
      subst hop
      refine ⟨rfl, fun W hW => ?_⟩
      obtain ⟨s0, s1, s2, s3⟩ := hW
      go_simp
      first
      | rfl
      | rw [if_neg (by omega)]
    try simp only [Act.put, List.setIfInBounds_toArray, List.set_cons_zero, List.set_cons_succ]
    refine wpAnyD_takeAt 2 (some 12) (v := ?_) rfl (by kernel_rfl) (by kernel_rfl) (by kernel_rfl) (by kernel_rfl) (by kernel_rfl) (fun _ _ _ h => h) (by exact ⟨d0, d1, d2, d3⟩) (fun o hop => ?_) ?_
    rotate_left
    · injection hop with hop
      subst hop
      refine ⟨rfl, fun W hW => ?_⟩
      obtain ⟨s0, s1, s2, s3⟩ := hW
      go_simp
      first
      | rfl
      | rw [if_neg (by omega)]
    try simp only [Act.put, List.setIfInBounds_toArray, List.set_cons_zero, List.set_cons_succ]
    refine wpAnyD_takeAt 3 (some 13) (v := ?_) rfl (by kernel_rfl) (by kernel_rfl) (by kernel_rfl) (by kernel_rfl) (by kernel_rfl) (fun _ _ _ h => h) (by exact ⟨d0, d1, d2, d3⟩) (fun o hop => ?_) ?_
    rotate_left
    · injection hop with hop
      subst hop
      refine ⟨rfl, fun W hW => ?_⟩
      obtain ⟨s0, s1, s2, s3⟩ := hW
      go_simp
      first
      | rfl
      | rw [if_neg (by omega)]
    try simp only [Act.put, List.setIfInBounds_toArray, List.set_cons_zero, List.set_cons_succ]
    refine wpAnyD_takeAt 4 (some 14) (v := ?_) rfl (by kernel_rfl) (by kernel_rfl) (by kernel_rfl) (by kernel_rfl) (by kernel_rfl) (fun _ _ _ h => h) (by exact ⟨d0, d1, d2, d3⟩) (fun o hop => ?_) ?_
    rotate_left
    · injection hop with hop
      subst hop
      refine ⟨rfl, fun W hW => ?_⟩
      obtain ⟨s0, s1, s2, s3⟩ := hW
      go_simp
      first
      | rfl
      | rw [if_neg (by omega)]
    try simp only [Act.put, List.setIfInBounds_toArray, List.set_cons_zero, List.set_cons_succ]
    refine wpAnyT_letter (fun w => SPre W w P A #[.slice ag us.length cg, .slice ar us.length cr, .slice an need.length cn, .slice as' need.length cs]) (by exact HPR.out.more (Below.refl _ W2).drew) ?_
    clear d0 d1 d2 d3 HPR W2
    rintro w0 hpr
    refine wpAnyT_three (i := 5) (j := 6) (k := 8) (by kernel_rfl) rfl rfl rfl rfl rfl rfl (fun K' hK => ?_) (fun K' hK => ?_) (fun K' hK => ?_)
    · go_simp
      go_at_call 60
      refine (choices_own us.length _ h4).mono ?_
      rintro e w1 ⟨C, cc, cvs, rfl, hcs⟩
      have hb5 : Below w0.heap.size w0 w1 := hcs.bel
      replace hcs := hcs.base hpr.bel
      replace hpr := hpr.more hb5
      clear hb5
      rw [← HPW.out]
      refine hK.out _ _ (fun _ => by exact hpr.c) ?_
      clear hK K'
      refine wpAnyT_two (i := 6) (j := 8) (by kernel_rfl) rfl rfl rfl rfl (fun K' hK => ?_) (fun K' hK => ?_)
      · go_simp
        refine hK.out _ _ (fun _ => by exact (hpr.more (below_al _ _)).c) ?_
        clear hK K'
        obtain ⟨M, hM⟩ : ∃ x, x = w1.heap.size := ⟨_, rfl⟩
        rw [← hM]
        refine wpAnyT_letter (fun w => SPre W w P A #[.slice ag us.length cg, .slice ar us.length cr, .slice an need.length cn, .slice as' need.length cs] ∧ CSt W w C us.length (2 ^ us.length) cvs ∧ MZ W w M) ⟨hpr.more (below_al _ _), hcs.more (below_al _ _), (by rw [hM]; exact hpr.newM)⟩ ?_
        clear hpr hcs hM
        rintro w2 ⟨hpr, hcs, hmz⟩
        refine wpAnyD_takeAt 7 (some 17) (v := ?_) rfl (by kernel_rfl) (by kernel_rfl) (by kernel_rfl) (by kernel_rfl) (by kernel_rfl) (fun _ _ _ h => h) (by exact hpr.c) (fun o hop => ?_) ?_
        rotate_left
        · injection hop with hop
          subst hop
          refine ⟨rfl, fun W hW => ?_⟩
          go_simp
          rfl
        try simp only [Act.put, List.setIfInBounds_toArray, List.set_cons_zero, List.set_cons_succ]
        refine wpAnyT_one (i := 8) (by kernel_rfl) rfl rfl (fun K' hK => ?_)
        go_simp
        refine hK.out _ _ (fun _ => by exact (hpr.more (below_al _ _)).c) ?_
        clear hK K'
        obtain ⟨S, hS⟩ : ∃ x, x = w2.heap.size := ⟨_, rfl⟩
        rw [← hS]
        refine wpAnyT_letter (fun w => SPre W w P A #[.slice ag us.length cg, .slice ar us.length cr, .slice an need.length cn, .slice as' need.length cs] ∧ MZ W w M ∧ CSt W w C us.length (2 ^ us.length) cvs ∧ SZ W w A S) ⟨hpr.more (below_al _ _), hmz.more (below_al _ _), hcs.more (below_al _ _), (by rw [hS]; exact hpr.newS)⟩ ?_
        clear hpr hmz hcs hS
        rintro w3 ⟨hpr, hmz, hcs, hsz⟩
        have z0 : w3.cell? ⟨S, 0, none⟩ = some (.slice none 0 0) := by simp [World.cell?, hsz.h, zero7]
        have y0 : w3.frozen? ⟨S, 0, none⟩ = false := frozen_no hsz.h _
        have z1 : w3.cell? ⟨S, 1, none⟩ = some (.slice none 0 0) := by simp [World.cell?, hsz.h, zero7]
        have y1 : w3.frozen? ⟨S, 1, none⟩ = false := frozen_no hsz.h _
        have z2 : w3.cell? ⟨S, 2, none⟩ = some (.slice none 0 0) := by simp [World.cell?, hsz.h, zero7]
        have y2 : w3.frozen? ⟨S, 2, none⟩ = false := frozen_no hsz.h _
        have z3 : w3.cell? ⟨S, 3, none⟩ = some (.slice none 0 0) := by simp [World.cell?, hsz.h, zero7]
        have y3 : w3.frozen? ⟨S, 3, none⟩ = false := frozen_no hsz.h _
        have z4 : w3.cell? ⟨S, 4, none⟩ = some (.slice none 0 0) := by simp [World.cell?, hsz.h, zero7]
        have y4 : w3.frozen? ⟨S, 4, none⟩ = false := frozen_no hsz.h _
        have z5 : w3.cell? ⟨S, 5, none⟩ = some (.slice none 0 0) := by simp [World.cell?, hsz.h, zero7]
        have y5 : w3.frozen? ⟨S, 5, none⟩ = false := frozen_no hsz.h _
        have z6 : w3.cell? ⟨S, 6, none⟩ = some (.map none) := by simp [World.cell?, hsz.h, zero7]
        have y6 : w3.frozen? ⟨S, 6, none⟩ = false := frozen_no hsz.h _
        refine wpAnyT_one (i := 9) (by kernel_rfl) rfl rfl (fun K' hK => ?_)
        go_simp
        refine hK.out _ _ (fun h => absurd rfl h) ?_
        clear hK K'
        refine wpAnyT_done (by kernel_rfl) ?_ _
        have HFIN := hide' (box_make hpr hsz hmz hcs (.slice ag us.length cg) (.slice ar us.length cr) (.slice an need.length cn) (.slice as' need.length cs) (.slice (some ⟨C, 0, none⟩) pw cc) (.slice none 0 0) (.map (some M)))
        clear z0 y0 z1 y1 z2 y2 z3 y3 z4 y4 z5 y5 z6 y6 hpr hsz hmz hcs
        go_wp2_with fail
        go_meet
        case rel => exact ⟨S, M, C, cc, cvs, rfl, rfl, rfl, HFIN⟩
      · go_simp
        refine hK.out _ _ (fun _ => by exact (hpr.more (below_al _ _)).c) ?_
        clear hK K'
        obtain ⟨S, hS⟩ : ∃ x, x = w1.heap.size := ⟨_, rfl⟩
        rw [← hS]
        refine wpAnyT_letter (fun w => SPre W w P A #[.slice ag us.length cg, .slice ar us.length cr, .slice an need.length cn, .slice as' need.length cs] ∧ CSt W w C us.length (2 ^ us.length) cvs ∧ SZ W w A S) ⟨hpr.more (below_al _ _), hcs.more (below_al _ _), (by rw [hS]; exact hpr.newS)⟩ ?_
        clear hpr hcs hS
        rintro w4 ⟨hpr, hcs, hsz⟩
        refine wpAnyT_one (i := 6) (by kernel_rfl) rfl rfl (fun K' hK => ?_)
        go_simp
        refine hK.out _ _ (fun _ => by exact (hpr.more (below_al _ _)).c) ?_
        clear hK K'
        obtain ⟨M, hM⟩ : ∃ x, x = w4.heap.size := ⟨_, rfl⟩
        rw [← hM]
        refine wpAnyT_letter (fun w => SPre W w P A #[.slice ag us.length cg, .slice ar us.length cr, .slice an need.length cn, .slice as' need.length cs] ∧ SZ W w A S ∧ CSt W w C us.length (2 ^ us.length) cvs ∧ MZ W w M) ⟨hpr.more (below_al _ _), hsz.more (below_al _ _), hcs.more (below_al _ _), (by rw [hM]; exact hpr.newM)⟩ ?_
        clear hpr hsz hcs hM
        rintro w5 ⟨hpr, hsz, hcs, hmz⟩
        refine wpAnyD_takeAt 7 (some 17) (v := ?_) rfl (by kernel_rfl) (by kernel_rfl) (by kernel_rfl) (by kernel_rfl) (by kernel_rfl) (fun _ _ _ h => h) (by exact hpr.c) (fun o hop => ?_) ?_
        rotate_left
        · injection hop with hop
          subst hop
          refine ⟨rfl, fun W hW => ?_⟩
          go_simp
          rfl
        try simp only [Act.put, List.setIfInBounds_toArray, List.set_cons_zero, List.set_cons_succ]
        have z0 : w5.cell? ⟨S, 0, none⟩ = some (.slice none 0 0) := by simp [World.cell?, hsz.h, zero7]
        have y0 : w5.frozen? ⟨S, 0, none⟩ = false := frozen_no hsz.h _
        have z1 : w5.cell? ⟨S, 1, none⟩ = some (.slice none 0 0) := by simp [World.cell?, hsz.h, zero7]
        have y1 : w5.frozen? ⟨S, 1, none⟩ = false := frozen_no hsz.h _
        have z2 : w5.cell? ⟨S, 2, none⟩ = some (.slice none 0 0) := by simp [World.cell?, hsz.h, zero7]
        have y2 : w5.frozen? ⟨S, 2, none⟩ = false := frozen_no hsz.h _
        have z3 : w5.cell? ⟨S, 3, none⟩ = some (.slice none 0 0) := by simp [World.cell?, hsz.h, zero7]
        have y3 : w5.frozen? ⟨S, 3, none⟩ = false := frozen_no hsz.h _
        have z4 : w5.cell? ⟨S, 4, none⟩ = some (.slice none 0 0) := by simp [World.cell?, hsz.h, zero7]
        have y4 : w5.frozen? ⟨S, 4, none⟩ = false := frozen_no hsz.h _
        have z5 : w5.cell? ⟨S, 5, none⟩ = some (.slice none 0 0) := by simp [World.cell?, hsz.h, zero7]
        have y5 : w5.frozen? ⟨S, 5, none⟩ = false := frozen_no hsz.h _
        have z6 : w5.cell? ⟨S, 6, none⟩ = some (.map none) := by simp [World.cell?, hsz.h, zero7]
        have y6 : w5.frozen? ⟨S, 6, none⟩ = false := frozen_no hsz.h _
        refine wpAnyT_one (i := 9) (by kernel_rfl) rfl rfl (fun K' hK => ?_)
        go_simp
        refine hK.out _ _ (fun h => absurd rfl h) ?_
        clear hK K'
        refine wpAnyT_done (by kernel_rfl) ?_ _
        have HFIN := hide' (box_make hpr hsz hmz hcs (.slice ag us.length cg) (.slice ar us.length cr) (.slice an need.length cn) (.slice as' need.length cs) (.slice (some ⟨C, 0, none⟩) pw cc) (.slice none 0 0) (.map (some M)))
        clear z0 y0 z1 y1 z2 y2 z3 y3 z4 y4 z5 y5 z6 y6 hpr hsz hmz hcs
        go_wp2_with fail
        go_meet
        case rel => exact ⟨S, M, C, cc, cvs, rfl, rfl, rfl, HFIN⟩
    · go_simp
      refine hK.out _ _ (fun _ => by exact (hpr.more (below_al _ _)).c) ?_
      clear hK K'
      obtain ⟨M, hM⟩ : ∃ x, x = w0.heap.size := ⟨_, rfl⟩
      rw [← hM]
      refine wpAnyT_letter (fun w => SPre W w P A #[.slice ag us.length cg, .slice ar us.length cr, .slice an need.length cn, .slice as' need.length cs] ∧ MZ W w M) ⟨hpr.more (below_al _ _), (by rw [hM]; exact hpr.newM)⟩ ?_
      clear hpr hM
      rintro w6 ⟨hpr, hmz⟩
      refine wpAnyT_two (i := 5) (j := 8) (by kernel_rfl) rfl rfl rfl rfl (fun K' hK => ?_) (fun K' hK => ?_)
      · go_simp
        go_at_call 60
        refine (choices_own us.length _ h4).mono ?_
        rintro e w7 ⟨C, cc, cvs, rfl, hcs⟩
        have hb5 : Below w6.heap.size w6 w7 := hcs.bel
        replace hcs := hcs.base hpr.bel
        replace hpr := hpr.more hb5
        replace hmz := hmz.more hb5
        clear hb5
        rw [← HPW.out]
        refine hK.out _ _ (fun _ => by exact hpr.c) ?_
        clear hK K'
        refine wpAnyD_takeAt 7 (some 17) (v := ?_) rfl (by kernel_rfl) (by kernel_rfl) (by kernel_rfl) (by kernel_rfl) (by kernel_rfl) (fun _ _ _ h => h) (by exact hpr.c) (fun o hop => ?_) ?_
        rotate_left
        · injection hop with hop
          subst hop
          refine ⟨rfl, fun W hW => ?_⟩
          go_simp
          rfl
        try simp only [Act.put, List.setIfInBounds_toArray, List.set_cons_zero, List.set_cons_succ]
        refine wpAnyT_one (i := 8) (by kernel_rfl) rfl rfl (fun K' hK => ?_)
        go_simp
        refine hK.out _ _ (fun _ => by exact (hpr.more (below_al _ _)).c) ?_
        clear hK K'
        obtain ⟨S, hS⟩ : ∃ x, x = w7.heap.size := ⟨_, rfl⟩
        rw [← hS]
        refine wpAnyT_letter (fun w => SPre W w P A #[.slice ag us.length cg, .slice ar us.length cr, .slice an need.length cn, .slice as' need.length cs] ∧ MZ W w M ∧ CSt W w C us.length (2 ^ us.length) cvs ∧ SZ W w A S) ⟨hpr.more (below_al _ _), hmz.more (below_al _ _), hcs.more (below_al _ _), (by rw [hS]; exact hpr.newS)⟩ ?_
        clear hpr hmz hcs hS
        rintro w8 ⟨hpr, hmz, hcs, hsz⟩
        have z0 : w8.cell? ⟨S, 0, none⟩ = some (.slice none 0 0) := by simp [World.cell?, hsz.h, zero7]
        have y0 : w8.frozen? ⟨S, 0, none⟩ = false := frozen_no hsz.h _
        have z1 : w8.cell? ⟨S, 1, none⟩ = some (.slice none 0 0) := by simp [World.cell?, hsz.h, zero7]
        have y1 : w8.frozen? ⟨S, 1, none⟩ = false := frozen_no hsz.h _
        have z2 : w8.cell? ⟨S, 2, none⟩ = some (.slice none 0 0) := by simp [World.cell?, hsz.h, zero7]
        have y2 : w8.frozen? ⟨S, 2, none⟩ = false := frozen_no hsz.h _
        have z3 : w8.cell? ⟨S, 3, none⟩ = some (.slice none 0 0) := by simp [World.cell?, hsz.h, zero7]
        have y3 : w8.frozen? ⟨S, 3, none⟩ = false := frozen_no hsz.h _
        have z4 : w8.cell? ⟨S, 4, none⟩ = some (.slice none 0 0) := by simp [World.cell?, hsz.h, zero7]
        have y4 : w8.frozen? ⟨S, 4, none⟩ = false := frozen_no hsz.h _
        have z5 : w8.cell? ⟨S, 5, none⟩ = some (.slice none 0 0) := by simp [World.cell?, hsz.h, zero7]
        have y5 : w8.frozen? ⟨S, 5, none⟩ = false := frozen_no hsz.h _
        have z6 : w8.cell? ⟨S, 6, none⟩ = some (.map none) := by simp [World.cell?, hsz.h, zero7]
        have y6 : w8.frozen? ⟨S, 6, none⟩ = false := frozen_no hsz.h _
        refine wpAnyT_one (i := 9) (by kernel_rfl) rfl rfl (fun K' hK => ?_)
        go_simp
        refine hK.out _ _ (fun h => absurd rfl h) ?_
        clear hK K'
        refine wpAnyT_done (by kernel_rfl) ?_ _
        have HFIN := hide' (box_make hpr hsz hmz hcs (.slice ag us.length cg) (.slice ar us.length cr) (.slice an need.length cn) (.slice as' need.length cs) (.slice (some ⟨C, 0, none⟩) pw cc) (.slice none 0 0) (.map (some M)))
        clear z0 y0 z1 y1 z2 y2 z3 y3 z4 y4 z5 y5 z6 y6 hpr hsz hmz hcs
        go_wp2_with fail
        go_meet
        case rel => exact ⟨S, M, C, cc, cvs, rfl, rfl, rfl, HFIN⟩
      · go_simp
        refine hK.out _ _ (fun _ => by exact (hpr.more (below_al _ _)).c) ?_
        clear hK K'
        obtain ⟨S, hS⟩ : ∃ x, x = w6.heap.size := ⟨_, rfl⟩
        rw [← hS]
        refine wpAnyT_letter (fun w => SPre W w P A #[.slice ag us.length cg, .slice ar us.length cr, .slice an need.length cn, .slice as' need.length cs] ∧ MZ W w M ∧ SZ W w A S) ⟨hpr.more (below_al _ _), hmz.more (below_al _ _), (by rw [hS]; exact hpr.newS)⟩ ?_
        clear hpr hmz hS
        rintro w9 ⟨hpr, hmz, hsz⟩
        refine wpAnyT_one (i := 5) (by kernel_rfl) rfl rfl (fun K' hK => ?_)
        go_simp
        go_at_call 60
        refine (choices_own us.length _ h4).mono ?_
        rintro e w10 ⟨C, cc, cvs, rfl, hcs⟩
        have hb5 : Below w9.heap.size w9 w10 := hcs.bel
        replace hcs := hcs.base hpr.bel
        replace hpr := hpr.more hb5
        replace hsz := hsz.more hb5
        replace hmz := hmz.more hb5
        clear hb5
        rw [← HPW.out]
        refine hK.out _ _ (fun _ => by exact hpr.c) ?_
        clear hK K'
        refine wpAnyD_takeAt 7 (some 17) (v := ?_) rfl (by kernel_rfl) (by kernel_rfl) (by kernel_rfl) (by kernel_rfl) (by kernel_rfl) (fun _ _ _ h => h) (by exact hpr.c) (fun o hop => ?_) ?_
        rotate_left
        · injection hop with hop
          subst hop
          refine ⟨rfl, fun W hW => ?_⟩
          go_simp
          rfl
        try simp only [Act.put, List.setIfInBounds_toArray, List.set_cons_zero, List.set_cons_succ]
        have z0 : w10.cell? ⟨S, 0, none⟩ = some (.slice none 0 0) := by simp [World.cell?, hsz.h, zero7]
        have y0 : w10.frozen? ⟨S, 0, none⟩ = false := frozen_no hsz.h _
        have z1 : w10.cell? ⟨S, 1, none⟩ = some (.slice none 0 0) := by simp [World.cell?, hsz.h, zero7]
        have y1 : w10.frozen? ⟨S, 1, none⟩ = false := frozen_no hsz.h _
        have z2 : w10.cell? ⟨S, 2, none⟩ = some (.slice none 0 0) := by simp [World.cell?, hsz.h, zero7]
        have y2 : w10.frozen? ⟨S, 2, none⟩ = false := frozen_no hsz.h _
        have z3 : w10.cell? ⟨S, 3, none⟩ = some (.slice none 0 0) := by simp [World.cell?, hsz.h, zero7]
        have y3 : w10.frozen? ⟨S, 3, none⟩ = false := frozen_no hsz.h _
        have z4 : w10.cell? ⟨S, 4, none⟩ = some (.slice none 0 0) := by simp [World.cell?, hsz.h, zero7]
        have y4 : w10.frozen? ⟨S, 4, none⟩ = false := frozen_no hsz.h _
        have z5 : w10.cell? ⟨S, 5, none⟩ = some (.slice none 0 0) := by simp [World.cell?, hsz.h, zero7]
        have y5 : w10.frozen? ⟨S, 5, none⟩ = false := frozen_no hsz.h _
        have z6 : w10.cell? ⟨S, 6, none⟩ = some (.map none) := by simp [World.cell?, hsz.h, zero7]
        have y6 : w10.frozen? ⟨S, 6, none⟩ = false := frozen_no hsz.h _
        refine wpAnyT_one (i := 9) (by kernel_rfl) rfl rfl (fun K' hK => ?_)
        go_simp
        refine hK.out _ _ (fun h => absurd rfl h) ?_
        clear hK K'
        refine wpAnyT_done (by kernel_rfl) ?_ _
        have HFIN := hide' (box_make hpr hsz hmz hcs (.slice ag us.length cg) (.slice ar us.length cr) (.slice an need.length cn) (.slice as' need.length cs) (.slice (some ⟨C, 0, none⟩) pw cc) (.slice none 0 0) (.map (some M)))
        clear z0 y0 z1 y1 z2 y2 z3 y3 z4 y4 z5 y5 z6 y6 hpr hsz hmz hcs
        go_wp2_with fail
        go_meet
        case rel => exact ⟨S, M, C, cc, cvs, rfl, rfl, rfl, HFIN⟩
    · go_simp
      refine hK.out _ _ (fun _ => by exact (hpr.more (below_al _ _)).c) ?_
      clear hK K'
      obtain ⟨S, hS⟩ : ∃ x, x = w0.heap.size := ⟨_, rfl⟩
      rw [← hS]
      refine wpAnyT_letter (fun w => SPre W w P A #[.slice ag us.length cg, .slice ar us.length cr, .slice an need.length cn, .slice as' need.length cs] ∧ SZ W w A S) ⟨hpr.more (below_al _ _), (by rw [hS]; exact hpr.newS)⟩ ?_
      clear hpr hS
      rintro w11 ⟨hpr, hsz⟩
      refine wpAnyT_two (i := 5) (j := 6) (by kernel_rfl) rfl rfl rfl rfl (fun K' hK => ?_) (fun K' hK => ?_)
      · go_simp
        go_at_call 60
        refine (choices_own us.length _ h4).mono ?_
        rintro e w12 ⟨C, cc, cvs, rfl, hcs⟩
        have hb5 : Below w11.heap.size w11 w12 := hcs.bel
        replace hcs := hcs.base hpr.bel
        replace hpr := hpr.more hb5
        replace hsz := hsz.more hb5
        clear hb5
        rw [← HPW.out]
        refine hK.out _ _ (fun _ => by exact hpr.c) ?_
        clear hK K'
        refine wpAnyT_one (i := 6) (by kernel_rfl) rfl rfl (fun K' hK => ?_)
        go_simp
        refine hK.out _ _ (fun _ => by exact (hpr.more (below_al _ _)).c) ?_
        clear hK K'
        obtain ⟨M, hM⟩ : ∃ x, x = w12.heap.size := ⟨_, rfl⟩
        rw [← hM]
        refine wpAnyT_letter (fun w => SPre W w P A #[.slice ag us.length cg, .slice ar us.length cr, .slice an need.length cn, .slice as' need.length cs] ∧ SZ W w A S ∧ CSt W w C us.length (2 ^ us.length) cvs ∧ MZ W w M) ⟨hpr.more (below_al _ _), hsz.more (below_al _ _), hcs.more (below_al _ _), (by rw [hM]; exact hpr.newM)⟩ ?_
        clear hpr hsz hcs hM
        rintro w13 ⟨hpr, hsz, hcs, hmz⟩
        refine wpAnyD_takeAt 7 (some 17) (v := ?_) rfl (by kernel_rfl) (by kernel_rfl) (by kernel_rfl) (by kernel_rfl) (by kernel_rfl) (fun _ _ _ h => h) (by exact hpr.c) (fun o hop => ?_) ?_
        rotate_left
        · injection hop with hop
          subst hop
          refine ⟨rfl, fun W hW => ?_⟩
          go_simp
          rfl
        try simp only [Act.put, List.setIfInBounds_toArray, List.set_cons_zero, List.set_cons_succ]
        have z0 : w13.cell? ⟨S, 0, none⟩ = some (.slice none 0 0) := by simp [World.cell?, hsz.h, zero7]
        have y0 : w13.frozen? ⟨S, 0, none⟩ = false := frozen_no hsz.h _
        have z1 : w13.cell? ⟨S, 1, none⟩ = some (.slice none 0 0) := by simp [World.cell?, hsz.h, zero7]
        have y1 : w13.frozen? ⟨S, 1, none⟩ = false := frozen_no hsz.h _
        have z2 : w13.cell? ⟨S, 2, none⟩ = some (.slice none 0 0) := by simp [World.cell?, hsz.h, zero7]
        have y2 : w13.frozen? ⟨S, 2, none⟩ = false := frozen_no hsz.h _
        have z3 : w13.cell? ⟨S, 3, none⟩ = some (.slice none 0 0) := by simp [World.cell?, hsz.h, zero7]
        have y3 : w13.frozen? ⟨S, 3, none⟩ = false := frozen_no hsz.h _
        have z4 : w13.cell? ⟨S, 4, none⟩ = some (.slice none 0 0) := by simp [World.cell?, hsz.h, zero7]
        have y4 : w13.frozen? ⟨S, 4, none⟩ = false := frozen_no hsz.h _
        have z5 : w13.cell? ⟨S, 5, none⟩ = some (.slice none 0 0) := by simp [World.cell?, hsz.h, zero7]
        have y5 : w13.frozen? ⟨S, 5, none⟩ = false := frozen_no hsz.h _
        have z6 : w13.cell? ⟨S, 6, none⟩ = some (.map none) := by simp [World.cell?, hsz.h, zero7]
        have y6 : w13.frozen? ⟨S, 6, none⟩ = false := frozen_no hsz.h _
        refine wpAnyT_one (i := 9) (by kernel_rfl) rfl rfl (fun K' hK => ?_)
        go_simp
        refine hK.out _ _ (fun h => absurd rfl h) ?_
        clear hK K'
        refine wpAnyT_done (by kernel_rfl) ?_ _
        have HFIN := hide' (box_make hpr hsz hmz hcs (.slice ag us.length cg) (.slice ar us.length cr) (.slice an need.length cn) (.slice as' need.length cs) (.slice (some ⟨C, 0, none⟩) pw cc) (.slice none 0 0) (.map (some M)))
        clear z0 y0 z1 y1 z2 y2 z3 y3 z4 y4 z5 y5 z6 y6 hpr hsz hmz hcs
        go_wp2_with fail
        go_meet
        case rel => exact ⟨S, M, C, cc, cvs, rfl, rfl, rfl, HFIN⟩
      · go_simp
        refine hK.out _ _ (fun _ => by exact (hpr.more (below_al _ _)).c) ?_
        clear hK K'
        obtain ⟨M, hM⟩ : ∃ x, x = w11.heap.size := ⟨_, rfl⟩
        rw [← hM]
        refine wpAnyT_letter (fun w => SPre W w P A #[.slice ag us.length cg, .slice ar us.length cr, .slice an need.length cn, .slice as' need.length cs] ∧ SZ W w A S ∧ MZ W w M) ⟨hpr.more (below_al _ _), hsz.more (below_al _ _), (by rw [hM]; exact hpr.newM)⟩ ?_
        clear hpr hsz hM
        rintro w14 ⟨hpr, hsz, hmz⟩
        refine wpAnyT_one (i := 5) (by kernel_rfl) rfl rfl (fun K' hK => ?_)
        go_simp
        go_at_call 60
        refine (choices_own us.length _ h4).mono ?_
        rintro e w15 ⟨C, cc, cvs, rfl, hcs⟩
        have hb5 : Below w14.heap.size w14 w15 := hcs.bel
        replace hcs := hcs.base hpr.bel
        replace hpr := hpr.more hb5
        replace hsz := hsz.more hb5
        replace hmz := hmz.more hb5
        clear hb5
        rw [← HPW.out]
        refine hK.out _ _ (fun _ => by exact hpr.c) ?_
        clear hK K'
        refine wpAnyD_takeAt 7 (some 17) (v := ?_) rfl (by kernel_rfl) (by kernel_rfl) (by kernel_rfl) (by kernel_rfl) (by kernel_rfl) (fun _ _ _ h => h) (by exact hpr.c) (fun o hop => ?_) ?_
        rotate_left
        · injection hop with hop
          subst hop
          refine ⟨rfl, fun W hW => ?_⟩
          go_simp
          rfl
        try simp only [Act.put, List.setIfInBounds_toArray, List.set_cons_zero, List.set_cons_succ]
        have z0 : w15.cell? ⟨S, 0, none⟩ = some (.slice none 0 0) := by simp [World.cell?, hsz.h, zero7]
        have y0 : w15.frozen? ⟨S, 0, none⟩ = false := frozen_no hsz.h _
        have z1 : w15.cell? ⟨S, 1, none⟩ = some (.slice none 0 0) := by simp [World.cell?, hsz.h, zero7]
        have y1 : w15.frozen? ⟨S, 1, none⟩ = false := frozen_no hsz.h _
        have z2 : w15.cell? ⟨S, 2, none⟩ = some (.slice none 0 0) := by simp [World.cell?, hsz.h, zero7]
        have y2 : w15.frozen? ⟨S, 2, none⟩ = false := frozen_no hsz.h _
        have z3 : w15.cell? ⟨S, 3, none⟩ = some (.slice none 0 0) := by simp [World.cell?, hsz.h, zero7]
        have y3 : w15.frozen? ⟨S, 3, none⟩ = false := frozen_no hsz.h _
        have z4 : w15.cell? ⟨S, 4, none⟩ = some (.slice none 0 0) := by simp [World.cell?, hsz.h, zero7]
        have y4 : w15.frozen? ⟨S, 4, none⟩ = false := frozen_no hsz.h _
        have z5 : w15.cell? ⟨S, 5, none⟩ = some (.slice none 0 0) := by simp [World.cell?, hsz.h, zero7]
        have y5 : w15.frozen? ⟨S, 5, none⟩ = false := frozen_no hsz.h _
        have z6 : w15.cell? ⟨S, 6, none⟩ = some (.map none) := by simp [World.cell?, hsz.h, zero7]
        have y6 : w15.frozen? ⟨S, 6, none⟩ = false := frozen_no hsz.h _
        refine wpAnyT_one (i := 9) (by kernel_rfl) rfl rfl (fun K' hK => ?_)
        go_simp
        refine hK.out _ _ (fun h => absurd rfl h) ?_
        clear hK K'
        refine wpAnyT_done (by kernel_rfl) ?_ _
        have HFIN := hide' (box_make hpr hsz hmz hcs (.slice ag us.length cg) (.slice ar us.length cr) (.slice an need.length cn) (.slice as' need.length cs) (.slice (some ⟨C, 0, none⟩) pw cc) (.slice none 0 0) (.map (some M)))
        clear z0 y0 z1 y1 z2 y2 z3 y3 z4 y4 z5 y5 z6 y6 hpr hsz hmz hcs
        go_wp2_with fail
        go_meet
        case rel => exact ⟨S, M, C, cc, cvs, rfl, rfl, rfl, HFIN⟩
  case rest =>
    obtain ⟨S, M, C, cc, cvs, rfl, rfl, rfl, HBX⟩ := hcut
    have HST0 : Hid (SSt W wc P A S M C us.length #[.slice ag us.length cg, .slice ar us.length cr, .slice an need.length cn, .slice as' need.length cs] #[.slice ag us.length cg, .slice ar us.length cr, .slice an need.length cn, .slice as' need.length cs, .slice (some ⟨C, 0, none⟩) pw cc, .slice none 0 0, .map (some M)] cvs (.slice none 0 0) [] 0 []) := ⟨HBX.out, World.ownsRow_nil _ _ _ _, ⟨rfl, fun i b h => by cases h⟩⟩
    have q2 : wc.cell? ⟨P, 2, none⟩ = some (.slice an need.length cn) := by simp [World.cell?, HBX.out.pre.hP]
    clear HPR HBX
    go_wp2_with fail
    clear q2
    go_loopw [21] (fun i wr => ∃ (k : Nat) (uv : Value) (vs : List Value), i = .int .i64 k ∧ k ≤ need.length ∧ Hid (SSt W wr P A S M C us.length #[.slice ag us.length cg, .slice ar us.length cr, .slice an need.length cn, .slice as' need.length cs] #[.slice ag us.length cg, .slice ar us.length cr, .slice an need.length cn, .slice as' need.length cs, .slice (some ⟨C, 0, none⟩) pw cc, uv, .map (some M)] cvs uv vs k ((runsL us need spare).take k))) (fun i _ => need.length - (intOf i).toNat)
    case atStart => exact ⟨0, _, [], rfl, Nat.zero_le _, HST0⟩
    case round =>
      clear HST0
      obtain ⟨k, uv, vs, rfl, hk, HST⟩ := hrel
      obtain ⟨au, cu, rfl⟩ := own_slice HST.out.own
      obtain ⟨X, hX⟩ : ∃ X, X = wr := ⟨_, rfl⟩
      subst hX
      by_cases hlt : k < need.length
      · obtain ⟨bn, on', cn', exn, hcn⟩ := ints_cell2 HN.out k hlt
        cases exn
        obtain ⟨bs, os', cs', exs, hcs⟩ := ints_cell2 HS.out k (by rw [HP.out.hs]; exact hlt)
        cases exs
        have hnk := HP.out.rn k hlt
        have hsk := HP.out.rs k (by rw [HP.out.hs]; exact hlt)
        have HRL : Hid (∀ j, j < pw → ∀ y, runV us need spare k j = y → ints ((runL us need spare k).take j) ++ [.int .i64 y] = ints ((runL us need spare k).take (j + 1))) := fun j hj y hy => by
          have hl : j < (runL us need spare k).length := by rw [runL_len, ← HPW.out]; exact hj
          have hg : (runL us need spare k)[j] = y := by rw [← hy]; simp [runL]
          rw [List.take_succ_eq_append_getElem hl, hg]
          simp [ints]
        have HRV : Hid (∀ j, runV us need spare k j = (hourC us (bits us.length j) (need.getD k 0) (spare.getD k 0)).getD never) := fun j => rfl
        obtain ⟨nk, hnk'⟩ : ∃ x, x = need.getD k 0 := ⟨_, rfl⟩
        obtain ⟨sk, hsk'⟩ : ∃ x, x = spare.getD k 0 := ⟨_, rfl⟩
        rw [← hnk'] at hcn hnk HRV
        rw [← hsk'] at hcs hsk HRV
        have HCN := hide' hcn
        have HCS := hide' hcs
        have s4 : X.cell? ⟨S, 4, none⟩ = some (.slice (some ⟨C, 0, none⟩) pw cc) := by simp [World.cell?, HST.out.box.hS]
        clear hcn hcs hnk' hsk'
        go_wp2_with fail
        clear s4
        go_loopw [5, 27] (fun l i wi => ∃ (j : Nat), i = .int .i64 j ∧ j ≤ pw ∧ Hid (wi.ownsRow X.heap.size 3 1 l j (ints ((runL us need spare k).take j))) ∧ Hid (Below X.heap.size X wi)) (fun _ i _ => pw - (intOf i).toNat)
        case atStart => exact ⟨0, rfl, Nat.zero_le _, World.ownsRow_nil _ _ _ _, Below.refl _ _⟩
        case round =>
          obtain ⟨j, rfl, hj, HL, HLB⟩ := hrel
          obtain ⟨al, cl, rfl⟩ := own_slice HL.out
          by_cases hjl : j < pw
          · obtain ⟨g, hg1, hg2, hg3⟩ := HST.out.box.cst.rows j (by rw [← HPW.out]; exact hjl)
            have c0 := up_cell HLB.out (show X.cell? ⟨C, j, none⟩ = some (.slice (some ⟨g, 0, none⟩) us.length us.length) by simp only [World.cell?, HST.out.box.cst.hP]; simpa using hg1)
            have HROW : Hid (RowAt X (.slice (some ⟨g, 0, none⟩) us.length us.length) us.length 1 ((bits us.length j).map Value.bool)) := ⟨by simp [bits_len], _, _, rfl, fun q u hq => ⟨g, 0, rfl, by simp only [World.cell?, hg3]; simpa using hq⟩⟩
            have HSTi := hide' (HST.out.more HLB.out)
            have HBW := hide' HSTi.out.box.pre.bel
            have HCY : Hid (∀ y, (hourC us (bits us.length j) nk sk).getD never = y → ints ((runL us need spare k).take j) ++ [.int .i64 y] = ints ((runL us need spare k).take (j + 1))) := fun y hy => HRL.out j hjl y (by rw [HRV.out]; exact hy)
            have HYB : Hid (∀ y, hourC us (bits us.length j) nk sk = some y → 0 ≤ y) := fun y hy => (hour_bound HP.out.may h4 hy).1
            clear hg1 hg2 hg3
            go_wp2_with fail
            clear c0
            obtain ⟨W3, hW3⟩ : ∃ x, x = wr := ⟨_, rfl⟩
            subst hW3
            have d1 : W3.cell? ⟨P, 0, none⟩ = some (.slice ag us.length cg) := by simp [World.cell?, HSTi.out.box.pre.hP]
            have d2 : W3.cell? ⟨P, 1, none⟩ = some (.slice ar us.length cr) := by simp [World.cell?, HSTi.out.box.pre.hP]
            have d3 : W3.cell? ⟨P, 2, none⟩ = some (.slice (some ⟨bn, on', none⟩) need.length cn) := by simp [World.cell?, HSTi.out.box.pre.hP]
            have d4 : W3.cell? ⟨P, 3, none⟩ = some (.slice (some ⟨bs, os', none⟩) need.length cs) := by simp [World.cell?, HSTi.out.box.pre.hP]
            have d5 := up_cell HBW.out HCN.out
            have d6 := up_cell HBW.out HCS.out
            refine wp_region_tail (fun W => W.cell? ⟨P, 0, none⟩ = some (.slice ag us.length cg) ∧ W.cell? ⟨P, 1, none⟩ = some (.slice ar us.length cr) ∧ W.cell? ⟨P, 2, none⟩ = some (.slice (some ⟨bn, on', none⟩) need.length cn) ∧ W.cell? ⟨P, 3, none⟩ = some (.slice (some ⟨bs, os', none⟩) need.length cs) ∧ W.cell? ⟨bn, on' + k, none⟩ = some (.int .i64 nk) ∧ W.cell? ⟨bs, os' + k, none⟩ = some (.int .i64 sk)) 18 (by kernel_rfl) ?_
            refine wpAnyD_takeAt 0 (some 32) (v := ?_) rfl (by kernel_rfl) (by kernel_rfl) (by kernel_rfl) (by kernel_rfl) (by kernel_rfl) (fun _ _ _ h => h) (by exact ⟨d1, d2, d3, d4, d5, d6⟩) (fun o hop => ?_) ?_
            rotate_left
            · injection hop with hop
              subst hop
              refine ⟨rfl, fun W hW => ?_⟩
              obtain ⟨s0, s1, s2, s3, s4, s5⟩ := hW
              go_simp
              first
              | rfl
              | rw [if_neg (by omega)]
            try simp only [Act.put, List.setIfInBounds_toArray, List.set_cons_zero, List.set_cons_succ]
            refine wpAnyD_takeAt 1 (some 33) (v := ?_) rfl (by kernel_rfl) (by kernel_rfl) (by kernel_rfl) (by kernel_rfl) (by kernel_rfl) (fun _ _ _ h => h) (by exact ⟨d1, d2, d3, d4, d5, d6⟩) (fun o hop => ?_) ?_
            rotate_left
            · injection hop with hop
              subst hop
              refine ⟨rfl, fun W hW => ?_⟩
              obtain ⟨s0, s1, s2, s3, s4, s5⟩ := hW
              go_simp
              first
              | rfl
              | rw [if_neg (by omega)]
            try simp only [Act.put, List.setIfInBounds_toArray, List.set_cons_zero, List.set_cons_succ]
            refine wpAnyD_takeAt 2 (some 34) (v := ?_) rfl (by kernel_rfl) (by kernel_rfl) (by kernel_rfl) (by kernel_rfl) (by kernel_rfl) (fun _ _ _ h => h) (by exact ⟨d1, d2, d3, d4, d5, d6⟩) (fun o hop => ?_) ?_
            rotate_left
            · injection hop with hop
              subst hop
              refine ⟨rfl, fun W hW => ?_⟩
              obtain ⟨s0, s1, s2, s3, s4, s5⟩ := hW
              go_simp
              first
              | rfl
              | rw [if_neg (by omega)]
            try simp only [Act.put, List.setIfInBounds_toArray, List.set_cons_zero, List.set_cons_succ]
            refine wpAnyD_takeAt 3 (some 35) (v := ?_) rfl (by kernel_rfl) (by kernel_rfl) (by kernel_rfl) (by kernel_rfl) (by kernel_rfl) (fun _ _ _ h => h) (by exact ⟨d1, d2, d3, d4, d5, d6⟩) (fun o hop => ?_) ?_
            rotate_left
            · injection hop with hop
              subst hop
              refine ⟨rfl, fun W hW => ?_⟩
              obtain ⟨s0, s1, s2, s3, s4, s5⟩ := hW
              go_simp
              first
              | rfl
              | rw [if_neg (by omega)]
            try simp only [Act.put, List.setIfInBounds_toArray, List.set_cons_zero, List.set_cons_succ]
            refine wpAnyD_takeAt 4 (some 36) (v := ?_) rfl (by kernel_rfl) (by kernel_rfl) (by kernel_rfl) (by kernel_rfl) (by kernel_rfl) (fun _ _ _ h => h) (by exact ⟨d1, d2, d3, d4, d5, d6⟩) (fun o hop => ?_) ?_
            rotate_left
            · injection hop with hop
              subst hop
              refine ⟨rfl, fun W hW => ?_⟩
              obtain ⟨s0, s1, s2, s3, s4, s5⟩ := hW
              go_simp
              first
              | rfl
              | rw [if_neg (by omega)]
            try simp only [Act.put, List.setIfInBounds_toArray, List.set_cons_zero, List.set_cons_succ]
            refine wpAnyD_takeAt 5 (some 37) (v := ?_) rfl (by kernel_rfl) (by kernel_rfl) (by kernel_rfl) (by kernel_rfl) (by kernel_rfl) (fun _ _ _ h => h) (by exact ⟨d1, d2, d3, d4, d5, d6⟩) (fun o hop => ?_) ?_
            rotate_left
            · injection hop with hop
              subst hop
              refine ⟨rfl, fun W hW => ?_⟩
              obtain ⟨s0, s1, s2, s3, s4, s5⟩ := hW
              go_simp
              first
              | rfl
              | rw [if_neg (by omega)]
            try simp only [Act.put, List.setIfInBounds_toArray, List.set_cons_zero, List.set_cons_succ]
            refine wpAnyD_takeAt 6 (some 38) (v := ?_) rfl (by kernel_rfl) (by kernel_rfl) (by kernel_rfl) (by kernel_rfl) (by kernel_rfl) (fun _ _ _ h => h) (by exact ⟨d1, d2, d3, d4, d5, d6⟩) (fun o hop => ?_) ?_
            rotate_left
            · injection hop with hop
              subst hop
              refine ⟨rfl, fun W hW => ?_⟩
              obtain ⟨s0, s1, s2, s3, s4, s5⟩ := hW
              go_simp
              first
              | rfl
              | rw [if_neg (by omega)]
            try simp only [Act.put, List.setIfInBounds_toArray, List.set_cons_zero, List.set_cons_succ]
            refine wpAnyD_takeAt 7 (some 39) (v := ?_) rfl (by kernel_rfl) (by kernel_rfl) (by kernel_rfl) (by kernel_rfl) (by kernel_rfl) (fun _ _ _ h => h) (by exact ⟨d1, d2, d3, d4, d5, d6⟩) (fun o hop => ?_) ?_
            rotate_left
            · injection hop with hop
              subst hop
              refine ⟨rfl, fun W hW => ?_⟩
              obtain ⟨s0, s1, s2, s3, s4, s5⟩ := hW
              go_simp
              first
              | rfl
              | rw [if_neg (by omega)]
            try simp only [Act.put, List.setIfInBounds_toArray, List.set_cons_zero, List.set_cons_succ]
            refine wpAnyD_takeAt 8 (some 40) (v := ?_) rfl (by kernel_rfl) (by kernel_rfl) (by kernel_rfl) (by kernel_rfl) (by kernel_rfl) (fun _ _ _ h => h) (by exact ⟨d1, d2, d3, d4, d5, d6⟩) (fun o hop => ?_) ?_
            rotate_left
            · injection hop with hop
              subst hop
              refine ⟨rfl, fun W hW => ?_⟩
              obtain ⟨s0, s1, s2, s3, s4, s5⟩ := hW
              go_simp
              first
              | rfl
              | rw [if_neg (by omega)]
            try simp only [Act.put, List.setIfInBounds_toArray, List.set_cons_zero, List.set_cons_succ]
            refine wpAnyD_takeAt 9 (some 41) (v := ?_) rfl (by kernel_rfl) (by kernel_rfl) (by kernel_rfl) (by kernel_rfl) (by kernel_rfl) (fun _ _ _ h => h) (by exact ⟨d1, d2, d3, d4, d5, d6⟩) (fun o hop => ?_) ?_
            rotate_left
            · injection hop with hop
              subst hop
              refine ⟨rfl, fun W hW => ?_⟩
              obtain ⟨s0, s1, s2, s3, s4, s5⟩ := hW
              go_simp
              first
              | rfl
              | rw [if_neg (by omega)]
            try simp only [Act.put, List.setIfInBounds_toArray, List.set_cons_zero, List.set_cons_succ]
            refine wpAnyD_takeAt 10 (some 42) (v := ?_) rfl (by kernel_rfl) (by kernel_rfl) (by kernel_rfl) (by kernel_rfl) (by kernel_rfl) (fun _ _ _ h => h) (by exact ⟨d1, d2, d3, d4, d5, d6⟩) (fun o hop => ?_) ?_
            rotate_left
            · injection hop with hop
              subst hop
              refine ⟨rfl, fun W hW => ?_⟩
              obtain ⟨s0, s1, s2, s3, s4, s5⟩ := hW
              go_simp
              first
              | rfl
              | rw [if_neg (by omega)]
            try simp only [Act.put, List.setIfInBounds_toArray, List.set_cons_zero, List.set_cons_succ]
            refine wpAnyD_takeAt 11 (some 43) (v := ?_) rfl (by kernel_rfl) (by kernel_rfl) (by kernel_rfl) (by kernel_rfl) (by kernel_rfl) (fun _ _ _ h => h) (by exact ⟨d1, d2, d3, d4, d5, d6⟩) (fun o hop => ?_) ?_
            rotate_left
            · injection hop with hop
              subst hop
              refine ⟨rfl, fun W hW => ?_⟩
              obtain ⟨s0, s1, s2, s3, s4, s5⟩ := hW
              go_simp
              first
              | rfl
              | rw [if_neg (by omega)]
            try simp only [Act.put, List.setIfInBounds_toArray, List.set_cons_zero, List.set_cons_succ]
            refine wpAnyD_takeAt 12 (some 44) (v := ?_) rfl (by kernel_rfl) (by kernel_rfl) (by kernel_rfl) (by kernel_rfl) (by kernel_rfl) (fun _ _ _ h => h) (by exact ⟨d1, d2, d3, d4, d5, d6⟩) (fun o hop => ?_) ?_
            rotate_left
            · injection hop with hop
              subst hop
              refine ⟨rfl, fun W hW => ?_⟩
              obtain ⟨s0, s1, s2, s3, s4, s5⟩ := hW
              go_simp
              first
              | rfl
              | rw [if_neg (by omega)]
            try simp only [Act.put, List.setIfInBounds_toArray, List.set_cons_zero, List.set_cons_succ]
            refine wpAnyT_one (i := 13) (by kernel_rfl) rfl rfl (fun K' hK => ?_)
            go_simp
            go_at_call 52
            refine (run_any us (bits us.length j) nk sk d (.slice ag us.length cg) (.slice ar us.length cr) (.slice (some ⟨g, 0, none⟩) us.length us.length) W3.drew (HG.out.below HBW.out.drew (Nat.le_refl _)) (HR.out.below HBW.out.drew (Nat.le_refl _)) HD.out (HROW.out.below HLB.out.drew (Nat.le_refl _)) (bits_len _ _) h4 HP.out.may hnk.1 hnk.2 hsk.1 hsk.2).mono ?_
            rintro e w4 ⟨hres, hb4⟩
            have HBB : Hid (Below W3.heap.size W3 w4) := (Below.refl _ W3).drew.trans hb4
            have HST4 := hide' (HSTi.out.more HBB.out)
            have HBW4 := hide' HST4.out.box.pre.bel
            have HL4 : Hid (w4.ownsRow X.heap.size 3 1 (.slice al j cl) j (ints ((runL us need spare k).take j))) := own_below HL.out HBB.out (Nat.le_refl _)
            have HLB4 : Hid (Below X.heap.size X w4) := HLB.out.trans (HBB.out.mono HLB.out.size)
            have f1 : w4.cell? ⟨P, 0, none⟩ = some (.slice ag us.length cg) := by simp [World.cell?, HST4.out.box.pre.hP]
            have f2 : w4.cell? ⟨P, 1, none⟩ = some (.slice ar us.length cr) := by simp [World.cell?, HST4.out.box.pre.hP]
            have f3 : w4.cell? ⟨P, 2, none⟩ = some (.slice (some ⟨bn, on', none⟩) need.length cn) := by simp [World.cell?, HST4.out.box.pre.hP]
            have f4 : w4.cell? ⟨P, 3, none⟩ = some (.slice (some ⟨bs, os', none⟩) need.length cs) := by simp [World.cell?, HST4.out.box.pre.hP]
            have f5 := up_cell HBW4.out HCN.out
            have f6 := up_cell HBW4.out HCS.out
            clear hb4 d1 d2 d3 d4 d5 d6 HSTi HBW HBB
            obtain ⟨y, z, rfl, hyz⟩ : ∃ (y z : Int), e = .returned (.tuple #[.int .i64 y, .int .i64 z]) ∧ ((z = 0 ∧ hourC us (bits us.length j) nk sk = some y) ∨ (z = 8 ∧ hourC us (bits us.length j) nk sk = none)) := by
              cases hh : hourC us (bits us.length j) nk sk with
              | none => exact ⟨0, 8, by rw [hres, hh]; rfl, .inr ⟨rfl, rfl⟩⟩
              | some y => exact ⟨y, 0, by rw [hres, hh]; rfl, .inl ⟨rfl, rfl⟩⟩
            have HYZ := hide' hyz
            clear hres hyz
            refine hK.out _ _ (fun _ => by exact ⟨f1, f2, f3, f4, f5, f6⟩) ?_
            clear hK K'
            refine wpAnyT_one (i := 14) (by kernel_rfl) rfl rfl (fun K' hK => ?_)
            go_simp
            refine hK.out _ _ (fun _ => by exact ⟨f1, f2, f3, f4, f5, f6⟩) ?_
            clear hK K'
            refine wpAnyD_takeAt 15 (some 46) (v := ?_) rfl (by kernel_rfl) (by kernel_rfl) (by kernel_rfl) (by kernel_rfl) (by kernel_rfl) (fun _ _ _ h => h) (by exact ⟨f1, f2, f3, f4, f5, f6⟩) (fun o hop => ?_) ?_
            rotate_left
            · injection hop with hop
              subst hop
              refine ⟨rfl, fun W hW => ?_⟩
              obtain ⟨s0, s1, s2, s3, s4, s5⟩ := hW
              go_simp
              first
              | rfl
              | rw [if_neg (by omega)]
            try simp only [Act.put, List.setIfInBounds_toArray, List.set_cons_zero, List.set_cons_succ]
            refine wpAnyD_takeAt 16 (some 47) (v := ?_) rfl (by kernel_rfl) (by kernel_rfl) (by kernel_rfl) (by kernel_rfl) (by kernel_rfl) (fun _ _ _ h => h) (by exact ⟨f1, f2, f3, f4, f5, f6⟩) (fun o hop => ?_) ?_
            rotate_left
            · injection hop with hop
              subst hop
              refine ⟨rfl, fun W hW => ?_⟩
              obtain ⟨s0, s1, s2, s3, s4, s5⟩ := hW
              go_simp
              first
              | rfl
              | rw [if_neg (by omega)]
            try simp only [Act.put, List.setIfInBounds_toArray, List.set_cons_zero, List.set_cons_succ]
            refine wpAnyT_one (i := 17) (by kernel_rfl) rfl rfl (fun K' hK => ?_)
            go_simp
            refine hK.out _ _ (fun _ => by exact ⟨f1, f2, f3, f4, f5, f6⟩) ?_
            clear hK K'
            refine wpAnyT_one (i := 18) (by kernel_rfl) rfl rfl (fun K' hK => ?_)
            go_simp
            refine hK.out _ _ (fun h => absurd rfl h) ?_
            clear hK K' f1 f2 f3 f4 f5 f6
            refine wpAnyT_done (by kernel_rfl) ?_ _
            have HXS : Hid (X.heap.size ≤ w4.heap.size) := HLB4.out.size
            clear HLB HL HROW
            rcases HYZ.out with ⟨hz, hy⟩ | ⟨hz, hy⟩
            · subst hz
              have HY := hide' hy
              clear hy HYZ
              go_wp2_with (at_builtin; refine wpList_append_own _ rfl _ _ 24 rfl X.heap.size 3 i3 (.int .i64 0) 1 8 Try.underlying24 hi3 h30 h31 h32 rfl (by decide) _ _ _ rfl (HL4.out.alloc _) ⟨w4.heap.size, 0, none⟩ 1 1 [.int .i64 y] rfl rfl (cell_one_new _ _ _) (one_cell rfl) (by unfold maxLen; omega) (by omega) (by have := HXS.out; simp; omega) ?_; intro v' w5 hown' hgrow _; refine Still.go ?_)
              unfold Still
              have HOW := hide' hown'
              have HGR := hide' hgrow
              clear hown' hgrow
              go_wp2
              go_roundw
              case rel => exact ⟨j + 1, by go_num, by omega, by have h1 := HOW.out; rw [HCY.out y (by rw [HY.out]; rfl)] at h1; exact h1, below_app HLB4.out HL4.out (Nat.le_refl _) HXS.out HGR.out⟩
              case measure => simp [intOf]; omega
            · subst hz
              have HY := hide' hy
              clear hy HYZ
              go_wp2_with (at_builtin; refine wpList_append_own _ rfl _ _ 24 rfl X.heap.size 3 i3 (.int .i64 0) 1 8 Try.underlying24 hi3 h30 h31 h32 rfl (by decide) _ _ _ rfl (HL4.out.alloc _) ⟨w4.heap.size, 0, none⟩ 1 1 [.int .i64 9223372036854775807] rfl rfl (cell_one_new _ _ _) (one_cell rfl) (by unfold maxLen; omega) (by omega) (by have := HXS.out; simp; omega) ?_; intro v' w5 hown' hgrow _; refine Still.go ?_)
              unfold Still
              have HOW := hide' hown'
              have HGR := hide' hgrow
              clear hown' hgrow
              go_wp2
              go_roundw
              case rel => exact ⟨j + 1, by go_num, by omega, by have h1 := HOW.out; rw [HCY.out 9223372036854775807 (by rw [HY.out]; rfl)] at h1; exact h1, below_app HLB4.out HL4.out (Nat.le_refl _) HXS.out HGR.out⟩
              case measure => simp [intOf]; omega
          · have hje : j = pw := by omega
            subst hje
            have HLL : Hid (IntsO wr (.slice al j cl) (runL us need spare k)) := by
              have hlen : (runL us need spare k).length = j := by rw [runL_len]; exact HPW.out.symm
              have h1 := own_base HL.out (Nat.zero_le _)
              rw [List.take_of_length_le (by rw [hlen]; exact Nat.le_refl _)] at h1
              show World.ownsRow _ _ _ _ _ _ _
              rw [hlen]
              exact h1
            have HSTi := hide' (HST.out.more HLB.out)
            have s5 : wr.cell? ⟨S, 5, none⟩ = some (.slice au k cu) := by simp [World.cell?, HSTi.out.box.hS]
            have hsz : W.heap.size ≤ wr.heap.size := HSTi.out.box.pre.bel.size
            have HTK : Hid ((runsL us need spare).take k ++ [runL us need spare k] = (runsL us need spare).take (k + 1)) := by
              show _ = _
              have hl : k < (runsL us need spare).length := by rw [runsL_len]; exact hlt
              rw [List.take_succ_eq_append_getElem hl]
              simp [runsL]
            clear HL HLB
            go_wp2_with (at_builtin; refine wpList_append_own _ rfl _ _ 91 rfl W.heap.size 24 i24 (.slice none 0 0) 1 24 Try.underlying91 hi24 h240 h241 h242 rfl (by decide) _ _ _ rfl (HSTi.out.own.alloc _) ⟨wr.heap.size, 0, none⟩ 1 1 [.slice al j cl] rfl rfl (cell_one_new _ _ _) (one_cell rfl) (by unfold maxLen; omega) (by omega) (by simp; omega) ?_; intro z w3 hoz hg3 _; refine Still.go ?_)
            unfold Still
            obtain ⟨az, cz, rfl⟩ := own_slice hoz
            have HST3 := hide' (HSTi.out.app hg3 hoz HLL.out)
            have t5 : w3.cell? ⟨S, 5, none⟩ = some (.slice au k cu) := by simp [World.cell?, HST3.out.box.hS]
            have y5 : w3.frozen? ⟨S, 5, none⟩ = false := frozen_no HST3.out.box.hS _
            have HFIN := hide' (HST3.out.set (j := 5) (x := .slice az (k + 1) cz))
            clear hoz hg3 HSTi HST3 HLL s5
            go_wp2
            go_roundw
            case rel => exact ⟨k + 1, _, _, by go_num, by omega, by have h1 := HFIN.out; rw [HTK.out] at h1; exact h1⟩
            case measure => simp [intOf]; omega
      · have hke : k = need.length := by omega
        subst hke
        have HT : Hid ((runsL us need spare).take need.length = runsL us need spare) := by show _ = _; rw [List.take_of_length_le (by rw [runsL_len]; exact Nat.le_refl _)]
        rw [HT.out] at HST
        have s0 : X.cell? ⟨S, 0, none⟩ = some (.slice ag us.length cg) := by simp [World.cell?, HST.out.box.hS]
        have s1 : X.cell? ⟨S, 1, none⟩ = some (.slice ar us.length cr) := by simp [World.cell?, HST.out.box.hS]
        have s2 : X.cell? ⟨S, 2, none⟩ = some (.slice an need.length cn) := by simp [World.cell?, HST.out.box.hS]
        have s3 : X.cell? ⟨S, 3, none⟩ = some (.slice as' need.length cs) := by simp [World.cell?, HST.out.box.hS]
        have s4 : X.cell? ⟨S, 4, none⟩ = some (.slice (some ⟨C, 0, none⟩) pw cc) := by simp [World.cell?, HST.out.box.hS]
        have s5 : X.cell? ⟨S, 5, none⟩ = some (.slice au need.length cu) := by simp [World.cell?, HST.out.box.hS]
        have s6 : X.cell? ⟨S, 6, none⟩ = some (.map (some M)) := by simp [World.cell?, HST.out.box.hS]
        have a0 : X.cell? ⟨A, 0, none⟩ = some (.slice none 0 0) := by simp [World.cell?, HST.out.box.pre.hA, zero7]
        have b0 : X.frozen? ⟨A, 0, none⟩ = false := frozen_no HST.out.box.pre.hA _
        have a1 : X.cell? ⟨A, 1, none⟩ = some (.slice none 0 0) := by simp [World.cell?, HST.out.box.pre.hA, zero7]
        have b1 : X.frozen? ⟨A, 1, none⟩ = false := frozen_no HST.out.box.pre.hA _
        have a2 : X.cell? ⟨A, 2, none⟩ = some (.slice none 0 0) := by simp [World.cell?, HST.out.box.pre.hA, zero7]
        have b2 : X.frozen? ⟨A, 2, none⟩ = false := frozen_no HST.out.box.pre.hA _
        have a3 : X.cell? ⟨A, 3, none⟩ = some (.slice none 0 0) := by simp [World.cell?, HST.out.box.pre.hA, zero7]
        have b3 : X.frozen? ⟨A, 3, none⟩ = false := frozen_no HST.out.box.pre.hA _
        have a4 : X.cell? ⟨A, 4, none⟩ = some (.slice none 0 0) := by simp [World.cell?, HST.out.box.pre.hA, zero7]
        have b4 : X.frozen? ⟨A, 4, none⟩ = false := frozen_no HST.out.box.pre.hA _
        have a5 : X.cell? ⟨A, 5, none⟩ = some (.slice none 0 0) := by simp [World.cell?, HST.out.box.pre.hA, zero7]
        have b5 : X.frozen? ⟨A, 5, none⟩ = false := frozen_no HST.out.box.pre.hA _
        have a6 : X.cell? ⟨A, 6, none⟩ = some (.map none) := by simp [World.cell?, HST.out.box.pre.hA, zero7]
        have b6 : X.frozen? ⟨A, 6, none⟩ = false := frozen_no HST.out.box.pre.hA _
        have HAA : Hid ((((((((X.setCell ⟨A, 0, none⟩ (.slice ag us.length cg)).setCell ⟨A, 1, none⟩ (.slice ar us.length cr)).setCell ⟨A, 2, none⟩ (.slice an need.length cn)).setCell ⟨A, 3, none⟩ (.slice as' need.length cs)).setCell ⟨A, 4, none⟩ (.slice (some ⟨C, 0, none⟩) pw cc)).setCell ⟨A, 5, none⟩ (.slice au need.length cu)).setCell ⟨A, 6, none⟩ (.map (some M))).heap[A]? = some (.cells #[.slice ag us.length cg, .slice ar us.length cr, .slice an need.length cn, .slice as' need.length cs, .slice (some ⟨C, 0, none⟩) pw cc, .slice au need.length cu, .map (some M)] 94 (0, 0))) := (set_any (set_any (set_any (set_any (set_any (set_any (set_any HST.out.box.pre.hA 0 _) 1 _) 2 _) 3 _) 4 _) 5 _) 6 _).trans rfl
        have hs : ∀ q, q ≠ A → (((((((X.setCell ⟨A, 0, none⟩ (.slice ag us.length cg)).setCell ⟨A, 1, none⟩ (.slice ar us.length cr)).setCell ⟨A, 2, none⟩ (.slice an need.length cn)).setCell ⟨A, 3, none⟩ (.slice as' need.length cs)).setCell ⟨A, 4, none⟩ (.slice (some ⟨C, 0, none⟩) pw cc)).setCell ⟨A, 5, none⟩ (.slice au need.length cu)).setCell ⟨A, 6, none⟩ (.map (some M))).heap[q]? = X.heap[q]? := fun q hj => by
          rw [Below.heap_setCell _ _ _ q hj, Below.heap_setCell _ _ _ q hj, Below.heap_setCell _ _ _ q hj, Below.heap_setCell _ _ _ q hj, Below.heap_setCell _ _ _ q hj, Below.heap_setCell _ _ _ q hj, Below.heap_setCell _ _ _ q hj]
        have hsA := HST.out.box.pre.sA
        have HBF : Hid (Below W.heap.size W (((((((X.setCell ⟨A, 0, none⟩ (.slice ag us.length cg)).setCell ⟨A, 1, none⟩ (.slice ar us.length cr)).setCell ⟨A, 2, none⟩ (.slice an need.length cn)).setCell ⟨A, 3, none⟩ (.slice as' need.length cs)).setCell ⟨A, 4, none⟩ (.slice (some ⟨C, 0, none⟩) pw cc)).setCell ⟨A, 5, none⟩ (.slice au need.length cu)).setCell ⟨A, 6, none⟩ (.map (some M)))) := ((((((HST.out.box.pre.bel.setCell (p := ⟨A, 0, none⟩) hsA _).setCell (p := ⟨A, 1, none⟩) hsA _).setCell (p := ⟨A, 2, none⟩) hsA _).setCell (p := ⟨A, 3, none⟩) hsA _).setCell (p := ⟨A, 4, none⟩) hsA _).setCell (p := ⟨A, 5, none⟩) hsA _).setCell (p := ⟨A, 6, none⟩) hsA _
        have HSR : Hid (Srch (((((((X.setCell ⟨A, 0, none⟩ (.slice ag us.length cg)).setCell ⟨A, 1, none⟩ (.slice ar us.length cr)).setCell ⟨A, 2, none⟩ (.slice an need.length cn)).setCell ⟨A, 3, none⟩ (.slice as' need.length cs)).setCell ⟨A, 4, none⟩ (.slice (some ⟨C, 0, none⟩) pw cc)).setCell ⟨A, 5, none⟩ (.slice au need.length cu)).setCell ⟨A, 6, none⟩ (.map (some M))) us need spare (.slice ag us.length cg) (.slice (some ⟨C, 0, none⟩) pw cc) (.slice au need.length cu) M) := HST.out.fin HPW.out HG.out (fun q cur e1 fz hj he => hs q (fun e => by subst e; rw [HST.out.box.pre.hA] at hj; cases hj; exact he rfl)) (hs M (fun e => by obtain ⟨cl, hm⟩ := HST.out.box.hM; rw [e, HST.out.box.pre.hA] at hm; cases hm)) HBF.out
        have HM := hide' HST.out.box.sM
        clear hs hsA HST
        go_wp2
        refine bodyPost_ret (results_cell_row rfl _ _ A 94 _ (0, 0) _ rfl HAA.out Try.underlying94 rfl (by kernel_rfl)) rfl ?_
        exact ⟨_, _, M, rfl, HSR.out, HM.out, HBF.out⟩
end Go.Proofs.Ytlbeecjkfakkpag
namespace Go.Proofs.Ytlbeecjkfakkpag
open Go.RowKit Go.Shelf Go.ChangeMaps

theorem Best_good : BestGood := Best_from (fun us need spare h => search_any us need spare h) (fun us need spare h => schedule_any us need spare h)
end Go.Proofs.Ytlbeecjkfakkpag
