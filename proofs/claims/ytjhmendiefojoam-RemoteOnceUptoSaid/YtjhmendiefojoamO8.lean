/- Both ends of a line, as they lie in memory. -/
import Derived.Test.YtjhmendiefojoamO7
import Derived.Test.YtjhmendiefojoamO0
import Derived.Test.YtjhmendiefojoamS15
import Derived.Maps.AppendAt
namespace Go.Proofs.Ytjhmendiefojoam
open Go.RowKit Go.Shelf

theorem step_append_anyAt {P : Program} {ops : Array Oper} {o : Oper} {a : Act} {w : World} {K : Act → World → Prop} {Q : Exit → Act → World → Prop} {E : Prop}
    (hg : o.guard = none) (s x : Operand) (t : TypeId) (hop : o.op = Op.call { callee := Callee.builtin Builtin.append, args := #[s, x], argTypes := #[t, t] })
    (base : Nat) (e : TypeId) (i : TypeInfo) (z : Value) (size bytes : Nat) (h1 : P.underlying t = some (.slice e)) (h2 : P.info? e = some i) (h3 : i.zero = some z) (h4 : i.size = size) (h5 : i.bytes = bytes) (h6 : z.cells.size = size) (h7 : 0 < size)
    (v : Value) (n : Nat) (xs : List Value) (hs : a.eval s = v) (hown : w.ownsRow base e size v n xs)
    (xv : Value) (m : Nat) (news : List Value) (hx : a.eval x = xv) (hxr : RowAt w xv m size news) (h1c : ∀ u ∈ news, u.oneCell' = true)
    (b1 : n + m ≤ maxLen) (b2 : (n + m) * bytes ≤ 140737488355328) (b3 : base ≤ w.heap.size)
    (hK : ∀ v' w', w'.ownsRow base e size v' (n + m) (xs ++ news) → w.grownBy w' v.ownBlock → (v'.ownBlock = v.ownBlock ∨ v'.ownBlock = some w.heap.size) → K (a.put o.dst v') w') :
    if Region.wanted o (yielded ops a.tmps) = true then Oper.wp P o a w K Q else E := by
  have hw : Region.wanted o (yielded ops a.tmps) = true := by simp [Region.wanted, hg]
  rw [if_pos hw]
  obtain ⟨hn, ao, c, rfl, hc⟩ := hxr
  cases ao with
  | some ad =>
    obtain ⟨v', w', hrun, r1, r2, _, r3⟩ := run_append_own_at (P := P) w base t o.type e i z size bytes h1 h2 h3 h4 h5 h6 h7 v n xs hown ad m c news hn (fun j u hj => by
      obtain ⟨b, off, e1, h⟩ := hc j u hj
      cases e1
      rw [add_off]; exact h) h1c b1 b2 b3
    unfold Oper.wp
    simp [execOp, hop, resolve, invoke, builtin, hs, hx, hrun, Result.andThen]
    exact hK v' w' r1 r2 r3
  | none =>
    have hm : news = [] := by
      cases news with
      | nil => rfl
      | cons u r => obtain ⟨b, off, e1, _⟩ := hc 0 u rfl; cases e1
    subst hm
    have hm0 : m = 0 := by
      rcases Nat.mul_eq_zero.1 hn.symm with h | h
      · exact h
      · omega
    subst hm0
    have hrun : (Builtin.append_ #[t, t] o.type #[v, .slice none 0 c]).run P w = .ok v w := by
      rcases hown.2 with ⟨rfl, _⟩ | ⟨g, cp, cur, rfl, _, _, hle, _⟩
      · exact run_append_nils w t o.type e i h1 h2 c
      · exact run_append_end w t o.type e i h1 h2 _ n cp c hle
    unfold Oper.wp
    simp [execOp, hop, resolve, invoke, builtin, hs, hx, hrun, Result.andThen]
    exact hK v w (by rw [List.append_nil]; exact hown) ⟨rfl, rfl, rfl, Nat.le_refl _, fun _ _ _ => rfl⟩ (.inl rfl)
theorem wpList_append_anyAt {P : Program} (w : World) {ops : Array Oper} {rest : List Oper} {o : Oper} {a : Act} {Q : Exit → Act → World → Prop} (hgd : o.guard = none) (s x : Operand) (t : TypeId)
    (ho : o.op = .call { callee := .builtin .append, args := #[s, x], argTypes := #[t, t] })
    (base : Nat) (e : TypeId) (i : TypeInfo) (z : Value) (size bytes : Nat) (ht : P.underlying t = some (.slice e)) (hi : P.info? e = some i) (hz : i.zero = some z)
    (hsize : i.size = size) (hby : i.bytes = bytes) (hzs : z.cells.size = size) (hsz : 0 < size)
    (v : Value) (n : Nat) (xs : List Value) (hs : a.eval s = v) (hown : w.ownsRow base e size v n xs)
    (xv : Value) (m : Nat) (news : List Value) (hx : a.eval x = xv) (hr : RowAt w xv m size news) (h1 : ∀ u ∈ news, u.oneCell' = true)
    (b1 : n + m ≤ maxLen) (b2 : (n + m) * bytes ≤ 140737488355328) (b3 : base ≤ w.heap.size)
    (h : ∀ v' w', w'.ownsRow base e size v' (n + m) (xs ++ news) → w.grownBy w' v.ownBlock → (v'.ownBlock = v.ownBlock ∨ v'.ownBlock = some w.heap.size) → wpList P ops Q rest (a.put o.dst v') w') : wpList P ops Q (o :: rest) a w := by
  refine wpList_plain hgd fun K' hK' => ?_
  have := step_append_anyAt (P := P) (ops := ops) (o := o) (a := a) (w := w) (K := K') (Q := Q) (E := True) hgd s x t ho base e i z size bytes ht hi hz hsize hby hzs hsz v n xs hs hown xv m news hx hr h1 b1 b2 b3 (fun v' w' ho hg hv => hK' _ _ (h v' w' ho hg hv))
  simpa [Region.wanted, hgd] using this
def Apart (a b : Value) : Prop := ∀ k, a.ownBlock = some k → b.ownBlock ≠ some k
theorem Apart.symm {a b : Value} (h : Apart a b) : Apart b a := fun k hk e => h k e hk
theorem own_lt {w : World} {B e sz n g : Nat} {v : Value} {xs : List Value} (h : w.ownsRow B e sz v n xs) (hg : v.ownBlock = some g) : g < w.heap.size := by
  rcases h.2 with ⟨rfl, _⟩ | ⟨g', cap, cur, rfl, _, h2, _⟩
  · simp [Value.ownBlock] at hg
  · simp [Value.ownBlock] at hg
    subst hg
    exact lt_heap h2
theorem apart_new {n : Nat} {v v' u : Value} (h : Apart v u) (hv : v'.ownBlock = v.ownBlock ∨ v'.ownBlock = some n) (hu : ∀ g, u.ownBlock = some g → g < n) : Apart v' u := fun k hk e => by
  rcases hv with hv | hv
  · exact h k (by rw [← hv]; exact hk) e
  · rw [hv] at hk
    cases hk
    have := hu _ e
    omega
/-- The cells of both ends. -/
def wlV (W : Wl) (pv dv uv ov av cv : Value) : Array Value := #[.int .i64 W.m.no, .int .i64 W.m.ph, .int .i64 W.m.now, .int .i64 W.m.pt, .bool W.m.want, .int .i64 W.m.timer, .int .i64 W.m.pat, .int .i64 W.m.tries, .int .i64 W.m.lim, .bool W.m.gave, pv, .int .i64 W.s.last, .int .i64 W.s.armed, .int .i64 W.s.point, .bool W.s.want, .int .i64 W.s.left, .int .i64 W.s.pat, dv, uv, ov, av, cv]
/-- Nothing below B is touched, and no box of a turn either. -/
structure Bl (B : Nat) (w w' : World) : Prop where
  b : Below B w w'
  t : ∀ (k : Nat) (cur : Array Value), w.heap[k]? = some (.cells cur 55 (0, 0)) → w'.heap[k]? = w.heap[k]?
theorem Bl.trans {B : Nat} {a b c : World} (h : Bl B a b) (k : Bl B b c) : Bl B a c := ⟨h.b.trans k.b, fun i cur hi => (k.t i cur ((h.t i cur hi).trans hi)).trans (h.t i cur hi)⟩
theorem bl_of {B : Nat} {w w' : World} (h : Below w.heap.size w w') (hB : B ≤ w.heap.size) : Bl B w w' := ⟨h.mono hB, fun k _ hk => h.block k (lt_heap hk)⟩
theorem Bl.drew {B : Nat} {w w' : World} (h : Bl B w w') : Bl B w w'.drew := ⟨h.b.drew, h.t⟩
theorem but_bl {B A e : Nat} {w w' : World} {cur : Array Value} (hb : But A w w') (hA : w.heap[A]? = some (.cells cur e (0, 0))) (he : e ≠ 55) (h1 : B ≤ A) (h2 : B ≤ w.heap.size) : Bl B w w' := ⟨hb.below h1 h2, fun k c hk => hb.block k (lt_heap hk) (fun q => by
  subst q
  rw [hA] at hk
  injection hk with hk
  injection hk with _ q _
  exact he q)⟩
/-- Both ends lie at block K, what is on the way in rows of their own. -/
structure WAt (w : World) (B K : Nat) (W : Wl) (pv dv uv ov av cv : Value) : Prop where
  cell : w.heap[K]? = some (.cells (wlV W pv dv uv ov av cv) 52 (0, 0))
  bk : B ≤ K
  pts : w.ownsRow 0 4 1 pv W.l.length (W.l.map Value.bool)
  dn : w.ownsRow B 39 4 dv W.down.length (msgs W.down)
  up : w.ownsRow B 39 4 uv W.up.length (msgs W.up)
  od : w.ownsRow B 39 4 ov W.old.length (msgs W.old)
  ak : w.ownsRow B 39 4 av W.asked.length (msgs W.asked)
  ac : w.ownsRow B 3 1 cv W.acted.length (ints W.acted)
  adu : Apart dv uv
  ado : Apart dv ov
  ada : Apart dv av
  auo : Apart uv ov
  aua : Apart uv av
  aoa : Apart ov av
theorem WAt.dn' {w w' : World} {B K n : Nat} {W : Wl} {pv dv uv ov av cv dv' : Value} (h : WAt w B K W pv dv uv ov av cv) {d : List MsM} (ho : w'.ownsRow B 39 4 dv' n (msgs d)) (hn : n = d.length) (hg : w.grownBy w' dv.ownBlock) (hv : dv'.ownBlock = dv.ownBlock ∨ dv'.ownBlock = some w.heap.size) : WAt (w'.setCell ⟨K, 17, none⟩ dv') B K ⟨W.m, W.l, W.s, d, W.up, W.old, W.asked, W.acted⟩ pv dv' uv ov av cv ∧ Bl B w (w'.setCell ⟨K, 17, none⟩ dv') := by
  have hlt := lt_heap h.cell
  have hKK : w'.heap[K]? = some (.cells (wlV W pv dv uv ov av cv) 52 (0, 0)) := (KeepE.grown h.dn hg K _ 52 (0, 0) h.cell (by decide)).trans h.cell
  have hK := keep_set hKK 17 dv'
  have hB : Bl B w w' := ⟨(Below.refl B w).grown hg (Nat.le_trans h.bk (Nat.le_of_lt hlt)) (own_at h.dn), fun k _ hk => KeepE.grown h.dn hg k _ 55 (0, 0) hk (by decide)⟩
  refine ⟨⟨(set_any hKK 17 _).trans (by unfold wlV; simp only [List.setIfInBounds_toArray, List.set_cons_zero, List.set_cons_succ]), h.bk, own_keep (own_keep h.pts (KeepE.grown h.dn hg) (by decide)) hK (by decide), own_keep (by rw [← hn]; exact ho) hK (by decide), own_keep (own_other h.up (fun k ek => hg.block k (own_lt h.up ek) (fun e => (Apart.symm h.adu) k ek e.symm))) hK (by decide), own_keep (own_other h.od (fun k ek => hg.block k (own_lt h.od ek) (fun e => (Apart.symm h.ado) k ek e.symm))) hK (by decide), own_keep (own_other h.ak (fun k ek => hg.block k (own_lt h.ak ek) (fun e => (Apart.symm h.ada) k ek e.symm))) hK (by decide), own_keep (own_keep h.ac (KeepE.grown h.dn hg) (by decide)) hK (by decide), (apart_new h.adu hv (fun g hgk => own_lt h.up hgk)), (apart_new h.ado hv (fun g hgk => own_lt h.od hgk)), (apart_new h.ada hv (fun g hgk => own_lt h.ak hgk)), h.auo, h.aua, h.aoa⟩, hB.trans ⟨(Below.refl B w').setCell (p := ⟨K, 17, none⟩) h.bk _, fun k _ hk => keep_set hKK 17 _ k _ 55 (0, 0) hk (by decide)⟩⟩
theorem WAt.up' {w w' : World} {B K n : Nat} {W : Wl} {pv dv uv ov av cv uv' : Value} (h : WAt w B K W pv dv uv ov av cv) {d : List MsM} (ho : w'.ownsRow B 39 4 uv' n (msgs d)) (hn : n = d.length) (hg : w.grownBy w' uv.ownBlock) (hv : uv'.ownBlock = uv.ownBlock ∨ uv'.ownBlock = some w.heap.size) : WAt (w'.setCell ⟨K, 18, none⟩ uv') B K ⟨W.m, W.l, W.s, W.down, d, W.old, W.asked, W.acted⟩ pv dv uv' ov av cv ∧ Bl B w (w'.setCell ⟨K, 18, none⟩ uv') := by
  have hlt := lt_heap h.cell
  have hKK : w'.heap[K]? = some (.cells (wlV W pv dv uv ov av cv) 52 (0, 0)) := (KeepE.grown h.up hg K _ 52 (0, 0) h.cell (by decide)).trans h.cell
  have hK := keep_set hKK 18 uv'
  have hB : Bl B w w' := ⟨(Below.refl B w).grown hg (Nat.le_trans h.bk (Nat.le_of_lt hlt)) (own_at h.up), fun k _ hk => KeepE.grown h.up hg k _ 55 (0, 0) hk (by decide)⟩
  refine ⟨⟨(set_any hKK 18 _).trans (by unfold wlV; simp only [List.setIfInBounds_toArray, List.set_cons_zero, List.set_cons_succ]), h.bk, own_keep (own_keep h.pts (KeepE.grown h.up hg) (by decide)) hK (by decide), own_keep (own_other h.dn (fun k ek => hg.block k (own_lt h.dn ek) (fun e => h.adu k ek e.symm))) hK (by decide), own_keep (by rw [← hn]; exact ho) hK (by decide), own_keep (own_other h.od (fun k ek => hg.block k (own_lt h.od ek) (fun e => (Apart.symm h.auo) k ek e.symm))) hK (by decide), own_keep (own_other h.ak (fun k ek => hg.block k (own_lt h.ak ek) (fun e => (Apart.symm h.aua) k ek e.symm))) hK (by decide), own_keep (own_keep h.ac (KeepE.grown h.up hg) (by decide)) hK (by decide), (Apart.symm (apart_new (Apart.symm h.adu) hv (fun g hgk => own_lt h.dn hgk))), h.ado, h.ada, (apart_new h.auo hv (fun g hgk => own_lt h.od hgk)), (apart_new h.aua hv (fun g hgk => own_lt h.ak hgk)), h.aoa⟩, hB.trans ⟨(Below.refl B w').setCell (p := ⟨K, 18, none⟩) h.bk _, fun k _ hk => keep_set hKK 18 _ k _ 55 (0, 0) hk (by decide)⟩⟩
theorem WAt.od' {w w' : World} {B K n : Nat} {W : Wl} {pv dv uv ov av cv ov' : Value} (h : WAt w B K W pv dv uv ov av cv) {d : List MsM} (ho : w'.ownsRow B 39 4 ov' n (msgs d)) (hn : n = d.length) (hg : w.grownBy w' ov.ownBlock) (hv : ov'.ownBlock = ov.ownBlock ∨ ov'.ownBlock = some w.heap.size) : WAt (w'.setCell ⟨K, 19, none⟩ ov') B K ⟨W.m, W.l, W.s, W.down, W.up, d, W.asked, W.acted⟩ pv dv uv ov' av cv ∧ Bl B w (w'.setCell ⟨K, 19, none⟩ ov') := by
  have hlt := lt_heap h.cell
  have hKK : w'.heap[K]? = some (.cells (wlV W pv dv uv ov av cv) 52 (0, 0)) := (KeepE.grown h.od hg K _ 52 (0, 0) h.cell (by decide)).trans h.cell
  have hK := keep_set hKK 19 ov'
  have hB : Bl B w w' := ⟨(Below.refl B w).grown hg (Nat.le_trans h.bk (Nat.le_of_lt hlt)) (own_at h.od), fun k _ hk => KeepE.grown h.od hg k _ 55 (0, 0) hk (by decide)⟩
  refine ⟨⟨(set_any hKK 19 _).trans (by unfold wlV; simp only [List.setIfInBounds_toArray, List.set_cons_zero, List.set_cons_succ]), h.bk, own_keep (own_keep h.pts (KeepE.grown h.od hg) (by decide)) hK (by decide), own_keep (own_other h.dn (fun k ek => hg.block k (own_lt h.dn ek) (fun e => h.ado k ek e.symm))) hK (by decide), own_keep (own_other h.up (fun k ek => hg.block k (own_lt h.up ek) (fun e => h.auo k ek e.symm))) hK (by decide), own_keep (by rw [← hn]; exact ho) hK (by decide), own_keep (own_other h.ak (fun k ek => hg.block k (own_lt h.ak ek) (fun e => (Apart.symm h.aoa) k ek e.symm))) hK (by decide), own_keep (own_keep h.ac (KeepE.grown h.od hg) (by decide)) hK (by decide), h.adu, (Apart.symm (apart_new (Apart.symm h.ado) hv (fun g hgk => own_lt h.dn hgk))), h.ada, (Apart.symm (apart_new (Apart.symm h.auo) hv (fun g hgk => own_lt h.up hgk))), h.aua, (apart_new h.aoa hv (fun g hgk => own_lt h.ak hgk))⟩, hB.trans ⟨(Below.refl B w').setCell (p := ⟨K, 19, none⟩) h.bk _, fun k _ hk => keep_set hKK 19 _ k _ 55 (0, 0) hk (by decide)⟩⟩
theorem WAt.ak' {w w' : World} {B K n : Nat} {W : Wl} {pv dv uv ov av cv av' : Value} (h : WAt w B K W pv dv uv ov av cv) {d : List MsM} (ho : w'.ownsRow B 39 4 av' n (msgs d)) (hn : n = d.length) (hg : w.grownBy w' av.ownBlock) (hv : av'.ownBlock = av.ownBlock ∨ av'.ownBlock = some w.heap.size) : WAt (w'.setCell ⟨K, 20, none⟩ av') B K ⟨W.m, W.l, W.s, W.down, W.up, W.old, d, W.acted⟩ pv dv uv ov av' cv ∧ Bl B w (w'.setCell ⟨K, 20, none⟩ av') := by
  have hlt := lt_heap h.cell
  have hKK : w'.heap[K]? = some (.cells (wlV W pv dv uv ov av cv) 52 (0, 0)) := (KeepE.grown h.ak hg K _ 52 (0, 0) h.cell (by decide)).trans h.cell
  have hK := keep_set hKK 20 av'
  have hB : Bl B w w' := ⟨(Below.refl B w).grown hg (Nat.le_trans h.bk (Nat.le_of_lt hlt)) (own_at h.ak), fun k _ hk => KeepE.grown h.ak hg k _ 55 (0, 0) hk (by decide)⟩
  refine ⟨⟨(set_any hKK 20 _).trans (by unfold wlV; simp only [List.setIfInBounds_toArray, List.set_cons_zero, List.set_cons_succ]), h.bk, own_keep (own_keep h.pts (KeepE.grown h.ak hg) (by decide)) hK (by decide), own_keep (own_other h.dn (fun k ek => hg.block k (own_lt h.dn ek) (fun e => h.ada k ek e.symm))) hK (by decide), own_keep (own_other h.up (fun k ek => hg.block k (own_lt h.up ek) (fun e => h.aua k ek e.symm))) hK (by decide), own_keep (own_other h.od (fun k ek => hg.block k (own_lt h.od ek) (fun e => h.aoa k ek e.symm))) hK (by decide), own_keep (by rw [← hn]; exact ho) hK (by decide), own_keep (own_keep h.ac (KeepE.grown h.ak hg) (by decide)) hK (by decide), h.adu, h.ado, (Apart.symm (apart_new (Apart.symm h.ada) hv (fun g hgk => own_lt h.dn hgk))), h.auo, (Apart.symm (apart_new (Apart.symm h.aua) hv (fun g hgk => own_lt h.up hgk))), (Apart.symm (apart_new (Apart.symm h.aoa) hv (fun g hgk => own_lt h.od hgk)))⟩, hB.trans ⟨(Below.refl B w').setCell (p := ⟨K, 20, none⟩) h.bk _, fun k _ hk => keep_set hKK 20 _ k _ 55 (0, 0) hk (by decide)⟩⟩
theorem WAt.ac' {w w' : World} {B K n : Nat} {W : Wl} {pv dv uv ov av cv cv' : Value} (h : WAt w B K W pv dv uv ov av cv) {d : List Int} (ho : w'.ownsRow B 3 1 cv' n (ints d)) (hn : n = d.length) (hg : w.grownBy w' cv.ownBlock) (_hv : cv'.ownBlock = cv.ownBlock ∨ cv'.ownBlock = some w.heap.size) : WAt (w'.setCell ⟨K, 21, none⟩ cv') B K ⟨W.m, W.l, W.s, W.down, W.up, W.old, W.asked, d⟩ pv dv uv ov av cv' ∧ Bl B w (w'.setCell ⟨K, 21, none⟩ cv') := by
  have hlt := lt_heap h.cell
  have hKK : w'.heap[K]? = some (.cells (wlV W pv dv uv ov av cv) 52 (0, 0)) := (KeepE.grown h.ac hg K _ 52 (0, 0) h.cell (by decide)).trans h.cell
  have hK := keep_set hKK 21 cv'
  have hB : Bl B w w' := ⟨(Below.refl B w).grown hg (Nat.le_trans h.bk (Nat.le_of_lt hlt)) (own_at h.ac), fun k _ hk => KeepE.grown h.ac hg k _ 55 (0, 0) hk (by decide)⟩
  refine ⟨⟨(set_any hKK 21 _).trans (by unfold wlV; simp only [List.setIfInBounds_toArray, List.set_cons_zero, List.set_cons_succ]), h.bk, own_keep (own_keep h.pts (KeepE.grown h.ac hg) (by decide)) hK (by decide), own_keep (own_keep h.dn (KeepE.grown h.ac hg) (by decide)) hK (by decide), own_keep (own_keep h.up (KeepE.grown h.ac hg) (by decide)) hK (by decide), own_keep (own_keep h.od (KeepE.grown h.ac hg) (by decide)) hK (by decide), own_keep (own_keep h.ak (KeepE.grown h.ac hg) (by decide)) hK (by decide), own_keep (by rw [← hn]; exact ho) hK (by decide), h.adu, h.ado, h.ada, h.auo, h.aua, h.aoa⟩, hB.trans ⟨(Below.refl B w').setCell (p := ⟨K, 21, none⟩) h.bk _, fun k _ hk => keep_set hKK 21 _ k _ 55 (0, 0) hk (by decide)⟩⟩

theorem WAt.below {w w' : World} {B K : Nat} {W : Wl} {pv dv uv ov av cv : Value} (h : WAt w B K W pv dv uv ov av cv) (hb : Below w.heap.size w w') : WAt w' B K W pv dv uv ov av cv :=
  ⟨(hb.block K (lt_heap h.cell)).trans h.cell, h.bk, own_below h.pts hb (Nat.le_refl _), own_below h.dn hb (Nat.le_refl _), own_below h.up hb (Nat.le_refl _), own_below h.od hb (Nat.le_refl _), own_below h.ak hb (Nat.le_refl _), own_below h.ac hb (Nat.le_refl _), h.adu, h.ado, h.ada, h.auo, h.aua, h.aoa⟩
/-- What lies at K changes in its first seventeen cells: another master or another station. -/
theorem WAt.turn {w w' : World} {B K : Nat} {W : Wl} {pv dv uv ov av cv pv' : Value} (h : WAt w B K W pv dv uv ov av cv) (hb : But K w w') {m : MaM} {l : List Bool} {s : StM} (hK : w'.heap[K]? = some (.cells (wlV ⟨m, l, s, W.down, W.up, W.old, W.asked, W.acted⟩ pv' dv uv ov av cv) 52 (0, 0))) (hp : w'.ownsRow 0 4 1 pv' l.length (l.map Value.bool)) : WAt w' B K ⟨m, l, s, W.down, W.up, W.old, W.asked, W.acted⟩ pv' dv uv ov av cv ∧ Bl B w w' := by
  have hk := but_keep hb h.cell
  exact ⟨⟨hK, h.bk, hp, own_keep h.dn hk (by decide), own_keep h.up hk (by decide), own_keep h.od hk (by decide), own_keep h.ak hk (by decide), own_keep h.ac hk (by decide), h.adu, h.ado, h.ada, h.auo, h.aua, h.aoa⟩, but_bl hb h.cell (by decide) h.bk (Nat.le_trans h.bk (Nat.le_of_lt (lt_heap h.cell)))⟩
theorem putM {w : World} {K e : Nat} {x0 x1 x2 x3 x4 x5 x6 x7 x8 x9 x10 x11 x12 x13 x14 x15 x16 x17 x18 x19 x20 x21 : Value} (h : w.heap[K]? = some (.cells #[x0, x1, x2, x3, x4, x5, x6, x7, x8, x9, x10, x11, x12, x13, x14, x15, x16, x17, x18, x19, x20, x21] e (0, 0))) (v0 v1 v2 v3 v4 v5 v6 v7 v8 v9 : Value) : ((((((((((w.setCell ⟨K, 0, none⟩ v0).setCell ⟨K, 1, none⟩ v1).setCell ⟨K, 2, none⟩ v2).setCell ⟨K, 3, none⟩ v3).setCell ⟨K, 4, none⟩ v4).setCell ⟨K, 5, none⟩ v5).setCell ⟨K, 6, none⟩ v6).setCell ⟨K, 7, none⟩ v7).setCell ⟨K, 8, none⟩ v8).setCell ⟨K, 9, none⟩ v9).heap[K]? = some (.cells #[v0, v1, v2, v3, v4, v5, v6, v7, v8, v9, x10, x11, x12, x13, x14, x15, x16, x17, x18, x19, x20, x21] e (0, 0)) ∧ But K w ((((((((((w.setCell ⟨K, 0, none⟩ v0).setCell ⟨K, 1, none⟩ v1).setCell ⟨K, 2, none⟩ v2).setCell ⟨K, 3, none⟩ v3).setCell ⟨K, 4, none⟩ v4).setCell ⟨K, 5, none⟩ v5).setCell ⟨K, 6, none⟩ v6).setCell ⟨K, 7, none⟩ v7).setCell ⟨K, 8, none⟩ v8).setCell ⟨K, 9, none⟩ v9) := by
  refine ⟨?_, But.set (But.set (But.set (But.set (But.set (But.set (But.set (But.set (But.set (But.set (But.refl K w) _ _) _ _) _ _) _ _) _ _) _ _) _ _) _ _) _ _) _ _⟩
  exact (set_any (set_any (set_any (set_any (set_any (set_any (set_any (set_any (set_any (set_any (h) 0 _) 1 _) 2 _) 3 _) 4 _) 5 _) 6 _) 7 _) 8 _) 9 _).trans (by simp only [List.setIfInBounds_toArray, List.set_cons_zero, List.set_cons_succ])
theorem putS {w : World} {K e : Nat} {x0 x1 x2 x3 x4 x5 x6 x7 x8 x9 x10 x11 x12 x13 x14 x15 x16 x17 x18 x19 x20 x21 : Value} (h : w.heap[K]? = some (.cells #[x0, x1, x2, x3, x4, x5, x6, x7, x8, x9, x10, x11, x12, x13, x14, x15, x16, x17, x18, x19, x20, x21] e (0, 0))) (v10 v11 v12 v13 v14 v15 v16 : Value) : (((((((w.setCell ⟨K, 10, none⟩ v10).setCell ⟨K, 11, none⟩ v11).setCell ⟨K, 12, none⟩ v12).setCell ⟨K, 13, none⟩ v13).setCell ⟨K, 14, none⟩ v14).setCell ⟨K, 15, none⟩ v15).setCell ⟨K, 16, none⟩ v16).heap[K]? = some (.cells #[x0, x1, x2, x3, x4, x5, x6, x7, x8, x9, v10, v11, v12, v13, v14, v15, v16, x17, x18, x19, x20, x21] e (0, 0)) ∧ But K w (((((((w.setCell ⟨K, 10, none⟩ v10).setCell ⟨K, 11, none⟩ v11).setCell ⟨K, 12, none⟩ v12).setCell ⟨K, 13, none⟩ v13).setCell ⟨K, 14, none⟩ v14).setCell ⟨K, 15, none⟩ v15).setCell ⟨K, 16, none⟩ v16) := by
  refine ⟨?_, But.set (But.set (But.set (But.set (But.set (But.set (But.set (But.refl K w) _ _) _ _) _ _) _ _) _ _) _ _) _ _⟩
  exact (set_any (set_any (set_any (set_any (set_any (set_any (set_any (h) 10 _) 11 _) 12 _) 13 _) 14 _) 15 _) 16 _).trans (by simp only [List.setIfInBounds_toArray, List.set_cons_zero, List.set_cons_succ])

theorem msgs_one (l : List MsM) : ∀ u ∈ msgs l, u.oneCell' = true := fun u hu => by
  unfold msgs at hu
  obtain ⟨m, _, hm⟩ := List.mem_flatMap.1 hu
  unfold MsM.cells at hm
  simp at hm
  rcases hm with rfl | rfl | rfl | rfl <;> rfl
theorem msgs_app (a b : List MsM) : msgs (a ++ b) = msgs a ++ msgs b := by unfold msgs; rw [List.flatMap_append]
theorem Try.info39' : (Try.prog.info? 39).map (fun i => (i.zero, i.size, i.bytes)) = some (some (.agg #[.int .i64 0, .int .i64 0, .int .i64 0, .bool false]), 4, 32) := by kernel_rfl
end Go.Proofs.Ytjhmendiefojoam
