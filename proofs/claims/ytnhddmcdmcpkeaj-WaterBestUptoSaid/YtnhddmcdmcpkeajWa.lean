/- Hour by hour. -/
import Derived.Test.YtnhddmcdmcpkeajW9
import Derived.Maps.AppendAt
namespace Go.Proofs.Ytnhddmcdmcpkeaj
open Go.RowKit Go.Shelf

theorem Try.info39' : (Try.prog.info? 39).map (fun i => (i.zero, i.size, i.bytes)) = some (some (.slice none 0 0), 1, 24) := by kernel_rfl
theorem step_append_at {P : Program} {ops : Array Oper} {o : Oper} {a : Act} {w : World} {K : Act → World → Prop} {Q : Exit → Act → World → Prop} {E : Prop}
    (hg : o.guard = none) (s x : Operand) (t : TypeId) (hop : o.op = Op.call { callee := Callee.builtin Builtin.append, args := #[s, x], argTypes := #[t, t] })
    (base : Nat) (e : TypeId) (i : TypeInfo) (z : Value) (size bytes : Nat) (h1 : P.underlying t = some (.slice e)) (h2 : P.info? e = some i) (h3 : i.zero = some z) (h4 : i.size = size) (h5 : i.bytes = bytes) (h6 : z.cells.size = size) (h7 : 0 < size)
    (v : Value) (n : Nat) (xs : List Value) (hs : a.eval s = v) (hown : w.ownsRow base e size v n xs)
    (ad : Addr) (m c : Nat) (news : List Value) (hx : a.eval x = .slice (some ad) m c) (hn : news.length = m * size) (hc : ∀ j u, news[j]? = some u → w.cell? (ad.add j) = some u) (h1c : ∀ u ∈ news, u.oneCell' = true)
    (b1 : n + m ≤ maxLen) (b2 : (n + m) * bytes ≤ 140737488355328) (b3 : base ≤ w.heap.size)
    (hK : ∀ v' w', w'.ownsRow base e size v' (n + m) (xs ++ news) → w.grownBy w' v.ownBlock → (v'.ownBlock = v.ownBlock ∨ v'.ownBlock = some w.heap.size) → K (a.put o.dst v') w') :
    if Region.wanted o (yielded ops a.tmps) = true then Oper.wp P o a w K Q else E := by
  have hw : Region.wanted o (yielded ops a.tmps) = true := by simp [Region.wanted, hg]
  rw [if_pos hw]
  obtain ⟨v', w', hrun, r1, r2, _, r3⟩ := run_append_own_at (P := P) w base t o.type e i z size bytes h1 h2 h3 h4 h5 h6 h7 v n xs hown ad m c news hn hc h1c b1 b2 b3
  unfold Oper.wp
  simp [execOp, hop, resolve, invoke, builtin, hs, hx, hrun, Result.andThen]
  exact hK v' w' r1 r2 r3
def Apart (a b : Value) : Prop := ∀ k, a.ownBlock = some k → b.ownBlock ≠ some k
/-- The hours so far: the boxes, and the rows that grow. -/
structure RS (w W : World) (B S : Nat) (bc sc : Array Value) (lv sp : Value) (tl ts : List (List Int)) : Prop where
  hB : W.heap[B]? = some (.cells bc 75 (0, 0))
  hS : W.heap[S]? = some (.cells sc 119 (0, 0))
  sS : w.heap.size ≤ S
  a : StepsAt W w.heap.size lv tl
  b : StepsAt W w.heap.size sp ts
  ap : Apart lv sp
  bel : Below w.heap.size w W
section
variable {w W W' : World} {B S : Nat} {bc sc : Array Value} {lv sp : Value} {tl ts : List (List Int)}
theorem RS.more (h : RS w W B S bc sc lv sp tl ts) (hb : Below W.heap.size W W') : RS w W' B S bc sc lv sp tl ts :=
  ⟨(hb.block B (lt_heap h.hB)).trans h.hB, (hb.block S (lt_heap h.hS)).trans h.hS, h.sS, h.a.below hb, h.b.below hb, h.ap, h.bel.trans (hb.mono h.bel.size)⟩
/-- A store into the standing. -/
theorem RS.set (h : RS w W B S bc sc lv sp tl ts) (j : Nat) (x : Value) : RS w (W.setCell ⟨S, j, none⟩ x) B S bc (sc.setIfInBounds j x) lv sp tl ts :=
  ⟨(keep_set h.hS j x B _ _ _ h.hB (by decide)).trans h.hB, set_any h.hS j x, h.sS, h.a.keep (keep_set h.hS j x) (by decide) (by decide), h.b.keep (keep_set h.hS j x) (by decide) (by decide), h.ap, h.bel.setCell (p := ⟨S, j, none⟩) h.sS x⟩
/-- A store into another box, of type 61. -/
theorem RS.over (h : RS w W B S bc sc lv sp tl ts) {Ov : Nat} {oc : Array Value} (ho : W.heap[Ov]? = some (.cells oc 117 (0, 0))) (hs : w.heap.size ≤ Ov) (j : Nat) (x : Value) : RS w (W.setCell ⟨Ov, j, none⟩ x) B S bc sc lv sp tl ts :=
  ⟨(keep_set ho j x B _ _ _ h.hB (by decide)).trans h.hB, (keep_set ho j x S _ _ _ h.hS (by decide)).trans h.hS, h.sS, h.a.keep (keep_set ho j x) (by decide) (by decide), h.b.keep (keep_set ho j x) (by decide) (by decide), h.ap, h.bel.setCell (p := ⟨Ov, j, none⟩) hs x⟩
theorem grown_keep {e : TypeId} {n k : Nat} {v : Value} {xs : List Value} {o : Obj} {cur : Array Value} (h : W.ownsRow w.heap.size 39 1 v n xs) (hg : (W.alloc o).grownBy W' v.ownBlock) (hk : W.heap[k]? = some (.cells cur e (0, 0))) (he : 39 ≠ e) : W'.heap[k]? = some (.cells cur e (0, 0)) := by
  have h1 := (alloc_old W o (lt_heap hk)).trans hk
  exact (hg.block k (lt_heap h1) (fun q => own_not h hk he q.symm)).trans h1
theorem own_lt {B e sz n : Nat} {v : Value} {xs : List Value} (h : W.ownsRow B e sz v n xs) {k : Nat} (hk : v.ownBlock = some k) : k < W.heap.size := by
  rcases h.2 with ⟨h1, _⟩ | ⟨g, cap, cur, h3, _, h5, _⟩
  · rw [h1] at hk; cases hk
  · rw [h3] at hk
    have : g = k := by simpa [Value.ownBlock] using hk
    subst this
    exact lt_heap h5
theorem apart_new {v v' s2 : Value} {ts : List (List Int)} {o : Obj} (hap : Apart v s2) (h2 : StepsAt W w.heap.size s2 ts) (hat : v'.ownBlock = v.ownBlock ∨ v'.ownBlock = some (W.alloc o).heap.size) : Apart v' s2 := fun k hk h => by
  obtain ⟨_, _, g2, _⟩ := h2
  have hlt := own_lt g2 h
  rcases hat with e | e
  · exact hap k (e ▸ hk) h
  · rw [hk] at e
    have e2 := Option.some.inj e
    rw [World.size_alloc] at e2
    omega
theorem RS.growA {l : List Int} {v' ov : Value} {vals : List Value} {o : Obj} {n : Nat} (h : RS w W B S bc sc lv sp tl ts) (hl : vals.length = tl.length) (ho : W.ownsRow w.heap.size 39 1 lv tl.length vals) (hr : ∀ (j : Nat) (x : Value) (l : List Int), vals[j]? = some x → tl[j]? = some l → W.ownsRow w.heap.size 3 1 x l.length (ints l)) (hov : W.ownsRow w.heap.size 3 1 ov l.length (ints l)) (hown : W'.ownsRow w.heap.size 39 1 v' n (vals ++ [ov])) (hn : n = tl.length + 1) (hg : (W.alloc o).grownBy W' lv.ownBlock) (hat : v'.ownBlock = lv.ownBlock ∨ v'.ownBlock = some (W.alloc o).heap.size) : RS w W' B S bc sc v' sp (tl ++ [l]) ts :=
  ⟨grown_keep ho hg h.hB (by decide), grown_keep ho hg h.hS (by decide), h.sS, StepsAt.more hl ho hr hov hown hn hg, (h.b.below (below_al W o)).grown (own_below ho (below_al W o) (Nat.le_refl _)) (fun k hk h2 => h.ap k h2 hk) hg, apart_new h.ap h.b hat, (h.bel.trans ((below_al W o).mono h.bel.size)).grown hg (Nat.le_trans h.bel.size (below_al W o).size) (own_at (own_below ho (below_al W o) (Nat.le_refl _)))⟩
theorem RS.growB {l : List Int} {v' ov : Value} {vals : List Value} {o : Obj} {n : Nat} (h : RS w W B S bc sc lv sp tl ts) (hl : vals.length = ts.length) (ho : W.ownsRow w.heap.size 39 1 sp ts.length vals) (hr : ∀ (j : Nat) (x : Value) (l : List Int), vals[j]? = some x → ts[j]? = some l → W.ownsRow w.heap.size 3 1 x l.length (ints l)) (hov : W.ownsRow w.heap.size 3 1 ov l.length (ints l)) (hown : W'.ownsRow w.heap.size 39 1 v' n (vals ++ [ov])) (hn : n = ts.length + 1) (hg : (W.alloc o).grownBy W' sp.ownBlock) (hat : v'.ownBlock = sp.ownBlock ∨ v'.ownBlock = some (W.alloc o).heap.size) : RS w W' B S bc sc lv v' tl (ts ++ [l]) :=
  ⟨grown_keep ho hg h.hB (by decide), grown_keep ho hg h.hS (by decide), h.sS, (h.a.below (below_al W o)).grown (own_below ho (below_al W o) (Nat.le_refl _)) (fun k hk h2 => h.ap k hk h2) hg, StepsAt.more hl ho hr hov hown hn hg, fun k hk h2 => apart_new (fun k a b => h.ap k b a) h.a hat k h2 hk, (h.bel.trans ((below_al W o).mono h.bel.size)).grown hg (Nat.le_trans h.bel.size (below_al W o).size) (own_at (own_below ho (below_al W o) (Nat.le_refl _)))⟩
end
/-- The same, and the box of what spilled. -/
structure RQ (w W : World) (B S Ov : Nat) (bc : Array Value) (n0 n1 n2 n3 va vb : Int) (lv sp : Value) (tl ts : List (List Int)) : Prop where
  rs : RS w W B S bc #[.int .i64 n0, .int .i64 n1, .int .i64 n2, .int .i64 n3] lv sp tl ts
  hO : W.heap[Ov]? = some (.cells #[.int .i64 va, .int .i64 vb] 117 (0, 0))
section
variable {w W W' : World} {B S Ov : Nat} {bc : Array Value} {n0 n1 n2 n3 va vb : Int} {lv sp : Value} {tl ts : List (List Int)}
theorem RQ.c0 (h : RQ w W B S Ov bc n0 n1 n2 n3 va vb lv sp tl ts) : W.cell? ⟨S, 0, none⟩ = some (.int .i64 n0) := (cells_at h.rs.hS 0).trans rfl
theorem RQ.c1 (h : RQ w W B S Ov bc n0 n1 n2 n3 va vb lv sp tl ts) : W.cell? ⟨S, 1, none⟩ = some (.int .i64 n1) := (cells_at h.rs.hS 1).trans rfl
theorem RQ.c2 (h : RQ w W B S Ov bc n0 n1 n2 n3 va vb lv sp tl ts) : W.cell? ⟨Ov, 0, none⟩ = some (.int .i64 va) := (cells_at h.hO 0).trans rfl
theorem RQ.c3 (h : RQ w W B S Ov bc n0 n1 n2 n3 va vb lv sp tl ts) : W.cell? ⟨Ov, 1, none⟩ = some (.int .i64 vb) := (cells_at h.hO 1).trans rfl
theorem RQ.sz (h : RQ w W B S Ov bc n0 n1 n2 n3 va vb lv sp tl ts) : w.heap.size ≤ W.heap.size := h.rs.bel.size
theorem RQ.more (h : RQ w W B S Ov bc n0 n1 n2 n3 va vb lv sp tl ts) (hb : Below W.heap.size W W') : RQ w W' B S Ov bc n0 n1 n2 n3 va vb lv sp tl ts := ⟨h.rs.more hb, (hb.block Ov (lt_heap h.hO)).trans h.hO⟩
theorem RQ.growA {l : List Int} {v' ov : Value} {vals : List Value} {o : Obj} {n : Nat} (h : RQ w W B S Ov bc n0 n1 n2 n3 va vb lv sp tl ts) (hl : vals.length = tl.length) (ho : W.ownsRow w.heap.size 39 1 lv tl.length vals) (hr : ∀ (j : Nat) (x : Value) (l : List Int), vals[j]? = some x → tl[j]? = some l → W.ownsRow w.heap.size 3 1 x l.length (ints l)) (hov : W.ownsRow w.heap.size 3 1 ov l.length (ints l)) (hown : W'.ownsRow w.heap.size 39 1 v' n (vals ++ [ov])) (hn : n = tl.length + 1) (hg : (W.alloc o).grownBy W' lv.ownBlock) (hat : v'.ownBlock = lv.ownBlock ∨ v'.ownBlock = some (W.alloc o).heap.size) : RQ w W' B S Ov bc n0 n1 n2 n3 va vb v' sp (tl ++ [l]) ts :=
  ⟨h.rs.growA hl ho hr hov hown hn hg hat, grown_keep ho hg h.hO (by decide)⟩
theorem RQ.growB {l : List Int} {v' ov : Value} {vals : List Value} {o : Obj} {n : Nat} (h : RQ w W B S Ov bc n0 n1 n2 n3 va vb lv sp tl ts) (hl : vals.length = ts.length) (ho : W.ownsRow w.heap.size 39 1 sp ts.length vals) (hr : ∀ (j : Nat) (x : Value) (l : List Int), vals[j]? = some x → ts[j]? = some l → W.ownsRow w.heap.size 3 1 x l.length (ints l)) (hov : W.ownsRow w.heap.size 3 1 ov l.length (ints l)) (hown : W'.ownsRow w.heap.size 39 1 v' n (vals ++ [ov])) (hn : n = ts.length + 1) (hg : (W.alloc o).grownBy W' sp.ownBlock) (hat : v'.ownBlock = sp.ownBlock ∨ v'.ownBlock = some (W.alloc o).heap.size) : RQ w W' B S Ov bc n0 n1 n2 n3 va vb lv v' tl (ts ++ [l]) :=
  ⟨h.rs.growB hl ho hr hov hown hn hg hat, grown_keep ho hg h.hO (by decide)⟩
end
theorem good_bounds {ls : List LakeM} {L : Nat} {s : Stnd} (hok : ∀ k ∈ ls, LakeOk k) (hl : ls.length = L) (g : Good ls L s) : (0 ≤ s.l0 ∧ s.l0 ≤ 20 ∧ 0 ≤ s.l1 ∧ s.l1 ≤ 20) ∧ s.u0 = 0 ∧ 0 ≤ s.u1 ∧ s.u1 ≤ 30 := by
  refine ⟨?_, g.u, g.v⟩
  have h0 : 0 ≤ s.l0 ∧ s.l0 ≤ 20 := by
    by_cases h : 0 < L
    · have ok := lkD_ok hok (i := 0) (by omega)
      have := g.a h; have := ok.l; have := ok.x; omega
    · have := g.a' h; omega
  have h1 : 0 ≤ s.l1 ∧ s.l1 ≤ 20 := by
    by_cases h : 1 < L
    · have ok := lkD_ok hok (i := 1) (by omega)
      have := g.b h; have := ok.l; have := ok.x; omega
    · have := g.b' h; omega
  exact ⟨h0.1, h0.2, h1⟩
theorem full_bounds {ls : List LakeM} {L : Nat} {s : Stnd} {inr : List Int} (hok : ∀ k ∈ ls, LakeOk k) (hl : ls.length = L) (hin : ∀ i, i < L → 0 ≤ inr.getD i 0 ∧ inr.getD i 0 ≤ 10) (g : Good ls L s) : 0 ≤ (full2 L s inr).a ∧ (full2 L s inr).a ≤ 100 ∧ 0 ≤ (full2 L s inr).b ∧ (full2 L s inr).b ≤ 100 := by
  have hb := good_bounds hok hl g
  unfold full2 fillOf
  have h0 : 0 ≤ (if 0 < L then s.l0 + (inr.getD 0 0 + s.u0) else s.l0) ∧ (if 0 < L then s.l0 + (inr.getD 0 0 + s.u0) else s.l0) ≤ 100 := by
    split
    · next h => have := hin 0 h; omega
    · omega
  have h1 : 0 ≤ (if 1 < L then s.l1 + (inr.getD 1 0 + s.u1) else s.l1) ∧ (if 1 < L then s.l1 + (inr.getD 1 0 + s.u1) else s.l1) ≤ 100 := by
    split
    · next h => have := hin 1 h; omega
    · omega
  exact ⟨h0.1, h0.2, h1⟩
theorem rel_bounds {ls : List LakeM} {L : Nat} {f : Pair2} {rr : List Int} (hok : ∀ k ∈ ls, LakeOk k) (hl : ls.length = L) (h : askB rr (free2 ls L f).a (free2 ls L f).b L = true) : 0 ≤ (rel2 L rr).a ∧ (rel2 L rr).a ≤ 4 ∧ 0 ≤ (rel2 L rr).b ∧ (rel2 L rr).b ≤ 4 := by
  have hq := askB_iff.1 h
  unfold rel2
  have h0 : 0 ≤ (if 0 < L then rr.getD 0 0 else 0) ∧ (if 0 < L then rr.getD 0 0 else 0) ≤ 4 := by
    split
    · next h =>
      have ok := lkD_ok hok (i := 0) (by omega)
      have q := hq.1 h
      have e : (free2 ls L f).a = freeOf (lkD ls 0) f.a := if_pos h
      rw [e] at q
      have := ok.t
      unfold freeOf at q
      split at q <;> omega
    · omega
  have h1 : 0 ≤ (if 1 < L then rr.getD 1 0 else 0) ∧ (if 1 < L then rr.getD 1 0 else 0) ≤ 4 := by
    split
    · next h =>
      have ok := lkD_ok hok (i := 1) (by omega)
      have q := hq.2 h
      have e : (free2 ls L f).b = freeOf (lkD ls 1) f.b := if_pos h
      rw [e] at q
      have := ok.t
      unfold freeOf at q
      split at q <;> omega
    · omega
  exact ⟨h0.1, h0.2, h1⟩
theorem ask2 {rr : List Int} {f0 f1 : Int} {L : Nat} {e : Ending} (h : AskO rr f0 f1 L e) : ∃ (m0 m1 : Int) (q : Bool), e = .returned (.tuple #[.agg #[.int .i64 m0, .int .i64 m1], .bool q]) ∧ q = askB rr f0 f1 L ∧ (q = true → m0 = (rel2 L rr).a ∧ m1 = (rel2 L rr).b) := by
  rcases h with ⟨h, rfl⟩ | ⟨h, rfl⟩
  · exact ⟨_, _, _, rfl, h.symm, fun _ => ⟨rfl, rfl⟩⟩
  · exact ⟨_, _, _, rfl, h.symm, fun e => by cases e⟩
def RunO (ls : List LakeM) (L : Nat) (ti tr : List (List Int)) (H : Nat) (w : World) (e : Ending) (w' : World) : Prop :=
  ((runK ls L ti tr H = none ∧ e = .returned (.tuple #[.slice none 0 0, .slice none 0 0, .int .i64 15])) ∨ ∃ r v1 v2, runK ls L ti tr H = some r ∧ e = .returned (.tuple #[v1, v2, .int .i64 0]) ∧ StepsAt w' w.heap.size v1 r.lv ∧ StepsAt w' w.heap.size v2 r.sp) ∧ Below w.heap.size w w'
theorem tab_len {t : List (List Int)} {L k : Nat} (h : ∀ l ∈ t, l.length = L) (hk : k < t.length) : (t[k]).length = L := h _ (List.getElem_mem hk)
theorem getD_at {t : List (List Int)} {k : Nat} (hk : k < t.length) : t.getD k [] = t[k] := by rw [List.getD_eq_getElem?_getD, List.getElem?_eq_getElem hk]; rfl
theorem run_len {ls : List LakeM} {L : Nat} {ti tr : List (List Int)} : ∀ {k : Nat} {r : RunR}, runK ls L ti tr k = some r → r.lv.length = k ∧ r.sp.length = k
  | 0, r, h => by
    unfold runK at h
    cases h
    exact ⟨rfl, rfl⟩
  | k + 1, r, h => by
    unfold runK at h
    split at h
    · cases h
    · next r0 h0 =>
      split at h
      · cases h
        obtain ⟨e1, e2⟩ := run_len h0
        exact ⟨by simp [e1], by simp [e2]⟩
      · cases h

set_option maxRecDepth 100000 in
set_option maxHeartbeats 8000000 in
theorem run_any (ls : List LakeM) (hok : ∀ k ∈ ls, LakeOk k) (ti tr : List (List Int)) (al ai ar : Option Addr) (L H cl ci cr : Nat) (w : World) (hx : RowAt w (.slice al L cl) ls.length 5 (ls.flatMap LakeM.cells)) (hl : ls.length = L) (hL : L ≤ 2) (hti : TabAt w (.slice ai H ci) ti) (htr : TabAt w (.slice ar H cr) tr) (e1 : ti.length = H) (e2 : tr.length = H) (hH : H ≤ 8) (hli : ∀ l ∈ ti, l.length = L) (hlr : ∀ l ∈ tr, l.length = L) (hin : ∀ l ∈ ti, ∀ x ∈ l, 0 ≤ x ∧ x ≤ 10) :
    Calls Try.prog 40 #[.agg #[.slice al L cl, .slice ai H ci], .slice ar H cr] w fun e w' => RunO ls L ti tr H w e w' := by
  obtain ⟨i23, hi23, h230, h231, h232⟩ := info_parts Try.info39'
  have HX := hide' hx
  have HL := hide' hl
  have HOK := hide' hok
  have HTI := hide' hti
  have HTR := hide' htr
  have HE := hide' (And.intro e1 e2)
  have HLI := hide' hli
  have HLR := hide' hlr
  have HIN := hide' hin
  have HPO : Hid (∀ e w', RunO ls L ti tr H w e w' → RunO ls L ti tr H w e w') := fun _ _ h => h
  obtain ⟨PO, hPO⟩ : ∃ P, P = RunO ls L ti tr H w := ⟨_, rfl⟩
  show Calls Try.prog 40 #[.agg #[.slice al L cl, .slice ai H ci], .slice ar H cr] w (RunO ls L ti tr H w)
  rw [← hPO]
  have HRO : Hid (∀ e w', RunO ls L ti tr H w e w' → PO e w') := fun e w' h => by rw [hPO]; exact h
  clear hx hl hok hti htr e1 e2 hli hlr hin HPO hPO
  obtain ⟨p0, p1, hsta⟩ : ∃ p0 p1 : Int, startA ls L = #[.int .i64 p0, .int .i64 p1, .int .i64 0, .int .i64 0] := ⟨_, _, rfl⟩
  have HSC : Hid ((startS ls L).cells = #[.int .i64 p0, .int .i64 p1, .int .i64 0, .int .i64 0]) := hsta
  have HST : Hid (∀ W, Below w.heap.size w W → Calls Try.prog 61 #[.agg #[.slice al L cl, .slice ai H ci]] W fun e w' => e = .returned (.agg #[.int .i64 p0, .int .i64 p1, .int .i64 0, .int .i64 0]) ∧ Below W.heap.size W w') := fun W hb => by
    rw [← hsta]
    exact start_any ls al L cl _ W (HX.out.below hb (Nat.le_refl _)) HL.out hL
  clear hsta
  go_enter Try.func40, Try.ntmps40
  go_upto_region 1 with fail
  have hqB := alloc_new w (.cells #[.slice al L cl, .slice ai H ci] 75)
  have hb1 := below_al w (.cells #[.slice al L cl, .slice ai H ci] 75)
  obtain ⟨w1, hw1⟩ : ∃ x, x = (w.alloc (.cells #[.slice al L cl, .slice ai H ci] 75)) := ⟨_, rfl⟩
  rw [← hw1] at hqB hb1 ⊢
  obtain ⟨B, hnB⟩ : ∃ x, x = w.heap.size := ⟨_, rfl⟩
  have HNE : Hid (w.heap.size ≤ B) := by show _ ≤ _; omega
  rw [← hnB] at hqB
  rw [show (Value.pointer (some { block := w.heap.size, off := 0 })) = Value.pointer (some { block := B, off := 0 }) by rw [hnB]]
  have HQB := hide' hqB
  have HB1 := hide' hb1
  clear hqB hb1 hw1 hnB
  have HST1 : Hid (∀ W, Below w1.heap.size w1 W → Calls Try.prog 61 #[.agg #[.slice al L cl, .slice ai H ci]] W fun e w' => e = .returned (.agg #[.int .i64 p0, .int .i64 p1, .int .i64 0, .int .i64 0]) ∧ Below W.heap.size W w') := fun W hb => HST.out W (HB1.out.trans (hb.mono HB1.out.size))
  clear HST
  go_cut [7, 8] from 14 to 18 (fun p x wc => ∃ S, p = .pointer (some ⟨S, 0, none⟩) ∧ x = .int .i64 (L : Int) ∧ Hid (Below w1.heap.size w1 wc ∧ wc.heap[S]? = some (.cells #[.int .i64 p0, .int .i64 p1, .int .i64 0, .int .i64 0] 119 (0, 0)) ∧ w1.heap.size ≤ S))
  case first =>
    have b0 : Hid (w1.cell? ⟨B, 0, none⟩ = some (.slice al L cl)) := (cells_at HQB.out 0).trans rfl
    have b1 : Hid (w1.cell? ⟨B, 1, none⟩ = some (.slice ai H ci)) := (cells_at HQB.out 1).trans rfl
    refine wp_region_tail (fun W => W.cell? ⟨B, 0, none⟩ = some (.slice al L cl) ∧ W.cell? ⟨B, 1, none⟩ = some (.slice ai H ci)) 7 (by kernel_rfl) ?_
    refine wpAnyT_letter (fun W => Below w1.heap.size w1 W) (Below.refl _ w1).drew ?_
    rintro z hbz
    refine wpAnyD_takeAt 0 (some 14) (v := ?_) rfl (by kernel_rfl) (by kernel_rfl) (by kernel_rfl) (by kernel_rfl) (by kernel_rfl) (fun _ _ _ h => h) (by exact ⟨up_cell hbz b0.out, up_cell hbz b1.out⟩) (fun o hop => ?_) ?_
    rotate_left
    · injection hop with hop
      subst hop
      refine ⟨rfl, fun W hW => ?_⟩
      obtain ⟨s0, s1⟩ := hW
      go_simp
      first
      | rfl
      | (constructor <;> rfl)
      | rw [if_neg (by omega)]
    try simp only [Act.put, List.setIfInBounds_toArray, List.set_cons_zero, List.set_cons_succ]
    refine wpAnyD_takeAt 2 (some 16) (v := ?_) rfl (by kernel_rfl) (by kernel_rfl) (by kernel_rfl) (by kernel_rfl) (by kernel_rfl) (fun _ _ _ h => h) (by exact ⟨up_cell hbz b0.out, up_cell hbz b1.out⟩) (fun o hop => ?_) ?_
    rotate_left
    · injection hop with hop
      subst hop
      refine ⟨rfl, fun W hW => ?_⟩
      obtain ⟨s0, s1⟩ := hW
      go_simp
      first
      | rfl
      | (constructor <;> rfl)
      | rw [if_neg (by omega)]
    try simp only [Act.put, List.setIfInBounds_toArray, List.set_cons_zero, List.set_cons_succ]
    refine wpAnyD_takeAt 3 (some 17) (v := ?_) rfl (by kernel_rfl) (by kernel_rfl) (by kernel_rfl) (by kernel_rfl) (by kernel_rfl) (fun _ _ _ h => h) (by exact ⟨up_cell hbz b0.out, up_cell hbz b1.out⟩) (fun o hop => ?_) ?_
    rotate_left
    · injection hop with hop
      subst hop
      refine ⟨rfl, fun W hW => ?_⟩
      obtain ⟨s0, s1⟩ := hW
      go_simp
      first
      | rfl
      | (constructor <;> rfl)
      | rw [if_neg (by omega)]
    try simp only [Act.put, List.setIfInBounds_toArray, List.set_cons_zero, List.set_cons_succ]
    refine wpAnyD_takeAt 4 (some 18) (v := ?_) rfl (by kernel_rfl) (by kernel_rfl) (by kernel_rfl) (by kernel_rfl) (by kernel_rfl) (fun _ _ _ h => h) (by exact ⟨up_cell hbz b0.out, up_cell hbz b1.out⟩) (fun o hop => ?_) ?_
    rotate_left
    · injection hop with hop
      subst hop
      refine ⟨rfl, fun W hW => ?_⟩
      obtain ⟨s0, s1⟩ := hW
      go_simp
      first
      | rfl
      | (constructor <;> rfl)
      | rw [if_neg (by omega)]
    try simp only [Act.put, List.setIfInBounds_toArray, List.set_cons_zero, List.set_cons_succ]
    refine wpAnyT_two (i := 1) (j := 5) (by kernel_rfl) rfl rfl rfl rfl (fun K' hK => ?_) (fun K' hK => ?_)
    · go_simp
      go_at_call 61
      refine (HST1.out z hbz).mono ?_
      rintro e z2 ⟨rfl, hb2⟩
      replace hbz := hbz.trans (hb2.mono hbz.size)
      clear hb2
      refine hK.out _ _ (fun _ => by exact ⟨up_cell hbz b0.out, up_cell hbz b1.out⟩) ?_
      clear hK K'
      refine wpAnyT_one (i := 5) (by kernel_rfl) rfl rfl (fun K' hK => ?_)
      go_simp
      refine hK.out _ _ (fun _ => by exact ⟨up_cell (hbz.trans ((below_al _ _).mono hbz.size)) b0.out, up_cell (hbz.trans ((below_al _ _).mono hbz.size)) b1.out⟩) ?_
      clear hK K'
      obtain ⟨D, hD⟩ : ∃ x, x = z2.heap.size := ⟨_, rfl⟩
      rw [← hD]
      refine wpAnyT_letter (fun W => Below w1.heap.size w1 W ∧ W.heap[D]? = some (.cells #[.int .i64 0, .int .i64 0, .int .i64 0, .int .i64 0] 119 (0, 0)) ∧ w1.heap.size ≤ D) ⟨hbz.trans ((below_al _ _).mono hbz.size), (by rw [hD]; exact alloc_new _ _), (by rw [hD]; exact hbz.size)⟩ ?_
      clear hbz hD
      rintro z3 ⟨hbz, hzd, hsd⟩
      have s0 : z3.cell? ⟨D, 0, none⟩ = some (.int .i64 0) := (cells_at hzd 0).trans rfl
      have s1 : z3.cell? ⟨D, 1, none⟩ = some (.int .i64 0) := (cells_at hzd 1).trans rfl
      have s2 : z3.cell? ⟨D, 2, none⟩ = some (.int .i64 0) := (cells_at hzd 2).trans rfl
      have s3 : z3.cell? ⟨D, 3, none⟩ = some (.int .i64 0) := (cells_at hzd 3).trans rfl
      have t0 := frozen_no hzd 0
      have t1 := frozen_no hzd 1
      have t2 := frozen_no hzd 2
      have t3 := frozen_no hzd 3
      have hfin : Below w1.heap.size w1 ((((z3.setCell ⟨D, 0, none⟩ (.int .i64 p0)).setCell ⟨D, 1, none⟩ (.int .i64 p1)).setCell ⟨D, 2, none⟩ (.int .i64 0)).setCell ⟨D, 3, none⟩ (.int .i64 0)) ∧ ((((z3.setCell ⟨D, 0, none⟩ (.int .i64 p0)).setCell ⟨D, 1, none⟩ (.int .i64 p1)).setCell ⟨D, 2, none⟩ (.int .i64 0)).setCell ⟨D, 3, none⟩ (.int .i64 0)).heap[D]? = some (.cells #[.int .i64 p0, .int .i64 p1, .int .i64 0, .int .i64 0] 119 (0, 0)) := ⟨(((hbz.setCell (p := ⟨D, 0, none⟩) hsd _).setCell (p := ⟨D, 1, none⟩) hsd _).setCell (p := ⟨D, 2, none⟩) hsd _).setCell (p := ⟨D, 3, none⟩) hsd _, set_four hzd _ _ _ _⟩
      refine wpAnyT_one (i := 6) (by kernel_rfl) rfl rfl (fun K' hK => ?_)
      go_simp
      refine hK.out _ _ (fun _ => by exact ⟨up_cell hfin.1 b0.out, up_cell hfin.1 b1.out⟩) ?_
      clear hK K' s0 s1 s2 s3 t0 t1 t2 t3
      refine wpAnyT_letter (fun W => Below w1.heap.size w1 W ∧ W.heap[D]? = some (.cells #[.int .i64 p0, .int .i64 p1, .int .i64 0, .int .i64 0] 119 (0, 0))) hfin ?_
      clear hfin hbz hzd
      rintro zf hfin
      refine wpAnyT_one (i := 7) (by kernel_rfl) rfl rfl (fun K' hK => ?_)
      go_simp
      refine hK.out _ _ (fun h => absurd rfl h) ?_
      clear hK K'
      refine wpAnyT_done (by kernel_rfl) ?_ _
      have HFIN := hide' hfin
      have HSD := hide' hsd
      clear hfin hsd
      go_wp2_with fail
      go_meet
      case rel => exact ⟨D, rfl, rfl, HFIN.out.1, HFIN.out.2, HSD.out⟩
    · go_simp
      refine hK.out _ _ (fun _ => by exact ⟨up_cell (hbz.trans ((below_al _ _).mono hbz.size)) b0.out, up_cell (hbz.trans ((below_al _ _).mono hbz.size)) b1.out⟩) ?_
      clear hK K'
      obtain ⟨D, hD⟩ : ∃ x, x = z.heap.size := ⟨_, rfl⟩
      rw [← hD]
      refine wpAnyT_letter (fun W => Below w1.heap.size w1 W ∧ W.heap[D]? = some (.cells #[.int .i64 0, .int .i64 0, .int .i64 0, .int .i64 0] 119 (0, 0)) ∧ w1.heap.size ≤ D) ⟨hbz.trans ((below_al _ _).mono hbz.size), (by rw [hD]; exact alloc_new _ _), (by rw [hD]; exact hbz.size)⟩ ?_
      clear hbz hD
      rintro z2 ⟨hbz, hzd, hsd⟩
      refine wpAnyT_one (i := 1) (by kernel_rfl) rfl rfl (fun K' hK => ?_)
      go_simp
      go_at_call 61
      refine (HST1.out z2 hbz).mono ?_
      rintro e z3 ⟨rfl, hb2⟩
      replace hzd := (hb2.block D (lt_heap hzd)).trans hzd
      replace hbz := hbz.trans (hb2.mono hbz.size)
      clear hb2
      refine hK.out _ _ (fun _ => by exact ⟨up_cell hbz b0.out, up_cell hbz b1.out⟩) ?_
      clear hK K'
      have s0 : z3.cell? ⟨D, 0, none⟩ = some (.int .i64 0) := (cells_at hzd 0).trans rfl
      have s1 : z3.cell? ⟨D, 1, none⟩ = some (.int .i64 0) := (cells_at hzd 1).trans rfl
      have s2 : z3.cell? ⟨D, 2, none⟩ = some (.int .i64 0) := (cells_at hzd 2).trans rfl
      have s3 : z3.cell? ⟨D, 3, none⟩ = some (.int .i64 0) := (cells_at hzd 3).trans rfl
      have t0 := frozen_no hzd 0
      have t1 := frozen_no hzd 1
      have t2 := frozen_no hzd 2
      have t3 := frozen_no hzd 3
      have hfin : Below w1.heap.size w1 ((((z3.setCell ⟨D, 0, none⟩ (.int .i64 p0)).setCell ⟨D, 1, none⟩ (.int .i64 p1)).setCell ⟨D, 2, none⟩ (.int .i64 0)).setCell ⟨D, 3, none⟩ (.int .i64 0)) ∧ ((((z3.setCell ⟨D, 0, none⟩ (.int .i64 p0)).setCell ⟨D, 1, none⟩ (.int .i64 p1)).setCell ⟨D, 2, none⟩ (.int .i64 0)).setCell ⟨D, 3, none⟩ (.int .i64 0)).heap[D]? = some (.cells #[.int .i64 p0, .int .i64 p1, .int .i64 0, .int .i64 0] 119 (0, 0)) := ⟨(((hbz.setCell (p := ⟨D, 0, none⟩) hsd _).setCell (p := ⟨D, 1, none⟩) hsd _).setCell (p := ⟨D, 2, none⟩) hsd _).setCell (p := ⟨D, 3, none⟩) hsd _, set_four hzd _ _ _ _⟩
      refine wpAnyT_one (i := 6) (by kernel_rfl) rfl rfl (fun K' hK => ?_)
      go_simp
      refine hK.out _ _ (fun _ => by exact ⟨up_cell hfin.1 b0.out, up_cell hfin.1 b1.out⟩) ?_
      clear hK K' s0 s1 s2 s3 t0 t1 t2 t3
      refine wpAnyT_letter (fun W => Below w1.heap.size w1 W ∧ W.heap[D]? = some (.cells #[.int .i64 p0, .int .i64 p1, .int .i64 0, .int .i64 0] 119 (0, 0))) hfin ?_
      clear hfin hbz hzd
      rintro zf hfin
      refine wpAnyT_one (i := 7) (by kernel_rfl) rfl rfl (fun K' hK => ?_)
      go_simp
      refine hK.out _ _ (fun h => absurd rfl h) ?_
      clear hK K'
      refine wpAnyT_done (by kernel_rfl) ?_ _
      have HFIN := hide' hfin
      have HSD := hide' hsd
      clear hfin hsd
      go_wp2_with fail
      go_meet
      case rel => exact ⟨D, rfl, rfl, HFIN.out.1, HFIN.out.2, HSD.out⟩
  case rest =>
    obtain ⟨S, rfl, rfl, HC⟩ := hcut
    have HR0 : Hid (RS w wc B S #[.slice al L cl, .slice ai H ci] #[.int .i64 p0, .int .i64 p1, .int .i64 0, .int .i64 0] (.slice none 0 0) (.slice none 0 0) [] []) := ⟨(HC.out.1.block B (lt_heap HQB.out)).trans HQB.out, HC.out.2.1, Nat.le_trans HB1.out.size HC.out.2.2, StepsAt.nil _ _, StepsAt.nil _ _, fun k hk => (by cases hk), HB1.out.trans (HC.out.1.mono HB1.out.size)⟩
    rw [← HSC.out] at HR0
    clear HC HST1 HQB HB1 HSC
    go_wp2_with fail
    go_loopw [4, 5, 21] (fun lv sp i wr => ∃ (k : Nat) (r : RunR), i = .int .i64 k ∧ k ≤ H ∧ Hid (runK ls L ti tr k = some r ∧ Good ls L r.s) ∧ Hid (RS w wr B S #[.slice al L cl, .slice ai H ci] r.s.cells lv sp r.lv r.sp)) (fun _ _ i _ => H - (intOf i).toNat)
    case atStart => exact ⟨0, ⟨startS ls L, [], []⟩, rfl, Nat.zero_le _, ⟨rfl, good_start HOK.out HL.out⟩, HR0⟩
    case round =>
      obtain ⟨k, r, rfl, hk, HR, HW⟩ := hrel
      by_cases hlt : k < H
      · obtain ⟨⟨l0, l1, u0, u1⟩, tl, ts⟩ := r
        have HG := hide' HR.out.2
        have HR1 := hide' HR.out.1
        have HW1 : Hid (RS w wr B S #[.slice al L cl, .slice ai H ci] #[.int .i64 l0, .int .i64 l1, .int .i64 u0, .int .i64 u1] u4 u5 tl ts) := HW.out
        have HLN : Hid (tl.length ≤ 8 ∧ ts.length ≤ 8) := by have h : tl.length = k ∧ ts.length = k := run_len HR1.out; show _ ∧ _; omega
        clear HW HR
        have hki : k < ti.length := by rw [HE.out.1]; exact hlt
        have hkr : k < tr.length := by rw [HE.out.2]; exact hlt
        obtain ⟨xb, xo, xc, a2, c2, ex, hcell, hrow⟩ := HTR.out.cell k hkr
        simp only [Value.slice.injEq] at ex
        obtain ⟨rfl, hq0, rfl⟩ := ex
        clear hq0
        rw [tab_len HLR.out hkr] at hcell hrow
        have hgi := getD_at hki
        have hgr := getD_at hkr
        have hil := tab_len HLI.out hki
        have hrl := tab_len HLR.out hkr
        have hiin := HIN.out _ (List.getElem_mem hki)
        have HFI0 : Hid (∀ W, Below w.heap.size w W → Calls Try.prog 62 #[.agg #[.slice al L cl, .slice ai H ci], .agg #[.int .i64 l0, .int .i64 l1, .int .i64 u0, .int .i64 u1], .int .i64 (k : Int)] W fun e w' => e = .returned (.agg #[.int .i64 (full2 L ⟨l0, l1, u0, u1⟩ ti[k]).a, .int .i64 (full2 L ⟨l0, l1, u0, u1⟩ ti[k]).b]) ∧ Below W.heap.size W w') := fun W hb =>
          fill_any ti k hki L hil hiin _ ai H ci HE.out.1 l0 l1 u0 u1 W (HTI.out.below hb (Nat.le_refl _)) hL (by have h : (0 ≤ l0 ∧ l0 ≤ 20 ∧ 0 ≤ l1 ∧ l1 ≤ 20) ∧ u0 = 0 ∧ 0 ≤ u1 ∧ u1 ≤ 30 := good_bounds HOK.out HL.out HG.out; omega)
        obtain ⟨ir, hir⟩ : ∃ x, x = ti[k] := ⟨_, rfl⟩
        obtain ⟨rr, hrr⟩ : ∃ x, x = tr[k] := ⟨_, rfl⟩
        rw [← hir] at hgi hil hiin HFI0
        rw [← hrr] at hgr hrl hrow
        clear hir hrr
        have HGI := hide' (And.intro hgi hgr)
        have HIB : Hid (∀ i, i < L → 0 ≤ ir.getD i 0 ∧ ir.getD i 0 ≤ 10) := fun i hi => hiin _ (by rw [List.getD_eq_getElem?_getD, List.getElem?_eq_getElem (by omega)]; exact List.getElem_mem _)
        have HFB := hide' (full_bounds HOK.out HL.out HIB.out HG.out)
        obtain ⟨fa, fb, hf⟩ : ∃ fa fb, full2 L ⟨l0, l1, u0, u1⟩ ir = ⟨fa, fb⟩ := ⟨_, _, rfl⟩
        have HF := hide' hf
        rw [hf] at HFI0 HFB
        have HFR0 : Hid (∀ W, Below w.heap.size w W → Calls Try.prog 64 #[.agg #[.slice al L cl, .slice ai H ci], .agg #[.int .i64 fa, .int .i64 fb]] W fun e w' => e = .returned (.agg #[.int .i64 (free2 ls L ⟨fa, fb⟩).a, .int .i64 (free2 ls L ⟨fa, fb⟩).b]) ∧ Below W.heap.size W w') := fun W hb =>
          free_any ls HOK.out al L cl _ fa fb W (HX.out.below hb (Nat.le_refl _)) HL.out hL (by have h : 0 ≤ fa ∧ fa ≤ 100 ∧ 0 ≤ fb ∧ fb ≤ 100 := HFB.out; omega)
        have HRB : Hid (askB rr (free2 ls L ⟨fa, fb⟩).a (free2 ls L ⟨fa, fb⟩).b L = true → 0 ≤ (rel2 L rr).a ∧ (rel2 L rr).a ≤ 4 ∧ 0 ≤ (rel2 L rr).b ∧ (rel2 L rr).b ≤ 4) := fun h => rel_bounds HOK.out HL.out h
        obtain ⟨ga, gb, hg⟩ : ∃ ga gb, free2 ls L ⟨fa, fb⟩ = ⟨ga, gb⟩ := ⟨_, _, rfl⟩
        have HGF := hide' hg
        rw [hg] at HFR0 HRB
        have HAS0 : Hid (∀ W, Below w.heap.size w W → Calls Try.prog 63 #[.slice a2 L c2, .agg #[.int .i64 ga, .int .i64 gb]] W fun e w' => (∃ (m0 m1 : Int) (q : Bool), e = .returned (.tuple #[.agg #[.int .i64 m0, .int .i64 m1], .bool q]) ∧ q = askB rr ga gb L ∧ (q = true → m0 = (rel2 L rr).a ∧ m1 = (rel2 L rr).b)) ∧ Below W.heap.size W w') := fun W hb =>
          (ask_any rr L hrl a2 c2 ga gb W (hrow.below hb (Nat.le_refl _)) hL).mono fun e w' h => ⟨ask2 h.1, h.2⟩
        have HCE := hide' hcell
        clear hf hg hgi hgr hil hrl hiin hcell hrow hki hkr
        have y0 : wr.cell? ⟨B, 0, none⟩ = some (.slice al L cl) := (cells_at HW1.out.hB 0).trans rfl
        have y1 : wr.cell? ⟨B, 1, none⟩ = some (.slice ai H ci) := (cells_at HW1.out.hB 1).trans rfl
        have y2 : wr.cell? ⟨S, 0, none⟩ = some (.int .i64 l0) := (cells_at HW1.out.hS 0).trans rfl
        have y3 : wr.cell? ⟨S, 1, none⟩ = some (.int .i64 l1) := (cells_at HW1.out.hS 1).trans rfl
        have y4 : wr.cell? ⟨S, 2, none⟩ = some (.int .i64 u0) := (cells_at HW1.out.hS 2).trans rfl
        have y5 : wr.cell? ⟨S, 3, none⟩ = some (.int .i64 u1) := (cells_at HW1.out.hS 3).trans rfl
        go_wp2_with fail
        refine (HFI0.out wr HW1.out.bel).mono ?_
        rintro e z1 ⟨rfl, hb1⟩
        have HW2 := hide' (HW1.out.more hb1)
        clear HW1 HFI0 hb1 y0 y1 y2 y3 y4 y5
        go_upto_region 6 with fail
        have hq2 := alloc_new z1 (.cells #[.int .i64 fa, .int .i64 fb] 117)
        have hb2 := below_al z1 (.cells #[.int .i64 fa, .int .i64 fb] 117)
        obtain ⟨z2, hz2⟩ : ∃ x, x = z1.alloc (.cells #[.int .i64 fa, .int .i64 fb] 117) := ⟨_, rfl⟩
        rw [← hz2] at hq2 hb2 ⊢
        obtain ⟨Fb, hFb⟩ : ∃ x, x = z1.heap.size := ⟨_, rfl⟩
        rw [← hFb] at hq2
        rw [show (Value.pointer (some { block := z1.heap.size, off := 0 })) = Value.pointer (some { block := Fb, off := 0 }) by rw [hFb]]
        have HW3 := hide' (HW2.out.more hb2)
        have HFQ := hide' hq2
        have d0 := hide' (up_cell HW3.out.bel HCE.out)
        have d1 : Hid (z2.cell? ⟨B, 0, none⟩ = some (.slice al L cl)) := (cells_at HW3.out.hB 0).trans rfl
        have d2 : Hid (z2.cell? ⟨B, 1, none⟩ = some (.slice ai H ci)) := (cells_at HW3.out.hB 1).trans rfl
        have d3 : Hid (z2.cell? ⟨Fb, 0, none⟩ = some (.int .i64 fa)) := (cells_at hq2 0).trans rfl
        have d4 : Hid (z2.cell? ⟨Fb, 1, none⟩ = some (.int .i64 fb)) := (cells_at hq2 1).trans rfl
        have HFR : Hid (∀ W, Below z2.heap.size z2 W → Calls Try.prog 64 #[.agg #[.slice al L cl, .slice ai H ci], .agg #[.int .i64 fa, .int .i64 fb]] W fun e w' => e = .returned (.agg #[.int .i64 ga, .int .i64 gb]) ∧ Below W.heap.size W w') := fun W hb => HFR0.out W (HW3.out.bel.trans (hb.mono HW3.out.bel.size))
        have HAS : Hid (∀ W, Below z2.heap.size z2 W → Calls Try.prog 63 #[.slice a2 L c2, .agg #[.int .i64 ga, .int .i64 gb]] W fun e w' => (∃ (m0 m1 : Int) (q : Bool), e = .returned (.tuple #[.agg #[.int .i64 m0, .int .i64 m1], .bool q]) ∧ q = askB rr ga gb L ∧ (q = true → m0 = (rel2 L rr).a ∧ m1 = (rel2 L rr).b)) ∧ Below W.heap.size W w') := fun W hb => HAS0.out W (HW3.out.bel.trans (hb.mono HW3.out.bel.size))
        clear hq2 hb2 hz2 hFb HW2 HFR0 HAS0
        go_cut [11, 12] from 28 to 38 (fun p x wc => ∃ (D : Nat) (m0 m1 : Int) (q : Bool), p = .pointer (some ⟨D, 0, none⟩) ∧ x = .bool q ∧ Hid (q = askB rr ga gb L ∧ (q = true → m0 = (rel2 L rr).a ∧ m1 = (rel2 L rr).b)) ∧ Hid (Below z2.heap.size z2 wc ∧ wc.heap[D]? = some (.cells #[.int .i64 m0, .int .i64 m1] 117 (0, 0)) ∧ z2.heap.size ≤ D))
        case first =>
          refine wp_region_tail (fun W => W.cell? ⟨xb, xo + k, none⟩ = some (.slice a2 L c2) ∧ W.cell? ⟨B, 0, none⟩ = some (.slice al L cl) ∧ W.cell? ⟨B, 1, none⟩ = some (.slice ai H ci) ∧ W.cell? ⟨Fb, 0, none⟩ = some (.int .i64 fa) ∧ W.cell? ⟨Fb, 1, none⟩ = some (.int .i64 fb)) 13 (by kernel_rfl) ?_
          refine wpAnyT_letter (fun W => Below z2.heap.size z2 W) (Below.refl _ z2).drew ?_
          rintro z hbz
          refine wpAnyD_takeAt 0 (some 29) (v := ?_) rfl (by kernel_rfl) (by kernel_rfl) (by kernel_rfl) (by kernel_rfl) (by kernel_rfl) (fun _ _ _ h => h) (by exact ⟨up_cell hbz d0.out, up_cell hbz d1.out, up_cell hbz d2.out, up_cell hbz d3.out, up_cell hbz d4.out⟩) (fun o hop => ?_) ?_
          rotate_left
          · injection hop with hop
            subst hop
            refine ⟨rfl, fun W hW => ?_⟩
            obtain ⟨s0, s1, s2, s3, s4⟩ := hW
            go_simp
            first
            | rfl
            | (constructor <;> rfl)
            | rw [if_neg (by omega)]
          try simp only [Act.put, List.setIfInBounds_toArray, List.set_cons_zero, List.set_cons_succ]
          refine wpAnyD_takeAt 1 (some 30) (v := ?_) rfl (by kernel_rfl) (by kernel_rfl) (by kernel_rfl) (by kernel_rfl) (by kernel_rfl) (fun _ _ _ h => h) (by exact ⟨up_cell hbz d0.out, up_cell hbz d1.out, up_cell hbz d2.out, up_cell hbz d3.out, up_cell hbz d4.out⟩) (fun o hop => ?_) ?_
          rotate_left
          · injection hop with hop
            subst hop
            refine ⟨rfl, fun W hW => ?_⟩
            obtain ⟨s0, s1, s2, s3, s4⟩ := hW
            go_simp
            first
            | rfl
            | (constructor <;> rfl)
            | rw [if_neg (by omega)]
          try simp only [Act.put, List.setIfInBounds_toArray, List.set_cons_zero, List.set_cons_succ]
          refine wpAnyD_takeAt 2 (some 31) (v := ?_) rfl (by kernel_rfl) (by kernel_rfl) (by kernel_rfl) (by kernel_rfl) (by kernel_rfl) (fun _ _ _ h => h) (by exact ⟨up_cell hbz d0.out, up_cell hbz d1.out, up_cell hbz d2.out, up_cell hbz d3.out, up_cell hbz d4.out⟩) (fun o hop => ?_) ?_
          rotate_left
          · injection hop with hop
            subst hop
            refine ⟨rfl, fun W hW => ?_⟩
            obtain ⟨s0, s1, s2, s3, s4⟩ := hW
            go_simp
            first
            | rfl
            | (constructor <;> rfl)
            | rw [if_neg (by omega)]
          try simp only [Act.put, List.setIfInBounds_toArray, List.set_cons_zero, List.set_cons_succ]
          refine wpAnyD_takeAt 3 (some 32) (v := ?_) rfl (by kernel_rfl) (by kernel_rfl) (by kernel_rfl) (by kernel_rfl) (by kernel_rfl) (fun _ _ _ h => h) (by exact ⟨up_cell hbz d0.out, up_cell hbz d1.out, up_cell hbz d2.out, up_cell hbz d3.out, up_cell hbz d4.out⟩) (fun o hop => ?_) ?_
          rotate_left
          · injection hop with hop
            subst hop
            refine ⟨rfl, fun W hW => ?_⟩
            obtain ⟨s0, s1, s2, s3, s4⟩ := hW
            go_simp
            first
            | rfl
            | (constructor <;> rfl)
            | rw [if_neg (by omega)]
          try simp only [Act.put, List.setIfInBounds_toArray, List.set_cons_zero, List.set_cons_succ]
          refine wpAnyD_takeAt 4 (some 33) (v := ?_) rfl (by kernel_rfl) (by kernel_rfl) (by kernel_rfl) (by kernel_rfl) (by kernel_rfl) (fun _ _ _ h => h) (by exact ⟨up_cell hbz d0.out, up_cell hbz d1.out, up_cell hbz d2.out, up_cell hbz d3.out, up_cell hbz d4.out⟩) (fun o hop => ?_) ?_
          rotate_left
          · injection hop with hop
            subst hop
            refine ⟨rfl, fun W hW => ?_⟩
            obtain ⟨s0, s1, s2, s3, s4⟩ := hW
            go_simp
            first
            | rfl
            | (constructor <;> rfl)
            | rw [if_neg (by omega)]
          try simp only [Act.put, List.setIfInBounds_toArray, List.set_cons_zero, List.set_cons_succ]
          refine wpAnyD_takeAt 5 (some 34) (v := ?_) rfl (by kernel_rfl) (by kernel_rfl) (by kernel_rfl) (by kernel_rfl) (by kernel_rfl) (fun _ _ _ h => h) (by exact ⟨up_cell hbz d0.out, up_cell hbz d1.out, up_cell hbz d2.out, up_cell hbz d3.out, up_cell hbz d4.out⟩) (fun o hop => ?_) ?_
          rotate_left
          · injection hop with hop
            subst hop
            refine ⟨rfl, fun W hW => ?_⟩
            obtain ⟨s0, s1, s2, s3, s4⟩ := hW
            go_simp
            first
            | rfl
            | (constructor <;> rfl)
            | rw [if_neg (by omega)]
          try simp only [Act.put, List.setIfInBounds_toArray, List.set_cons_zero, List.set_cons_succ]
          refine wpAnyT_two (i := 6) (j := 11) (by kernel_rfl) rfl rfl rfl rfl (fun K' hK => ?_) (fun K' hK => ?_)
          · go_simp
            go_at_call 64
            refine (HFR.out z hbz).mono ?_
            rintro e z3 ⟨rfl, hb3⟩
            replace hbz := hbz.trans (hb3.mono hbz.size)
            clear hb3
            refine hK.out _ _ (fun _ => by exact ⟨up_cell hbz d0.out, up_cell hbz d1.out, up_cell hbz d2.out, up_cell hbz d3.out, up_cell hbz d4.out⟩) ?_
            clear hK K'
            refine wpAnyT_two (i := 7) (j := 11) (by kernel_rfl) rfl rfl rfl rfl (fun K' hK => ?_) (fun K' hK => ?_)
            · go_simp
              go_at_call 63
              refine (HAS.out z3 hbz).mono ?_
              rintro e z4 ⟨hask, hb3⟩
              replace hbz := hbz.trans (hb3.mono hbz.size)
              clear hb3
              obtain ⟨m0, m1, q, rfl, haq⟩ := hask
              have HAQ := hide' haq
              clear haq
              refine hK.out _ _ (fun _ => by exact ⟨up_cell hbz d0.out, up_cell hbz d1.out, up_cell hbz d2.out, up_cell hbz d3.out, up_cell hbz d4.out⟩) ?_
              clear hK K'
              refine wpAnyD_takeAt 8 (some 28) (v := ?_) rfl (by kernel_rfl) (by kernel_rfl) (by kernel_rfl) (by kernel_rfl) (by kernel_rfl) (fun _ _ _ h => h) (by exact ⟨up_cell hbz d0.out, up_cell hbz d1.out, up_cell hbz d2.out, up_cell hbz d3.out, up_cell hbz d4.out⟩) (fun o hop => ?_) ?_
              rotate_left
              · injection hop with hop
                subst hop
                refine ⟨rfl, fun W hW => ?_⟩
                obtain ⟨s0, s1, s2, s3, s4⟩ := hW
                go_simp
                first
                | rfl
                | (constructor <;> rfl)
                | rw [if_neg (by omega)]
              try simp only [Act.put, List.setIfInBounds_toArray, List.set_cons_zero, List.set_cons_succ]
              refine wpAnyD_takeAt 9 (some 37) (v := ?_) rfl (by kernel_rfl) (by kernel_rfl) (by kernel_rfl) (by kernel_rfl) (by kernel_rfl) (fun _ _ _ h => h) (by exact ⟨up_cell hbz d0.out, up_cell hbz d1.out, up_cell hbz d2.out, up_cell hbz d3.out, up_cell hbz d4.out⟩) (fun o hop => ?_) ?_
              rotate_left
              · injection hop with hop
                subst hop
                refine ⟨rfl, fun W hW => ?_⟩
                obtain ⟨s0, s1, s2, s3, s4⟩ := hW
                go_simp
                first
                | rfl
                | (constructor <;> rfl)
                | rw [if_neg (by omega)]
              try simp only [Act.put, List.setIfInBounds_toArray, List.set_cons_zero, List.set_cons_succ]
              refine wpAnyD_takeAt 10 (some 38) (v := ?_) rfl (by kernel_rfl) (by kernel_rfl) (by kernel_rfl) (by kernel_rfl) (by kernel_rfl) (fun _ _ _ h => h) (by exact ⟨up_cell hbz d0.out, up_cell hbz d1.out, up_cell hbz d2.out, up_cell hbz d3.out, up_cell hbz d4.out⟩) (fun o hop => ?_) ?_
              rotate_left
              · injection hop with hop
                subst hop
                refine ⟨rfl, fun W hW => ?_⟩
                obtain ⟨s0, s1, s2, s3, s4⟩ := hW
                go_simp
                first
                | rfl
                | (constructor <;> rfl)
                | rw [if_neg (by omega)]
              try simp only [Act.put, List.setIfInBounds_toArray, List.set_cons_zero, List.set_cons_succ]
              refine wpAnyT_one (i := 11) (by kernel_rfl) rfl rfl (fun K' hK => ?_)
              go_simp
              refine hK.out _ _ (fun _ => by exact ⟨up_cell (hbz.trans ((below_al _ _).mono hbz.size)) d0.out, up_cell (hbz.trans ((below_al _ _).mono hbz.size)) d1.out, up_cell (hbz.trans ((below_al _ _).mono hbz.size)) d2.out, up_cell (hbz.trans ((below_al _ _).mono hbz.size)) d3.out, up_cell (hbz.trans ((below_al _ _).mono hbz.size)) d4.out⟩) ?_
              clear hK K'
              obtain ⟨D, hD⟩ : ∃ x, x = z4.heap.size := ⟨_, rfl⟩
              rw [← hD]
              refine wpAnyT_letter (fun W => Below z2.heap.size z2 W ∧ W.heap[D]? = some (.cells #[.int .i64 0, .int .i64 0] 117 (0, 0)) ∧ z2.heap.size ≤ D) ⟨hbz.trans ((below_al _ _).mono hbz.size), (by rw [hD]; exact alloc_new _ _), (by rw [hD]; exact hbz.size)⟩ ?_
              clear hbz hD
              rintro z5 ⟨hbz, hzd, hsd⟩
              have s0 : z5.cell? ⟨D, 0, none⟩ = some (.int .i64 0) := (cells_at hzd 0).trans rfl
              have s1 : z5.cell? ⟨D, 1, none⟩ = some (.int .i64 0) := (cells_at hzd 1).trans rfl
              have t0 := frozen_no hzd 0
              have t1 := frozen_no hzd 1
              have hfin : Below z2.heap.size z2 ((z5.setCell ⟨D, 0, none⟩ (.int .i64 m0)).setCell ⟨D, 1, none⟩ (.int .i64 m1)) ∧ ((z5.setCell ⟨D, 0, none⟩ (.int .i64 m0)).setCell ⟨D, 1, none⟩ (.int .i64 m1)).heap[D]? = some (.cells #[.int .i64 m0, .int .i64 m1] 117 (0, 0)) := ⟨(hbz.setCell (p := ⟨D, 0, none⟩) hsd _).setCell (p := ⟨D, 1, none⟩) hsd _, set_two hzd _ _⟩
              refine wpAnyT_one (i := 12) (by kernel_rfl) rfl rfl (fun K' hK => ?_)
              go_simp
              refine hK.out _ _ (fun _ => by exact ⟨up_cell hfin.1 d0.out, up_cell hfin.1 d1.out, up_cell hfin.1 d2.out, up_cell hfin.1 d3.out, up_cell hfin.1 d4.out⟩) ?_
              clear hK K' s0 s1 t0 t1
              refine wpAnyT_letter (fun W => Below z2.heap.size z2 W ∧ W.heap[D]? = some (.cells #[.int .i64 m0, .int .i64 m1] 117 (0, 0))) hfin ?_
              clear hfin hbz hzd
              rintro zf hfin
              refine wpAnyT_one (i := 13) (by kernel_rfl) rfl rfl (fun K' hK => ?_)
              go_simp
              refine hK.out _ _ (fun h => absurd rfl h) ?_
              clear hK K'
              refine wpAnyT_done (by kernel_rfl) ?_ _
              have HFIN := hide' hfin
              have HSD := hide' hsd
              clear hfin hsd
              go_wp2_with fail
              go_meet
              case rel => exact ⟨D, m0, m1, q, rfl, rfl, HAQ.out, HFIN.out.1, HFIN.out.2, HSD.out⟩
            · go_simp
              refine hK.out _ _ (fun _ => by exact ⟨up_cell (hbz.trans ((below_al _ _).mono hbz.size)) d0.out, up_cell (hbz.trans ((below_al _ _).mono hbz.size)) d1.out, up_cell (hbz.trans ((below_al _ _).mono hbz.size)) d2.out, up_cell (hbz.trans ((below_al _ _).mono hbz.size)) d3.out, up_cell (hbz.trans ((below_al _ _).mono hbz.size)) d4.out⟩) ?_
              clear hK K'
              obtain ⟨D, hD⟩ : ∃ x, x = z3.heap.size := ⟨_, rfl⟩
              rw [← hD]
              refine wpAnyT_letter (fun W => Below z2.heap.size z2 W ∧ W.heap[D]? = some (.cells #[.int .i64 0, .int .i64 0] 117 (0, 0)) ∧ z2.heap.size ≤ D) ⟨hbz.trans ((below_al _ _).mono hbz.size), (by rw [hD]; exact alloc_new _ _), (by rw [hD]; exact hbz.size)⟩ ?_
              clear hbz hD
              rintro z4 ⟨hbz, hzd, hsd⟩
              refine wpAnyT_one (i := 7) (by kernel_rfl) rfl rfl (fun K' hK => ?_)
              go_simp
              go_at_call 63
              refine (HAS.out z4 hbz).mono ?_
              rintro e z5 ⟨hask, hb3⟩
              replace hzd := (hb3.block D (lt_heap hzd)).trans hzd
              replace hbz := hbz.trans (hb3.mono hbz.size)
              clear hb3
              obtain ⟨m0, m1, q, rfl, haq⟩ := hask
              have HAQ := hide' haq
              clear haq
              refine hK.out _ _ (fun _ => by exact ⟨up_cell hbz d0.out, up_cell hbz d1.out, up_cell hbz d2.out, up_cell hbz d3.out, up_cell hbz d4.out⟩) ?_
              clear hK K'
              refine wpAnyD_takeAt 8 (some 28) (v := ?_) rfl (by kernel_rfl) (by kernel_rfl) (by kernel_rfl) (by kernel_rfl) (by kernel_rfl) (fun _ _ _ h => h) (by exact ⟨up_cell hbz d0.out, up_cell hbz d1.out, up_cell hbz d2.out, up_cell hbz d3.out, up_cell hbz d4.out⟩) (fun o hop => ?_) ?_
              rotate_left
              · injection hop with hop
                subst hop
                refine ⟨rfl, fun W hW => ?_⟩
                obtain ⟨s0, s1, s2, s3, s4⟩ := hW
                go_simp
                first
                | rfl
                | (constructor <;> rfl)
                | rw [if_neg (by omega)]
              try simp only [Act.put, List.setIfInBounds_toArray, List.set_cons_zero, List.set_cons_succ]
              refine wpAnyD_takeAt 9 (some 37) (v := ?_) rfl (by kernel_rfl) (by kernel_rfl) (by kernel_rfl) (by kernel_rfl) (by kernel_rfl) (fun _ _ _ h => h) (by exact ⟨up_cell hbz d0.out, up_cell hbz d1.out, up_cell hbz d2.out, up_cell hbz d3.out, up_cell hbz d4.out⟩) (fun o hop => ?_) ?_
              rotate_left
              · injection hop with hop
                subst hop
                refine ⟨rfl, fun W hW => ?_⟩
                obtain ⟨s0, s1, s2, s3, s4⟩ := hW
                go_simp
                first
                | rfl
                | (constructor <;> rfl)
                | rw [if_neg (by omega)]
              try simp only [Act.put, List.setIfInBounds_toArray, List.set_cons_zero, List.set_cons_succ]
              refine wpAnyD_takeAt 10 (some 38) (v := ?_) rfl (by kernel_rfl) (by kernel_rfl) (by kernel_rfl) (by kernel_rfl) (by kernel_rfl) (fun _ _ _ h => h) (by exact ⟨up_cell hbz d0.out, up_cell hbz d1.out, up_cell hbz d2.out, up_cell hbz d3.out, up_cell hbz d4.out⟩) (fun o hop => ?_) ?_
              rotate_left
              · injection hop with hop
                subst hop
                refine ⟨rfl, fun W hW => ?_⟩
                obtain ⟨s0, s1, s2, s3, s4⟩ := hW
                go_simp
                first
                | rfl
                | (constructor <;> rfl)
                | rw [if_neg (by omega)]
              try simp only [Act.put, List.setIfInBounds_toArray, List.set_cons_zero, List.set_cons_succ]
              have s0 : z5.cell? ⟨D, 0, none⟩ = some (.int .i64 0) := (cells_at hzd 0).trans rfl
              have s1 : z5.cell? ⟨D, 1, none⟩ = some (.int .i64 0) := (cells_at hzd 1).trans rfl
              have t0 := frozen_no hzd 0
              have t1 := frozen_no hzd 1
              have hfin : Below z2.heap.size z2 ((z5.setCell ⟨D, 0, none⟩ (.int .i64 m0)).setCell ⟨D, 1, none⟩ (.int .i64 m1)) ∧ ((z5.setCell ⟨D, 0, none⟩ (.int .i64 m0)).setCell ⟨D, 1, none⟩ (.int .i64 m1)).heap[D]? = some (.cells #[.int .i64 m0, .int .i64 m1] 117 (0, 0)) := ⟨(hbz.setCell (p := ⟨D, 0, none⟩) hsd _).setCell (p := ⟨D, 1, none⟩) hsd _, set_two hzd _ _⟩
              refine wpAnyT_one (i := 12) (by kernel_rfl) rfl rfl (fun K' hK => ?_)
              go_simp
              refine hK.out _ _ (fun _ => by exact ⟨up_cell hfin.1 d0.out, up_cell hfin.1 d1.out, up_cell hfin.1 d2.out, up_cell hfin.1 d3.out, up_cell hfin.1 d4.out⟩) ?_
              clear hK K' s0 s1 t0 t1
              refine wpAnyT_letter (fun W => Below z2.heap.size z2 W ∧ W.heap[D]? = some (.cells #[.int .i64 m0, .int .i64 m1] 117 (0, 0))) hfin ?_
              clear hfin hbz hzd
              rintro zf hfin
              refine wpAnyT_one (i := 13) (by kernel_rfl) rfl rfl (fun K' hK => ?_)
              go_simp
              refine hK.out _ _ (fun h => absurd rfl h) ?_
              clear hK K'
              refine wpAnyT_done (by kernel_rfl) ?_ _
              have HFIN := hide' hfin
              have HSD := hide' hsd
              clear hfin hsd
              go_wp2_with fail
              go_meet
              case rel => exact ⟨D, m0, m1, q, rfl, rfl, HAQ.out, HFIN.out.1, HFIN.out.2, HSD.out⟩
          · go_simp
            refine hK.out _ _ (fun _ => by exact ⟨up_cell (hbz.trans ((below_al _ _).mono hbz.size)) d0.out, up_cell (hbz.trans ((below_al _ _).mono hbz.size)) d1.out, up_cell (hbz.trans ((below_al _ _).mono hbz.size)) d2.out, up_cell (hbz.trans ((below_al _ _).mono hbz.size)) d3.out, up_cell (hbz.trans ((below_al _ _).mono hbz.size)) d4.out⟩) ?_
            clear hK K'
            obtain ⟨D, hD⟩ : ∃ x, x = z.heap.size := ⟨_, rfl⟩
            rw [← hD]
            refine wpAnyT_letter (fun W => Below z2.heap.size z2 W ∧ W.heap[D]? = some (.cells #[.int .i64 0, .int .i64 0] 117 (0, 0)) ∧ z2.heap.size ≤ D) ⟨hbz.trans ((below_al _ _).mono hbz.size), (by rw [hD]; exact alloc_new _ _), (by rw [hD]; exact hbz.size)⟩ ?_
            clear hbz hD
            rintro z3 ⟨hbz, hzd, hsd⟩
            refine wpAnyT_one (i := 6) (by kernel_rfl) rfl rfl (fun K' hK => ?_)
            go_simp
            go_at_call 64
            refine (HFR.out z3 hbz).mono ?_
            rintro e z4 ⟨rfl, hb3⟩
            replace hzd := (hb3.block D (lt_heap hzd)).trans hzd
            replace hbz := hbz.trans (hb3.mono hbz.size)
            clear hb3
            refine hK.out _ _ (fun _ => by exact ⟨up_cell hbz d0.out, up_cell hbz d1.out, up_cell hbz d2.out, up_cell hbz d3.out, up_cell hbz d4.out⟩) ?_
            clear hK K'
            refine wpAnyT_one (i := 7) (by kernel_rfl) rfl rfl (fun K' hK => ?_)
            go_simp
            go_at_call 63
            refine (HAS.out z4 hbz).mono ?_
            rintro e z5 ⟨hask, hb3⟩
            replace hzd := (hb3.block D (lt_heap hzd)).trans hzd
            replace hbz := hbz.trans (hb3.mono hbz.size)
            clear hb3
            obtain ⟨m0, m1, q, rfl, haq⟩ := hask
            have HAQ := hide' haq
            clear haq
            refine hK.out _ _ (fun _ => by exact ⟨up_cell hbz d0.out, up_cell hbz d1.out, up_cell hbz d2.out, up_cell hbz d3.out, up_cell hbz d4.out⟩) ?_
            clear hK K'
            refine wpAnyD_takeAt 8 (some 28) (v := ?_) rfl (by kernel_rfl) (by kernel_rfl) (by kernel_rfl) (by kernel_rfl) (by kernel_rfl) (fun _ _ _ h => h) (by exact ⟨up_cell hbz d0.out, up_cell hbz d1.out, up_cell hbz d2.out, up_cell hbz d3.out, up_cell hbz d4.out⟩) (fun o hop => ?_) ?_
            rotate_left
            · injection hop with hop
              subst hop
              refine ⟨rfl, fun W hW => ?_⟩
              obtain ⟨s0, s1, s2, s3, s4⟩ := hW
              go_simp
              first
              | rfl
              | (constructor <;> rfl)
              | rw [if_neg (by omega)]
            try simp only [Act.put, List.setIfInBounds_toArray, List.set_cons_zero, List.set_cons_succ]
            refine wpAnyD_takeAt 9 (some 37) (v := ?_) rfl (by kernel_rfl) (by kernel_rfl) (by kernel_rfl) (by kernel_rfl) (by kernel_rfl) (fun _ _ _ h => h) (by exact ⟨up_cell hbz d0.out, up_cell hbz d1.out, up_cell hbz d2.out, up_cell hbz d3.out, up_cell hbz d4.out⟩) (fun o hop => ?_) ?_
            rotate_left
            · injection hop with hop
              subst hop
              refine ⟨rfl, fun W hW => ?_⟩
              obtain ⟨s0, s1, s2, s3, s4⟩ := hW
              go_simp
              first
              | rfl
              | (constructor <;> rfl)
              | rw [if_neg (by omega)]
            try simp only [Act.put, List.setIfInBounds_toArray, List.set_cons_zero, List.set_cons_succ]
            refine wpAnyD_takeAt 10 (some 38) (v := ?_) rfl (by kernel_rfl) (by kernel_rfl) (by kernel_rfl) (by kernel_rfl) (by kernel_rfl) (fun _ _ _ h => h) (by exact ⟨up_cell hbz d0.out, up_cell hbz d1.out, up_cell hbz d2.out, up_cell hbz d3.out, up_cell hbz d4.out⟩) (fun o hop => ?_) ?_
            rotate_left
            · injection hop with hop
              subst hop
              refine ⟨rfl, fun W hW => ?_⟩
              obtain ⟨s0, s1, s2, s3, s4⟩ := hW
              go_simp
              first
              | rfl
              | (constructor <;> rfl)
              | rw [if_neg (by omega)]
            try simp only [Act.put, List.setIfInBounds_toArray, List.set_cons_zero, List.set_cons_succ]
            have s0 : z5.cell? ⟨D, 0, none⟩ = some (.int .i64 0) := (cells_at hzd 0).trans rfl
            have s1 : z5.cell? ⟨D, 1, none⟩ = some (.int .i64 0) := (cells_at hzd 1).trans rfl
            have t0 := frozen_no hzd 0
            have t1 := frozen_no hzd 1
            have hfin : Below z2.heap.size z2 ((z5.setCell ⟨D, 0, none⟩ (.int .i64 m0)).setCell ⟨D, 1, none⟩ (.int .i64 m1)) ∧ ((z5.setCell ⟨D, 0, none⟩ (.int .i64 m0)).setCell ⟨D, 1, none⟩ (.int .i64 m1)).heap[D]? = some (.cells #[.int .i64 m0, .int .i64 m1] 117 (0, 0)) := ⟨(hbz.setCell (p := ⟨D, 0, none⟩) hsd _).setCell (p := ⟨D, 1, none⟩) hsd _, set_two hzd _ _⟩
            refine wpAnyT_one (i := 12) (by kernel_rfl) rfl rfl (fun K' hK => ?_)
            go_simp
            refine hK.out _ _ (fun _ => by exact ⟨up_cell hfin.1 d0.out, up_cell hfin.1 d1.out, up_cell hfin.1 d2.out, up_cell hfin.1 d3.out, up_cell hfin.1 d4.out⟩) ?_
            clear hK K' s0 s1 t0 t1
            refine wpAnyT_letter (fun W => Below z2.heap.size z2 W ∧ W.heap[D]? = some (.cells #[.int .i64 m0, .int .i64 m1] 117 (0, 0))) hfin ?_
            clear hfin hbz hzd
            rintro zf hfin
            refine wpAnyT_one (i := 13) (by kernel_rfl) rfl rfl (fun K' hK => ?_)
            go_simp
            refine hK.out _ _ (fun h => absurd rfl h) ?_
            clear hK K'
            refine wpAnyT_done (by kernel_rfl) ?_ _
            have HFIN := hide' hfin
            have HSD := hide' hsd
            clear hfin hsd
            go_wp2_with fail
            go_meet
            case rel => exact ⟨D, m0, m1, q, rfl, rfl, HAQ.out, HFIN.out.1, HFIN.out.2, HSD.out⟩
        case rest =>
          obtain ⟨D, m0, m1, q, rfl, rfl, HAQ, HC⟩ := hcut
          have HW4 := hide' (HW3.out.more HC.out.1)
          have HF4 := hide' ((HC.out.1.block Fb (lt_heap HFQ.out)).trans HFQ.out)
          have HOQ : Hid (hourOk ls L ⟨l0, l1, u0, u1⟩ ir rr = q) := by
            show askB rr (free2 ls L (full2 L ⟨l0, l1, u0, u1⟩ ir)).a (free2 ls L (full2 L ⟨l0, l1, u0, u1⟩ ir)).b L = q
            rw [HF.out, HGF.out]
            exact HAQ.out.1.symm
          clear HW3 HFQ d0 d1 d2 d3 d4 HFR HAS
          cases q with
          | false =>
            have HFN := hide' (HRO.out (.returned (.tuple #[.slice none 0 0, .slice none 0 0, .int .i64 15])) wc ⟨.inl ⟨run_shut HR1.out hlt (by rw [HGI.out.1, HGI.out.2]; exact HOQ.out), rfl⟩, HW4.out.bel⟩)
            clear HW4 HC HR1 HRO HG HAQ
            go_wp2_with fail
            go_ret3
            exact HFN.out
          | true =>
            have hm := HAQ.out.2 rfl
            obtain ⟨hm0, hm1⟩ := hm
            have HRL : Hid (rel2 L rr = ⟨m0, m1⟩) := by show rel2 L rr = ⟨m0, m1⟩; rw [hm0, hm1]
            have hmb := HRB.out HAQ.out.1.symm
            rw [← hm0, ← hm1] at hmb
            clear hm0 hm1
            have HDR0 : Hid (∀ W, Below w.heap.size w W → Calls Try.prog 65 #[.agg #[.slice al L cl, .slice ai H ci], .agg #[.int .i64 fa, .int .i64 fb], .agg #[.int .i64 m0, .int .i64 m1]] W fun e w' => e = .returned (.tuple #[.agg (next2 ls L ⟨fa, fb⟩ ⟨m0, m1⟩).cells, .agg #[.int .i64 (spill2 ls L ⟨fa, fb⟩ ⟨m0, m1⟩).a, .int .i64 (spill2 ls L ⟨fa, fb⟩ ⟨m0, m1⟩).b]]) ∧ Below W.heap.size W w') := fun W hb =>
              drain_any ls HOK.out al L cl _ fa fb m0 m1 W (HX.out.below hb (Nat.le_refl _)) HL.out hL (by have h : 0 ≤ fa ∧ fa ≤ 100 ∧ 0 ≤ fb ∧ fb ≤ 100 := HFB.out; omega) (by omega)
            obtain ⟨n0, n1, n2, n3, hn⟩ : ∃ n0 n1 n2 n3, next2 ls L ⟨fa, fb⟩ ⟨m0, m1⟩ = ⟨n0, n1, n2, n3⟩ := ⟨_, _, _, _, rfl⟩
            obtain ⟨va, vb, hv⟩ : ∃ va vb, spill2 ls L ⟨fa, fb⟩ ⟨m0, m1⟩ = ⟨va, vb⟩ := ⟨_, _, rfl⟩
            have HHS : Hid (hourS ls L ⟨l0, l1, u0, u1⟩ ir rr = ⟨n0, n1, n2, n3⟩) := by show next2 ls L (full2 L ⟨l0, l1, u0, u1⟩ ir) (rel2 L rr) = _; rw [HF.out, HRL.out]; exact hn
            have HHV : Hid (hourV ls L ⟨l0, l1, u0, u1⟩ ir rr = ⟨va, vb⟩) := by show spill2 ls L (full2 L ⟨l0, l1, u0, u1⟩ ir) (rel2 L rr) = _; rw [HF.out, HRL.out]; exact hv
            rw [hn, hv] at HDR0
            have HDR : Hid (∀ o, Calls Try.prog 65 #[.agg #[.slice al L cl, .slice ai H ci], .agg #[.int .i64 fa, .int .i64 fb], .agg #[.int .i64 m0, .int .i64 m1]] (wc.alloc o) fun e w' => e = .returned (.tuple #[.agg #[.int .i64 n0, .int .i64 n1, .int .i64 n2, .int .i64 n3], .agg #[.int .i64 va, .int .i64 vb]]) ∧ Below (wc.alloc o).heap.size (wc.alloc o) w') := fun o => HDR0.out _ (HW4.out.bel.trans ((below_al wc o).mono HW4.out.bel.size))
            have HNX : Hid (runK ls L ti tr (k + 1) = some ⟨⟨n0, n1, n2, n3⟩, tl ++ [listOf n0 n1 L], ts ++ [listOf va vb L]⟩ ∧ Good ls L ⟨n0, n1, n2, n3⟩) := by
              have h := run_next HR1.out (by rw [HGI.out.1, HGI.out.2]; exact HOQ.out)
              rw [HGI.out.1, HGI.out.2] at h
              have hg := good_hour HOK.out HL.out hL HIB.out HG.out HOQ.out
              rw [HHS.out] at hg
              simp only [HHS.out, HHV.out] at h
              exact ⟨h, hg⟩
            clear hn hv HDR0 HR1 HG HAQ hmb HRL HHS HHV HGI HIB HRB
            have b0 : ∀ o, (wc.alloc o).cell? ⟨B, 0, none⟩ = some (.slice al L cl) := fun o => (cells_at (HW4.out.more (below_al wc o)).hB 0).trans rfl
            have b1 : ∀ o, (wc.alloc o).cell? ⟨B, 1, none⟩ = some (.slice ai H ci) := fun o => (cells_at (HW4.out.more (below_al wc o)).hB 1).trans rfl
            have b2 : ∀ o, (wc.alloc o).cell? ⟨Fb, 0, none⟩ = some (.int .i64 fa) := fun o => (cells_at ((alloc_old wc o (lt_heap HF4.out)).trans HF4.out) 0).trans rfl
            have b3 : ∀ o, (wc.alloc o).cell? ⟨Fb, 1, none⟩ = some (.int .i64 fb) := fun o => (cells_at ((alloc_old wc o (lt_heap HF4.out)).trans HF4.out) 1).trans rfl
            have b4 : ∀ o, (wc.alloc o).cell? ⟨D, 0, none⟩ = some (.int .i64 m0) := fun o => (cells_at ((alloc_old wc o (lt_heap HC.out.2.1)).trans HC.out.2.1) 0).trans rfl
            have b5 : ∀ o, (wc.alloc o).cell? ⟨D, 1, none⟩ = some (.int .i64 m1) := fun o => (cells_at ((alloc_old wc o (lt_heap HC.out.2.1)).trans HC.out.2.1) 1).trans rfl
            go_wp2_with fail
            refine (HDR.out _).mono ?_
            rintro e z4 ⟨rfl, hb4⟩
            obtain ⟨Ov, hOv⟩ : ∃ x, x = wc.heap.size := ⟨_, rfl⟩
            have hO4 : z4.heap[Ov]? = some (.cells #[.int .i64 0, .int .i64 0] 117 (0, 0)) := by rw [hOv]; exact (hb4.block _ (lt_heap (alloc_new wc _))).trans (alloc_new wc _)
            have HSO : Hid (w.heap.size ≤ Ov) := by have := HW4.out.bel.size; show _ ≤ _; omega
            have HW5 := hide' ((HW4.out.more (below_al wc _)).more hb4)
            have hne : Ov ≠ S := fun e => by have := lt_heap HW4.out.hS; omega
            rw [← hOv]
            have s0 : z4.cell? ⟨S, 0, none⟩ = some (.int .i64 l0) := (cells_at HW5.out.hS 0).trans rfl
            have s1 : z4.cell? ⟨S, 1, none⟩ = some (.int .i64 l1) := (cells_at HW5.out.hS 1).trans rfl
            have s2 : z4.cell? ⟨S, 2, none⟩ = some (.int .i64 u0) := (cells_at HW5.out.hS 2).trans rfl
            have s3 : z4.cell? ⟨S, 3, none⟩ = some (.int .i64 u1) := (cells_at HW5.out.hS 3).trans rfl
            have t0 := frozen_no HW5.out.hS 0
            have t1 := frozen_no HW5.out.hS 1
            have t2 := frozen_no HW5.out.hS 2
            have t3 := frozen_no HW5.out.hS 3
            have HO5 : Hid (∀ x0 x1 x2 x3, ((((z4.setCell ⟨S, 0, none⟩ x0).setCell ⟨S, 1, none⟩ x1).setCell ⟨S, 2, none⟩ x2).setCell ⟨S, 3, none⟩ x3).heap[Ov]? = some (.cells #[.int .i64 0, .int .i64 0] 117 (0, 0))) := fun x0 x1 x2 x3 => by rw [Below.heap_setCell _ _ _ Ov hne, Below.heap_setCell _ _ _ Ov hne, Below.heap_setCell _ _ _ Ov hne, Below.heap_setCell _ _ _ Ov hne]; exact hO4
            have o0 : ∀ x0 x1 x2 x3, ((((z4.setCell ⟨S, 0, none⟩ x0).setCell ⟨S, 1, none⟩ x1).setCell ⟨S, 2, none⟩ x2).setCell ⟨S, 3, none⟩ x3).cell? ⟨Ov, 0, none⟩ = some (.int .i64 0) := fun x0 x1 x2 x3 => (cells_at (HO5.out x0 x1 x2 x3) 0).trans rfl
            have o1 : ∀ x0 x1 x2 x3, ((((z4.setCell ⟨S, 0, none⟩ x0).setCell ⟨S, 1, none⟩ x1).setCell ⟨S, 2, none⟩ x2).setCell ⟨S, 3, none⟩ x3).cell? ⟨Ov, 1, none⟩ = some (.int .i64 0) := fun x0 x1 x2 x3 => (cells_at (HO5.out x0 x1 x2 x3) 1).trans rfl
            have f0 : ∀ x0 x1 x2 x3, ((((z4.setCell ⟨S, 0, none⟩ x0).setCell ⟨S, 1, none⟩ x1).setCell ⟨S, 2, none⟩ x2).setCell ⟨S, 3, none⟩ x3).frozen? ⟨Ov, 0, none⟩ = false := fun x0 x1 x2 x3 => frozen_no (HO5.out x0 x1 x2 x3) 0
            have f1 : ∀ x0 x1 x2 x3, ((((z4.setCell ⟨S, 0, none⟩ x0).setCell ⟨S, 1, none⟩ x1).setCell ⟨S, 2, none⟩ x2).setCell ⟨S, 3, none⟩ x3).frozen? ⟨Ov, 1, none⟩ = false := fun x0 x1 x2 x3 => frozen_no (HO5.out x0 x1 x2 x3) 1
            clear hb4 hOv b0 b1 b2 b3 b4 b5 HW4 HC HF4 HDR hO4 hne
            go_upto_region 11 with fail
            have HQ5 : Hid (RQ w ((((((z4.setCell ⟨S, 0, none⟩ (.int .i64 n0)).setCell ⟨S, 1, none⟩ (.int .i64 n1)).setCell ⟨S, 2, none⟩ (.int .i64 n2)).setCell ⟨S, 3, none⟩ (.int .i64 n3)).setCell ⟨Ov, 0, none⟩ (.int .i64 va)).setCell ⟨Ov, 1, none⟩ (.int .i64 vb)) B S Ov #[.slice al L cl, .slice ai H ci] n0 n1 n2 n3 va vb u4 u5 tl ts) := by
              have h := (((HW5.out.set 0 (.int .i64 n0)).set 1 (.int .i64 n1)).set 2 (.int .i64 n2)).set 3 (.int .i64 n3)
              rw [set4] at h
              have ho := HO5.out (.int .i64 n0) (.int .i64 n1) (.int .i64 n2) (.int .i64 n3)
              exact ⟨(h.over ho HSO.out 0 _).over (set_any ho 0 _) HSO.out 1 _, set_two ho _ _⟩
            obtain ⟨z5, hz5⟩ : ∃ x, x = (((((z4.setCell ⟨S, 0, none⟩ (.int .i64 n0)).setCell ⟨S, 1, none⟩ (.int .i64 n1)).setCell ⟨S, 2, none⟩ (.int .i64 n2)).setCell ⟨S, 3, none⟩ (.int .i64 n3)).setCell ⟨Ov, 0, none⟩ (.int .i64 va)).setCell ⟨Ov, 1, none⟩ (.int .i64 vb) := ⟨_, rfl⟩
            rw [← hz5] at HQ5 ⊢
            clear hz5 HW5 HO5 o0 o1 f0 f1 s0 s1 s2 s3 t0 t1 t2 t3
            refine wp_region_tail (fun W => W.cell? ⟨S, 0, none⟩ = some (.int .i64 n0) ∧ W.cell? ⟨S, 1, none⟩ = some (.int .i64 n1) ∧ W.cell? ⟨Ov, 0, none⟩ = some (.int .i64 va) ∧ W.cell? ⟨Ov, 1, none⟩ = some (.int .i64 vb)) 14 (by kernel_rfl) ?_
            refine wpAnyT_letter (fun W => RQ w W B S Ov #[.slice al L cl, .slice ai H ci] n0 n1 n2 n3 va vb u4 u5 tl ts) (HQ5.out.more (Below.refl _ z5).drew) ?_
            clear HQ5
            rintro z hq
            refine wpAnyD_takeAt 0 (some 48) (v := ?_) rfl (by kernel_rfl) (by kernel_rfl) (by kernel_rfl) (by kernel_rfl) (by kernel_rfl) (fun _ _ _ h => h) (by exact ⟨hq.c0, hq.c1, hq.c2, hq.c3⟩) (fun o hop => ?_) ?_
            rotate_left
            · injection hop with hop
              subst hop
              refine ⟨rfl, fun W hW => ?_⟩
              obtain ⟨s0, s1, s2, s3⟩ := hW
              go_simp
              first
              | rfl
              | (constructor <;> rfl)
              | rw [if_neg (by omega)]
            try simp only [Act.put, List.setIfInBounds_toArray, List.set_cons_zero, List.set_cons_succ]
            refine wpAnyD_takeAt 1 (some 49) (v := ?_) rfl (by kernel_rfl) (by kernel_rfl) (by kernel_rfl) (by kernel_rfl) (by kernel_rfl) (fun _ _ _ h => h) (by exact ⟨hq.c0, hq.c1, hq.c2, hq.c3⟩) (fun o hop => ?_) ?_
            rotate_left
            · injection hop with hop
              subst hop
              refine ⟨rfl, fun W hW => ?_⟩
              obtain ⟨s0, s1, s2, s3⟩ := hW
              go_simp
              first
              | rfl
              | (constructor <;> rfl)
              | rw [if_neg (by omega)]
            try simp only [Act.put, List.setIfInBounds_toArray, List.set_cons_zero, List.set_cons_succ]
            refine wpAnyD_takeAt 2 (some 50) (v := ?_) rfl (by kernel_rfl) (by kernel_rfl) (by kernel_rfl) (by kernel_rfl) (by kernel_rfl) (fun _ _ _ h => h) (by exact ⟨hq.c0, hq.c1, hq.c2, hq.c3⟩) (fun o hop => ?_) ?_
            rotate_left
            · injection hop with hop
              subst hop
              refine ⟨rfl, fun W hW => ?_⟩
              obtain ⟨s0, s1, s2, s3⟩ := hW
              go_simp
              first
              | rfl
              | (constructor <;> rfl)
              | rw [if_neg (by omega)]
            try simp only [Act.put, List.setIfInBounds_toArray, List.set_cons_zero, List.set_cons_succ]
            refine wpAnyD_takeAt 3 (some 51) (v := ?_) rfl (by kernel_rfl) (by kernel_rfl) (by kernel_rfl) (by kernel_rfl) (by kernel_rfl) (fun _ _ _ h => h) (by exact ⟨hq.c0, hq.c1, hq.c2, hq.c3⟩) (fun o hop => ?_) ?_
            rotate_left
            · injection hop with hop
              subst hop
              refine ⟨rfl, fun W hW => ?_⟩
              obtain ⟨s0, s1, s2, s3⟩ := hW
              go_simp
              first
              | rfl
              | (constructor <;> rfl)
              | rw [if_neg (by omega)]
            try simp only [Act.put, List.setIfInBounds_toArray, List.set_cons_zero, List.set_cons_succ]
            refine wpAnyD_takeAt 7 (some 55) (v := ?_) rfl (by kernel_rfl) (by kernel_rfl) (by kernel_rfl) (by kernel_rfl) (by kernel_rfl) (fun _ _ _ h => h) (by exact ⟨hq.c0, hq.c1, hq.c2, hq.c3⟩) (fun o hop => ?_) ?_
            rotate_left
            · injection hop with hop
              subst hop
              refine ⟨rfl, fun W hW => ?_⟩
              obtain ⟨s0, s1, s2, s3⟩ := hW
              go_simp
              first
              | rfl
              | (constructor <;> rfl)
              | rw [if_neg (by omega)]
            try simp only [Act.put, List.setIfInBounds_toArray, List.set_cons_zero, List.set_cons_succ]
            refine wpAnyD_takeAt 8 (some 56) (v := ?_) rfl (by kernel_rfl) (by kernel_rfl) (by kernel_rfl) (by kernel_rfl) (by kernel_rfl) (fun _ _ _ h => h) (by exact ⟨hq.c0, hq.c1, hq.c2, hq.c3⟩) (fun o hop => ?_) ?_
            rotate_left
            · injection hop with hop
              subst hop
              refine ⟨rfl, fun W hW => ?_⟩
              obtain ⟨s0, s1, s2, s3⟩ := hW
              go_simp
              first
              | rfl
              | (constructor <;> rfl)
              | rw [if_neg (by omega)]
            try simp only [Act.put, List.setIfInBounds_toArray, List.set_cons_zero, List.set_cons_succ]
            refine wpAnyD_takeAt 9 (some 57) (v := ?_) rfl (by kernel_rfl) (by kernel_rfl) (by kernel_rfl) (by kernel_rfl) (by kernel_rfl) (fun _ _ _ h => h) (by exact ⟨hq.c0, hq.c1, hq.c2, hq.c3⟩) (fun o hop => ?_) ?_
            rotate_left
            · injection hop with hop
              subst hop
              refine ⟨rfl, fun W hW => ?_⟩
              obtain ⟨s0, s1, s2, s3⟩ := hW
              go_simp
              first
              | rfl
              | (constructor <;> rfl)
              | rw [if_neg (by omega)]
            try simp only [Act.put, List.setIfInBounds_toArray, List.set_cons_zero, List.set_cons_succ]
            refine wpAnyT_one (i := 4) (by kernel_rfl) rfl rfl (fun K' hK => ?_)
            go_simp
            go_at_call 66
            refine (list_any n0 n1 L hL z).mono ?_
            rintro e y1 ⟨ov, rfl, hov, hbb⟩
            obtain ⟨oa4, oc4, hoe⟩ := own_slice hov
            subst hoe
            have hq1 := hq.more hbb
            replace hov := own_mono hov hq.sz
            refine hK.out _ _ (fun _ => by exact ⟨hq1.c0, hq1.c1, hq1.c2, hq1.c3⟩) ?_
            clear hK K' hbb hq
            refine wpAnyT_one (i := 5) (by kernel_rfl) rfl rfl (fun K' hK => ?_)
            go_simp
            refine hK.out _ _ (fun _ => by exact ⟨(hq1.more (below_al y1 (.cells #[.slice oa4 (listOf n0 n1 L).length oc4] 39))).c0, (hq1.more (below_al y1 (.cells #[.slice oa4 (listOf n0 n1 L).length oc4] 39))).c1, (hq1.more (below_al y1 (.cells #[.slice oa4 (listOf n0 n1 L).length oc4] 39))).c2, (hq1.more (below_al y1 (.cells #[.slice oa4 (listOf n0 n1 L).length oc4] 39))).c3⟩) ?_
            clear hK K'
            obtain ⟨vals, hvl, hva, hvr⟩ := hq1.rs.a
            refine wpAnyT_one (i := 6) (by kernel_rfl) rfl rfl (fun K' hK => ?_)
            refine step_append_at rfl _ _ 51 rfl w.heap.size 39 i23 (.slice none 0 0) 1 24 Try.underlying51 hi23 h230 h231 h232 rfl (by decide) _ _ _ rfl (own_below hva (below_al _ _) (Nat.le_refl _)) ⟨y1.heap.size, 0, none⟩ 1 1 [.slice oa4 (listOf n0 n1 L).length oc4] rfl rfl (cell_one_new _ _ _) (one_cell rfl) (by have := HLN.out; unfold maxLen; omega) (by have := HLN.out; omega) (Nat.le_trans hq1.sz (below_al _ _).size) ?_
            intro v' y2 hown' hgrow hat'
            have hq2 := RQ.growA hq1 hvl hva hvr hov hown' rfl hgrow hat'
            refine hK.out _ _ (fun _ => by exact ⟨hq2.c0, hq2.c1, hq2.c2, hq2.c3⟩) ?_
            clear hK K' hown' hgrow hat' hva hvr hvl vals hov hq1
            refine wpAnyT_one (i := 10) (by kernel_rfl) rfl rfl (fun K' hK => ?_)
            go_simp
            go_at_call 66
            refine (list_any va vb L hL y2).mono ?_
            rintro e y3 ⟨ov, rfl, hov, hbb⟩
            obtain ⟨oa10, oc10, hoe⟩ := own_slice hov
            subst hoe
            have hq3 := hq2.more hbb
            replace hov := own_mono hov hq2.sz
            refine hK.out _ _ (fun _ => by exact ⟨hq3.c0, hq3.c1, hq3.c2, hq3.c3⟩) ?_
            clear hK K' hbb hq2
            refine wpAnyT_one (i := 11) (by kernel_rfl) rfl rfl (fun K' hK => ?_)
            go_simp
            refine hK.out _ _ (fun _ => by exact ⟨(hq3.more (below_al y3 (.cells #[.slice oa10 (listOf va vb L).length oc10] 39))).c0, (hq3.more (below_al y3 (.cells #[.slice oa10 (listOf va vb L).length oc10] 39))).c1, (hq3.more (below_al y3 (.cells #[.slice oa10 (listOf va vb L).length oc10] 39))).c2, (hq3.more (below_al y3 (.cells #[.slice oa10 (listOf va vb L).length oc10] 39))).c3⟩) ?_
            clear hK K'
            obtain ⟨vals, hvl, hvb, hvr⟩ := hq3.rs.b
            refine wpAnyT_one (i := 12) (by kernel_rfl) rfl rfl (fun K' hK => ?_)
            refine step_append_at rfl _ _ 51 rfl w.heap.size 39 i23 (.slice none 0 0) 1 24 Try.underlying51 hi23 h230 h231 h232 rfl (by decide) _ _ _ rfl (own_below hvb (below_al _ _) (Nat.le_refl _)) ⟨y3.heap.size, 0, none⟩ 1 1 [.slice oa10 (listOf va vb L).length oc10] rfl rfl (cell_one_new _ _ _) (one_cell rfl) (by have := HLN.out; unfold maxLen; omega) (by have := HLN.out; omega) (Nat.le_trans hq3.sz (below_al _ _).size) ?_
            intro v2 y4 hown2 hgrow hat2
            have hq4 := RQ.growB hq3 hvl hvb hvr hov hown2 rfl hgrow hat2
            refine hK.out _ _ (fun _ => by exact ⟨hq4.c0, hq4.c1, hq4.c2, hq4.c3⟩) ?_
            clear hK K' hown2 hgrow hat2 hvb hvr hvl vals hov hq3
            refine wpAnyT_one (i := 13) (by kernel_rfl) rfl rfl (fun K' hK => ?_)
            go_simp
            refine hK.out _ _ (fun _ => by exact ⟨hq4.c0, hq4.c1, hq4.c2, hq4.c3⟩) ?_
            clear hK K'
            refine wpAnyT_one (i := 14) (by kernel_rfl) rfl rfl (fun K' hK => ?_)
            go_simp
            refine hK.out _ _ (fun h => absurd rfl h) ?_
            clear hK K'
            refine wpAnyT_done (by kernel_rfl) ?_ _
            have HQF := hide' hq4
            clear hq4
            go_wp2_with fail
            go_roundw
            case rel => exact ⟨k + 1, ⟨⟨n0, n1, n2, n3⟩, tl ++ [listOf n0 n1 L], ts ++ [listOf va vb L]⟩, by go_num, by omega, HNX, HQF.out.rs⟩
            case measure => simp [intOf]; omega
      · obtain rfl : k = H := by omega
        have HFN := hide' (HRO.out _ _ ⟨.inr ⟨r, _, _, HR.out.1, rfl, HW.out.a, HW.out.b⟩, HW.out.bel⟩)
        clear HW HR HRO
        go_wp2_with fail
        go_ret3
        exact HFN.out
end Go.Proofs.Ytnhddmcdmcpkeaj
