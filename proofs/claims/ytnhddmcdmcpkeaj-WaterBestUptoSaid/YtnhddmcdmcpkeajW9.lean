/- Rows of rows that grow; hours, and what they come to. -/
import Derived.Test.YtnhddmcdmcpkeajW5
import Derived.Test.YtnhddmcdmcpkeajW6
import Derived.Test.YtnhddmcdmcpkeajW7
import Derived.Test.YtnhddmcdmcpkeajW8
namespace Go.Proofs.Ytnhddmcdmcpkeaj
open Go.RowKit Go.Shelf

theorem own_not {W : World} {M B e sz n : Nat} {v : Value} {xs : List Value} {cur : Array Value} {t : TypeId} (h : W.ownsRow B e sz v n xs) (hM : W.heap[M]? = some (.cells cur t (0, 0))) (hte : e ≠ t) : v.ownBlock ≠ some M := fun he => by
  rcases h.2 with ⟨h1, _⟩ | ⟨g, cap, cur', h3, _, h5, _⟩
  · rw [h1] at he; cases he
  · rw [h3] at he
    have : g = M := by simpa [Value.ownBlock] using he
    subst this
    rw [hM] at h5
    cases h5
    exact hte rfl
/-- A row of rows of numbers. -/
def StepsAt (W : World) (B : Nat) (sv : Value) (ls : List (List Int)) : Prop := ∃ vals : List Value, vals.length = ls.length ∧ W.ownsRow B 39 1 sv ls.length vals ∧ ∀ (j : Nat) (x : Value) (l : List Int), vals[j]? = some x → ls[j]? = some l → W.ownsRow B 3 1 x l.length (ints l)
theorem StepsAt.keep {W W' : World} {B e : Nat} {sv : Value} {ls : List (List Int)} (h : StepsAt W B sv ls) (hk : KeepE e W W') (h1 : 39 ≠ e) (h2 : 3 ≠ e) : StepsAt W' B sv ls := by
  obtain ⟨vals, g1, g2, g3⟩ := h
  exact ⟨vals, g1, own_keep g2 hk h1, fun j x l hx hl => own_keep (g3 j x l hx hl) hk h2⟩
theorem StepsAt.below {W W' : World} {B : Nat} {sv : Value} {ls : List (List Int)} (h : StepsAt W B sv ls) (hb : Below W.heap.size W W') : StepsAt W' B sv ls := by
  obtain ⟨vals, g1, g2, g3⟩ := h
  exact ⟨vals, g1, own_below g2 hb (Nat.le_refl _), fun j x l hx hl => own_below (g3 j x l hx hl) hb (Nat.le_refl _)⟩
theorem StepsAt.nil (W : World) (B : Nat) : StepsAt W B (.slice none 0 0) [] := ⟨[], rfl, World.ownsRow_nil _ _ _ _, fun j x l hx => by simp at hx⟩
theorem StepsAt.tab {W : World} {B : Nat} {sv : Value} {ls : List (List Int)} (h : StepsAt W B sv ls) : TabAt W sv ls := by
  obtain ⟨vals, g1, g2, g3⟩ := h
  exact ⟨vals, g1, rowAt_of_own g2, fun j x l hx hl => rowAt_of_own (g3 j x l hx hl)⟩
theorem StepsAt.slice {W : World} {B : Nat} {sv : Value} {ls : List (List Int)} (h : StepsAt W B sv ls) : ∃ a c, sv = .slice a ls.length c := h.tab.slice
/-- Another row's growing. -/
theorem StepsAt.grown {W W' : World} {B B2 n : Nat} {sv s2 : Value} {ls : List (List Int)} {xs : List Value} (h : StepsAt W B sv ls) (h2 : W.ownsRow B2 39 1 s2 n xs) (hne : ∀ k, sv.ownBlock = some k → s2.ownBlock ≠ some k) (hg : W.grownBy W' s2.ownBlock) : StepsAt W' B sv ls := by
  obtain ⟨vals, g1, g2, g3⟩ := h
  refine ⟨vals, g1, ?_, fun j x l hx hl => ?_⟩
  · refine ⟨g2.1, ?_⟩
    rcases g2.2 with q | ⟨g, cap, cur, q3, q4, q5, q6⟩
    · exact .inl q
    · refine .inr ⟨g, cap, cur, q3, q4, (hg.block g (lt_heap q5) (fun e => ?_)).trans q5, q6⟩
      exact hne g (by rw [q3]; rfl) e.symm
  · have g4 := g3 j x l hx hl
    refine ⟨g4.1, ?_⟩
    rcases g4.2 with q | ⟨g, cap, cur, q3, q4, q5, q6⟩
    · exact .inl q
    · refine .inr ⟨g, cap, cur, q3, q4, (hg.block g (lt_heap q5) (fun e => ?_)).trans q5, q6⟩
      exact own_not h2 q5 (by decide) e.symm
theorem StepsAt.more {W W' : World} {B n : Nat} {sv sv' ov : Value} {ls : List (List Int)} {l : List Int} {vals : List Value} {o : Obj} (hl : vals.length = ls.length) (h : W.ownsRow B 39 1 sv ls.length vals) (hr : ∀ (j : Nat) (x : Value) (l : List Int), vals[j]? = some x → ls[j]? = some l → W.ownsRow B 3 1 x l.length (ints l)) (ho : W.ownsRow B 3 1 ov l.length (ints l)) (hown : W'.ownsRow B 39 1 sv' n (vals ++ [ov])) (hn : n = ls.length + 1) (hg : (W.alloc o).grownBy W' sv.ownBlock) : StepsAt W' B sv' (ls ++ [l]) := by
  have keep : ∀ x l, W.ownsRow B 3 1 x l.length (ints l) → W'.ownsRow B 3 1 x l.length (ints l) := fun x l hx => by
    have h1 := own_below hx (below_al W o) (Nat.le_refl _)
    refine ⟨h1.1, ?_⟩
    rcases h1.2 with h2 | ⟨g, cap, cur, h3, h4, h5, h6⟩
    · exact .inl h2
    · refine .inr ⟨g, cap, cur, h3, h4, (hg.block g (lt_heap h5) (fun e => ?_)).trans h5, h6⟩
      have h7 := own_below h (below_al W o) (Nat.le_refl _)
      exact own_not h7 h5 (by decide) e.symm
  refine ⟨vals ++ [ov], by simp [hl], by rw [List.length_append, List.length_singleton, ← hn]; exact hown, fun j x l' hx hl' => ?_⟩
  by_cases e : j < ls.length
  · rw [List.getElem?_append_left (by omega)] at hx
    rw [List.getElem?_append_left e] at hl'
    exact keep x l' (hr j x l' hx hl')
  · have hj : j = ls.length := by
      have := (List.getElem?_eq_some_iff.1 hl').1
      rw [List.length_append, List.length_singleton] at this
      omega
    subst hj
    rw [List.getElem?_append_right (by omega), ← hl] at hx
    rw [List.getElem?_append_right (Nat.le_refl _)] at hl'
    simp at hx hl'
    rw [← hx, ← hl']
    exact keep ov l ho

/-- How lakes stand: levels, and what is on its way. -/
structure Stnd where
  l0 : Int
  l1 : Int
  u0 : Int
  u1 : Int
def Stnd.cells (s : Stnd) : Array Value := #[.int .i64 s.l0, .int .i64 s.l1, .int .i64 s.u0, .int .i64 s.u1]
structure Pair2 where
  a : Int
  b : Int
def full2 (L : Nat) (s : Stnd) (inr : List Int) : Pair2 := ⟨if 0 < L then fillOf inr s.l0 s.u0 0 else s.l0, if 1 < L then fillOf inr s.l1 s.u1 1 else s.l1⟩
def free2 (ls : List LakeM) (L : Nat) (f : Pair2) : Pair2 := ⟨if 0 < L then freeOf (lkD ls 0) f.a else 0, if 1 < L then freeOf (lkD ls 1) f.b else 0⟩
def rel2 (L : Nat) (rr : List Int) : Pair2 := ⟨if 0 < L then rr.getD 0 0 else 0, if 1 < L then rr.getD 1 0 else 0⟩
def next2 (ls : List LakeM) (L : Nat) (f r : Pair2) : Stnd := ⟨if 0 < L then levOf (lkD ls 0) f.a r.a else 0, if 1 < L then levOf (lkD ls 1) f.b r.b else 0, 0, if 0 < L ∧ L = 2 then r.a + spOf (lkD ls 0) f.a r.a else 0⟩
def spill2 (ls : List LakeM) (L : Nat) (f r : Pair2) : Pair2 := ⟨if 0 < L then spOf (lkD ls 0) f.a r.a else 0, if 1 < L then spOf (lkD ls 1) f.b r.b else 0⟩
def hourOk (ls : List LakeM) (L : Nat) (s : Stnd) (inr rr : List Int) : Bool := askB rr (free2 ls L (full2 L s inr)).a (free2 ls L (full2 L s inr)).b L
def hourS (ls : List LakeM) (L : Nat) (s : Stnd) (inr rr : List Int) : Stnd := next2 ls L (full2 L s inr) (rel2 L rr)
def hourV (ls : List LakeM) (L : Nat) (s : Stnd) (inr rr : List Int) : Pair2 := spill2 ls L (full2 L s inr) (rel2 L rr)
def startS (ls : List LakeM) (L : Nat) : Stnd := ⟨if 0 < L then (lkD ls 0).start else 0, if 1 < L then (lkD ls 1).start else 0, 0, 0⟩
structure RunR where
  s : Stnd
  lv : List (List Int)
  sp : List (List Int)
def runK (ls : List LakeM) (L : Nat) (ti tr : List (List Int)) : Nat → Option RunR
  | 0 => some ⟨startS ls L, [], []⟩
  | k + 1 => match runK ls L ti tr k with
    | none => none
    | some r => if hourOk ls L r.s (ti.getD k []) (tr.getD k []) then some ⟨hourS ls L r.s (ti.getD k []) (tr.getD k []), r.lv ++ [listOf (hourS ls L r.s (ti.getD k []) (tr.getD k [])).l0 (hourS ls L r.s (ti.getD k []) (tr.getD k [])).l1 L], r.sp ++ [listOf (hourV ls L r.s (ti.getD k []) (tr.getD k [])).a (hourV ls L r.s (ti.getD k []) (tr.getD k [])).b L]⟩ else none
theorem run_none {ls : List LakeM} {L : Nat} {ti tr : List (List Int)} {k : Nat} (h : runK ls L ti tr k = none) (j : Nat) : runK ls L ti tr (k + j) = none := by
  induction j with
  | zero => exact h
  | succ j ih => show runK ls L ti tr ((k + j) + 1) = none; unfold runK; rw [ih]
theorem run_shut {ls : List LakeM} {L : Nat} {ti tr : List (List Int)} {k H : Nat} {r : RunR} (h : runK ls L ti tr k = some r) (hk : k < H) (hn : hourOk ls L r.s (ti.getD k []) (tr.getD k []) = false) : runK ls L ti tr H = none := by
  have h1 : runK ls L ti tr (k + 1) = none := by unfold runK; rw [h]; exact if_neg (by rw [hn]; decide)
  have e : H = (k + 1) + (H - (k + 1)) := by omega
  rw [e]
  exact run_none h1 _
theorem run_next {ls : List LakeM} {L : Nat} {ti tr : List (List Int)} {k : Nat} {r : RunR} (h : runK ls L ti tr k = some r) (hn : hourOk ls L r.s (ti.getD k []) (tr.getD k []) = true) : runK ls L ti tr (k + 1) = some ⟨hourS ls L r.s (ti.getD k []) (tr.getD k []), r.lv ++ [listOf (hourS ls L r.s (ti.getD k []) (tr.getD k [])).l0 (hourS ls L r.s (ti.getD k []) (tr.getD k [])).l1 L], r.sp ++ [listOf (hourV ls L r.s (ti.getD k []) (tr.getD k [])).a (hourV ls L r.s (ti.getD k []) (tr.getD k [])).b L]⟩ := by
  unfold runK; rw [h]; exact if_pos hn
/-- What is always so. -/
structure Good (ls : List LakeM) (L : Nat) (s : Stnd) : Prop where
  a : 0 < L → (lkD ls 0).least ≤ s.l0 ∧ s.l0 ≤ (lkD ls 0).most
  b : 1 < L → (lkD ls 1).least ≤ s.l1 ∧ s.l1 ≤ (lkD ls 1).most
  a' : ¬ 0 < L → s.l0 = 0
  b' : ¬ 1 < L → s.l1 = 0
  u : s.u0 = 0
  v : 0 ≤ s.u1 ∧ s.u1 ≤ 30
  v' : ¬ 1 < L → s.u1 = 0
theorem askB_iff {rr : List Int} {f0 f1 : Int} {L : Nat} : askB rr f0 f1 L = true ↔ (0 < L → 0 ≤ rr.getD 0 0 ∧ rr.getD 0 0 ≤ f0) ∧ (1 < L → 0 ≤ rr.getD 1 0 ∧ rr.getD 1 0 ≤ f1) := by
  unfold askB withinB
  simp only [Bool.and_eq_true, decide_eq_true_eq]
theorem good_start {ls : List LakeM} {L : Nat} (hok : ∀ k ∈ ls, LakeOk k) (hl : ls.length = L) : Good ls L (startS ls L) := by
  unfold startS
  refine ⟨fun h => ?_, fun h => ?_, fun h => if_neg h, fun h => if_neg h, rfl, (show (0 : Int) ≤ 0 ∧ (0 : Int) ≤ 30 by decide), fun _ => rfl⟩
  · have ok := lkD_ok hok (i := 0) (by omega)
    show _ ≤ (if 0 < L then _ else _) ∧ (if 0 < L then _ else _) ≤ _
    rw [if_pos h]; exact ⟨ok.s, ok.m⟩
  · have ok := lkD_ok hok (i := 1) (by omega)
    show _ ≤ (if 1 < L then _ else _) ∧ (if 1 < L then _ else _) ≤ _
    rw [if_pos h]; exact ⟨ok.s, ok.m⟩
/-- One lake's hour. -/
theorem lake_hour {k : LakeM} (ok : LakeOk k) {f r : Int} (hf : k.least ≤ f) (hr : 0 ≤ r ∧ r ≤ freeOf k f) : k.least ≤ levOf k f r ∧ levOf k f r ≤ k.most ∧ 0 ≤ spOf k f r ∧ r + spOf k f r ≤ f ∧ (0 < spOf k f r → ¬ levOf k f r < k.most) ∧ levOf k f r + spOf k f r = f - r ∧ r ≤ 4 := by
  have h1 := ok.l; have h2 := ok.s; have h3 := ok.m; have h4 := ok.x; have h5 := ok.t
  unfold freeOf at hr
  unfold spOf levOf
  refine ⟨?_, ?_, ?_, ?_, ?_, ?_, ?_⟩ <;> (repeat' split at hr) <;> (repeat' split) <;> omega
theorem good_hour {ls : List LakeM} {L : Nat} {s : Stnd} {inr rr : List Int} (hok : ∀ k ∈ ls, LakeOk k) (hl : ls.length = L) (hL : L ≤ 2) (hin : ∀ i, i < L → 0 ≤ inr.getD i 0 ∧ inr.getD i 0 ≤ 10) (g : Good ls L s) (h : hourOk ls L s inr rr = true) : Good ls L (hourS ls L s inr rr) := by
  have hq := askB_iff.1 h
  unfold hourS next2
  have e0 : ∀ h0 : 0 < L, (full2 L s inr).a = fillOf inr s.l0 s.u0 0 := fun h0 => if_pos h0
  have e1 : ∀ h0 : 1 < L, (full2 L s inr).b = fillOf inr s.l1 s.u1 1 := fun h0 => if_pos h0
  have a0 : 0 < L → _ := fun h0 => by
    have ok := lkD_ok hok (i := 0) (by omega)
    have q := hq.1 h0
    have ef : (free2 ls L (full2 L s inr)).a = freeOf (lkD ls 0) (full2 L s inr).a := if_pos h0
    rw [ef] at q
    have := g.a h0; have := g.u; have := hin 0 h0
    exact (And.intro (lake_hour ok (f := (full2 L s inr).a) (r := rr.getD 0 0) (by rw [e0 h0]; unfold fillOf; omega) q) (show (full2 L s inr).a ≤ 30 by rw [e0 h0]; unfold fillOf; have := ok.x; omega))
  have a1 : 1 < L → _ := fun h0 => by
    have ok := lkD_ok hok (i := 1) (by omega)
    have q := hq.2 h0
    have ef : (free2 ls L (full2 L s inr)).b = freeOf (lkD ls 1) (full2 L s inr).b := if_pos h0
    rw [ef] at q
    have := g.b h0; have := g.v; have := hin 1 h0
    exact lake_hour ok (f := (full2 L s inr).b) (r := rr.getD 1 0) (by rw [e1 h0]; unfold fillOf; omega) q
  have r0 : ∀ h0 : 0 < L, (rel2 L rr).a = rr.getD 0 0 := fun h0 => if_pos h0
  have r1 : ∀ h0 : 1 < L, (rel2 L rr).b = rr.getD 1 0 := fun h0 => if_pos h0
  refine ⟨fun h0 => ?_, fun h0 => ?_, fun h0 => if_neg h0, fun h0 => if_neg h0, rfl, ?_, fun h0 => if_neg (by omega)⟩
  · show _ ≤ (if 0 < L then _ else _) ∧ (if 0 < L then _ else _) ≤ _
    rw [if_pos h0, r0 h0]
    exact ⟨(a0 h0).1.1, (a0 h0).1.2.1⟩
  · show _ ≤ (if 1 < L then _ else _) ∧ (if 1 < L then _ else _) ≤ _
    rw [if_pos h0, r1 h0]
    exact ⟨(a1 h0).1, (a1 h0).2.1⟩
  · show 0 ≤ (if 0 < L ∧ L = 2 then _ else _) ∧ (if 0 < L ∧ L = 2 then _ else _) ≤ _
    by_cases h0 : 0 < L ∧ L = 2
    · rw [if_pos h0, r0 h0.1]
      have := a0 h0.1
      have := hq.1 h0.1
      omega
    · rw [if_neg h0]; decide
end Go.Proofs.Ytnhddmcdmcpkeaj
