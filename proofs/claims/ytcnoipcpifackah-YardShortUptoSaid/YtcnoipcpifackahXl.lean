/- The search in memory: what stays, and one place more. -/
import Derived.Test.YtcnoipcpifackahXj
import Derived.Test.YtcnoipcpifackahYh
namespace Go.Proofs.Ytcnoipcpifackah
open Go.RowKit Go.Shelf

/-- A yard at work, in every later world that keeps its rows and all that was there at w0. -/
def WorkB (w0 wr : World) (z : YardM) (p : Places) : Prop := ∀ w2, KeepX wr w2 → Below w0.heap.size w0 w2 → WorkAt w2 z p
theorem WorkB.keep {w0 wr w' : World} {z : YardM} {p : Places} (h : WorkB w0 wr z p) (hk : KeepX wr w') : WorkB w0 w' z p := fun w2 h1 h2 => h w2 (hk.trans h1) h2
theorem WorkB.now {w0 wr : World} {z : YardM} {p : Places} (h : WorkB w0 wr z p) (hb : Below w0.heap.size w0 wr) : WorkAt wr z p := h wr (KeepX.refl wr) hb
/-- What a move answers, of a yard that stays. -/
theorem WorkB.move {w0 wr w' : World} {z : YardM} {p : Places} {k : Nat} {e : Ending} (h : WorkB w0 wr z p) (hm : MoveO z p k wr e w') : ((moveErr z k ≠ 0 ∧ e = .returned (.tuple #[.agg zero8, .int .i64 (moveErr z k)])) ∨ (moveErr z k = 0 ∧ ∃ q, e = .returned (.tuple #[workV (z.turn k) q, .int .i64 0]) ∧ WorkB w0 w' (z.turn k) q)) ∧ Below wr.heap.size wr w' := by
  obtain ⟨h1 | ⟨h1, q, he, hq⟩, hb⟩ := hm
  · exact ⟨.inl h1, hb⟩
  · refine ⟨.inr ⟨h1, q, he, fun w2 hk hw => ?_⟩, hb⟩
    have hz := h w2 ((KeepX.below hb (Nat.le_refl _)).trans hk) hw
    exact hq w2 hk hz.yard.f hz.yard.d
/-- A place on a way: its number, the move that led there, from which place; where its yard lies. -/
structure PlaceM where
  c : Nat
  b : Nat
  f : Nat
  p : Places
def workL (z : YardM) (p : Places) : List Value := [.int .i64 z.points, .slice p.af z.fed.length p.cf, .slice p.ad z.drawn.length p.cd, .slice p.as' z.devs.length p.cs, .slice (some ⟨p.G, 0, none⟩) z.n p.cg, .slice (some ⟨p.L, 0, none⟩) z.n z.n, .slice (some ⟨p.E, 0, none⟩) z.n z.n, .slice (some ⟨p.D, 0, none⟩) z.n z.n]
def PlaceM.cells (y : YardM) (m : PlaceM) : List Value := workL (y.at m.c) m.p ++ [.int .i64 (m.c : Int), .int .i64 (m.b : Int), .int .i64 (m.f : Int)]
theorem place_len (y : YardM) (m : PlaceM) : (m.cells y).length = 11 := rfl
theorem place_one (y : YardM) (l : List PlaceM) : ∀ u ∈ l.flatMap (PlaceM.cells y), u.oneCell' = true := fun u hu => by
  obtain ⟨m, _, h⟩ := List.mem_flatMap.1 hu
  unfold PlaceM.cells workL at h
  simp only [List.cons_append, List.nil_append, List.mem_cons, List.not_mem_nil, or_false] at h
  rcases h with rfl | rfl | rfl | rfl | rfl | rfl | rfl | rfl | rfl | rfl | rfl <;> rfl
/-- What is so in the search: the places reached, in memory. -/
structure PlanI (w0 : World) (y : YardM) (K : Nat) (rv : Value) (R : List (Nat × List Nat)) (M : List PlaceM) (wr : World) : Prop where
  len : M.length = R.length
  cs : ∀ (j : Nat) (m : PlaceM) (x : Nat × List Nat), M[j]? = some m → R[j]? = some x → m.c = x.1 ∧ m.c < 2 ^ y.devs.length ∧ soundB (y.at m.c) = true ∧ (0 < j → m.f < j ∧ ∃ (d : Nat) (q : List Nat), R[m.f]? = some (d, q) ∧ x.2 = q ++ [m.b])
  row : wr.ownsRow w0.heap.size 74 11 rv M.length (M.flatMap (PlaceM.cells y))
  work : ∀ m ∈ M, WorkB w0 wr (y.at m.c) m.p
  kn : ∃ kn, KnownAt wr K kn ∧ ∀ c, c < 1024 → (kn c = true ↔ ∃ (j : Nat) (q : List Nat), R[j]? = some (c, q))
  kb : w0.heap.size ≤ K
  bel : Below w0.heap.size w0 wr
end Go.Proofs.Ytcnoipcpifackah
namespace Go.Proofs.Ytcnoipcpifackah
open Go.RowKit Go.Shelf

theorem PlanI.below {w0 wr w' : World} {y : YardM} {K : Nat} {rv : Value} {R : List (Nat × List Nat)} {M : List PlaceM} (h : PlanI w0 y K rv R M wr) (hb : Below wr.heap.size wr w') : PlanI w0 y K rv R M w' := by
  obtain ⟨kn, hk, hiff⟩ := h.kn
  refine ⟨h.len, h.cs, own_below h.row hb (Nat.le_refl _), fun m hm => (h.work m hm).keep (KeepX.below hb (Nat.le_refl _)), ⟨kn, ?_, hiff⟩, h.kb, h.bel.trans (hb.mono h.bel.size)⟩
  obtain ⟨cs, h1, _, _⟩ := hk.blk
  exact hk.keep (hb.block K (Array.getElem?_eq_some_iff.1 h1).1)
/-- One place more. -/
theorem PlanI.add {w0 w1 w4 : World} {y : YardM} {K t : Nat} {rv rv' : Value} {R : List (Nat × List Nat)} {M : List PlaceM} {m : PlaceM} {q : List Nat} {kn : Nat → Bool} (h : PlanI w0 y K rv R M w1)
    (hrow : w4.ownsRow w0.heap.size 74 11 rv' (M.length + 1) (M.flatMap (PlaceM.cells y) ++ m.cells y)) (hkeep : KeepX w1 w4) (hbel : Below w0.heap.size w0 w4)
    (hkn : KnownAt w4 K (fun x => if x = t then true else kn x)) (hiff : ∀ c, c < 1024 → (kn c = true ↔ ∃ (j : Nat) (q : List Nat), R[j]? = some (c, q))) (hm : m.c = t) (ht : t < 2 ^ y.devs.length) (hs : soundB (y.at t) = true) (hw : WorkB w0 w4 (y.at t) m.p)
    (hf : m.f < M.length ∧ ∃ (d : Nat) (p : List Nat), R[m.f]? = some (d, p) ∧ q = p ++ [m.b]) : PlanI w0 y K rv' (R ++ [(t, q)]) (M ++ [m]) w4 := by
  have hl := h.len
  refine ⟨by rw [List.length_append, List.length_append, hl]; rfl, fun j a x ha hx => ?_, ?_, fun a ha => ?_, ⟨_, hkn, fun c hc => ?_⟩, h.kb, hbel⟩
  · by_cases hj : j < M.length
    · rw [List.getElem?_append_left hj] at ha
      rw [List.getElem?_append_left (by omega)] at hx
      obtain ⟨g1, g2, g3, g4⟩ := h.cs j a x ha hx
      refine ⟨g1, g2, g3, fun h0 => ?_⟩
      obtain ⟨g5, d, p, g6, g7⟩ := g4 h0
      exact ⟨g5, d, p, by rw [List.getElem?_append_left (by omega)]; exact g6, g7⟩
    · have hjl := (List.getElem?_eq_some_iff.1 ha).1
      rw [List.length_append] at hjl
      have ej : j = M.length := by
        have : j < M.length + 1 := hjl
        omega
      subst ej
      rw [List.getElem?_append_right (Nat.le_refl _), Nat.sub_self] at ha
      rw [hl, List.getElem?_append_right (Nat.le_refl _), Nat.sub_self] at hx
      cases ha
      cases hx
      refine ⟨hm, by rw [hm]; exact ht, by rw [hm]; exact hs, fun _ => ⟨hf.1, ?_⟩⟩
      obtain ⟨d, p, g1, g2⟩ := hf.2
      exact ⟨d, p, by rw [List.getElem?_append_left (by have := hf.1; omega)]; exact g1, g2⟩
  · rw [List.length_append, List.flatMap_append]
    show w4.ownsRow _ _ _ _ (M.length + 1) (M.flatMap (PlaceM.cells y) ++ ([m].flatMap (PlaceM.cells y)))
    rw [List.flatMap_singleton]
    exact hrow
  · rcases List.mem_append.1 ha with ha | ha
    · exact (h.work a ha).keep hkeep
    · rw [List.mem_singleton.1 ha, hm]
      exact hw
  · by_cases e : c = t
    · rw [if_pos e]
      refine ⟨fun _ => ⟨R.length, q, ?_⟩, fun _ => rfl⟩
      rw [List.getElem?_append_right (Nat.le_refl _), Nat.sub_self, e]
      rfl
    · rw [if_neg e, hiff c hc]
      constructor
      · rintro ⟨j, r, hj⟩
        exact ⟨j, r, by rw [List.getElem?_append_left (List.getElem?_eq_some_iff.1 hj).1]; exact hj⟩
      · rintro ⟨j, r, hj⟩
        by_cases hjl : j < R.length
        · rw [List.getElem?_append_left hjl] at hj
          exact ⟨j, r, hj⟩
        · have h2 := (List.getElem?_eq_some_iff.1 hj).1
          rw [List.length_append] at h2
          have ej : j = R.length := by
            have : j < R.length + 1 := h2
            omega
          subst ej
          rw [List.getElem?_append_right (Nat.le_refl _), Nat.sub_self] at hj
          cases hj
          exact absurd rfl e
end Go.Proofs.Ytcnoipcpifackah
