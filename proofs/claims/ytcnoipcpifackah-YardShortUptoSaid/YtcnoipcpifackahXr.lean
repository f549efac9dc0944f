/- The search in memory: one place more, as the program adds it. -/
import Derived.Test.YtcnoipcpifackahXl
import Derived.Test.YtcnoipcpifackahXb
namespace Go.Proofs.Ytcnoipcpifackah
open Go.RowKit Go.Shelf

theorem codes_nodup {f : Nat → Nat → Option Nat} {s a k : Nat} {R : List (Nat × List Nat)} (h : Bfs f s R a k) : (R.map (·.1)).Nodup := by
  rw [List.nodup_iff_pairwise_ne, List.pairwise_iff_getElem]
  intro i j hi hj hij he
  rw [List.length_map] at hi hj
  rw [List.getElem_map, List.getElem_map] at he
  have h1 : R[i]? = some (R[i].1, R[i].2) := List.getElem?_eq_getElem hi
  have h2 : R[j]? = some (R[i].1, R[j].2) := by rw [he]; exact List.getElem?_eq_getElem hj
  have := h.dis i j _ _ _ h1 h2
  omega
/-- There are no more places than numbers. -/
theorem PlanI.count {w0 wr : World} {y : YardM} {K : Nat} {rv : Value} {R : List (Nat × List Nat)} {M : List PlaceM} {f : Nat → Nat → Option Nat} {s a k : Nat} (h : PlanI w0 y K rv R M wr) (hb : Bfs f s R a k) (hd : y.devs.length ≤ 10) : M.length ≤ 1024 := by
  have h1 := pigeon (2 ^ y.devs.length) _ (codes_nodup hb) (fun x hx => by
    obtain ⟨r, hr, rfl⟩ := List.mem_map.1 hx
    obtain ⟨j, hj⟩ := List.mem_iff_getElem?.1 hr
    have hl := (List.getElem?_eq_some_iff.1 hj).1
    have hjm : j < M.length := by rw [h.len]; exact hl
    obtain ⟨g1, g2, _⟩ := h.cs j M[j] r (List.getElem?_eq_getElem hjm) hj
    rw [← g1]
    exact g2)
  rw [List.length_map] at h1
  have h2 : 2 ^ y.devs.length ≤ 2 ^ 10 := Nat.pow_le_pow_right (by decide) hd
  have := h.len
  omega
theorem flat11 (y : YardM) : ∀ (l : List PlaceM) (j i : Nat) (m : PlaceM), l[j]? = some m → i < 11 → (l.flatMap (PlaceM.cells y))[j * 11 + i]? = (m.cells y)[i]?
  | [], _, _, _, h, _ => by simp at h
  | m0 :: l, 0, i, m, h, hi => by
    rw [List.getElem?_cons_zero] at h
    cases h
    rw [List.flatMap_cons, List.getElem?_append_left (by rw [place_len]; omega)]
    congr 1
    omega
  | m0 :: l, j + 1, i, m, h, hi => by
    rw [List.getElem?_cons_succ] at h
    rw [List.flatMap_cons, List.getElem?_append_right (by rw [place_len]; omega), place_len, show (j + 1) * 11 + i - 11 = j * 11 + i by omega]
    exact flat11 y l j i m h hi
/-- The row of places: where it lies. -/
theorem PlanI.at_ {w0 wr : World} {y : YardM} {K : Nat} {rv : Value} {R : List (Nat × List Nat)} {M : List PlaceM} (h : PlanI w0 y K rv R M wr) (hM : 0 < M.length) : ∃ g c, rv = .slice (some ⟨g, 0, none⟩) M.length c := by
  rcases h.row.2 with ⟨_, h0⟩ | ⟨g, c, _, hv, _⟩
  · omega
  · exact ⟨g, c, hv⟩
theorem PlanI.cell {w0 wr : World} {y : YardM} {K g c : Nat} {R : List (Nat × List Nat)} {M : List PlaceM} (h : PlanI w0 y K (.slice (some ⟨g, 0, none⟩) M.length c) R M wr) {j i : Nat} {m : PlaceM} {u : Value} (hj : M[j]? = some m) (hi : i < 11) (hu : (m.cells y)[i]? = some u) : wr.cell? ⟨g, j * 11 + i, none⟩ = some u :=
  (own_cell h.row ((flat11 y M j i m hj hi).trans hu)).1
/-- The row of moves that led to place j. -/
theorem PlanI.way {w0 wr : World} {y : YardM} {K g c : Nat} {R : List (Nat × List Nat)} {M : List PlaceM} (h : PlanI w0 y K (.slice (some ⟨g, 0, none⟩) M.length c) R M wr) {s a : Nat} {d : Nat} {q : List Nat} (h0 : R[0]? = some (s, [])) (ha : R[a]? = some (d, q)) (hn : M.length ≤ 1024) : Calls Try.prog 41 #[.slice (some ⟨g, 0, none⟩) M.length c, .int .i64 (a : Int)] wr fun e w' => ∃ v, e = .returned v ∧ w'.ownsRow wr.heap.size 3 1 v q.length (ints (natI q)) ∧ Below wr.heap.size wr w' := by
  have hl := h.len
  have hal := (List.getElem?_eq_some_iff.1 ha).1
  have hp := way_any M.length a g 0 c (fun j => ((M[j]?).map PlaceM.b).getD 0) (fun j => ((M[j]?).map PlaceM.f).getD 0) (fun j => ((R[j]?).map Prod.snd).getD []) wr (fun j hj => by
      have e := List.getElem?_eq_getElem hj
      have c9 := h.cell (i := 9) (u := .int .i64 (M[j].b : Int)) e (by decide) rfl
      have c10 := h.cell (i := 10) (u := .int .i64 (M[j].f : Int)) e (by decide) rfl
      rw [Nat.zero_add]
      simp only [e, Option.map_some, Option.getD_some]
      exact ⟨c9, c10⟩) (by simp only [h0, Option.map_some, Option.getD_some]) (fun j h1 h2 => by
      have e := List.getElem?_eq_getElem h2
      have e2 := List.getElem?_eq_getElem (l := R) (i := j) (by omega)
      obtain ⟨_, _, _, g4⟩ := h.cs j _ _ e e2
      obtain ⟨g5, d, p, g6, g7⟩ := g4 h1
      simp only [e, e2, Option.map_some, Option.getD_some, g6]
      exact ⟨g5, g7⟩) (by omega) (by omega)
  simp only [ha, Option.map_some, Option.getD_some] at hp
  exact hp
end Go.Proofs.Ytcnoipcpifackah
namespace Go.Proofs.Ytcnoipcpifackah
open Go.RowKit Go.Shelf

theorem info74W : (Try.prog.info? 74).map (fun i => (i.zero, i.size, i.bytes)) = some (some (.agg #[.int .i64 0, .slice none 0 0, .slice none 0 0, .slice none 0 0, .slice none 0 0, .slice none 0 0, .slice none 0 0, .slice none 0 0, .int .i64 0, .int .i64 0, .int .i64 0]), 11, 200) := by kernel_rfl
theorem PlanI.grow {w0 w7 w8 w11 : World} {y : YardM} {K t Y A : Nat} {rv v' : Value} {R : List (Nat × List Nat)} {M : List PlaceM} {m : PlaceM} {q : List Nat} {cs : List Value} {yv av : Array Value} (h : PlanI w0 y K rv R M w7)
    (hY : w7.heap[Y]? = some (.cells yv 50 (0, 0))) (hA : w7.heap[A]? = some (.cells av 74 (0, 0))) (hav : av.size = 11) (hAr : rv.ownBlock ≠ some A) (hM : 0 < M.length) (hb : Below w7.heap.size w7 w8) (hcs : cs = m.cells y)
    (hg : ((w8.setCell ⟨K, t, none⟩ (.bool true)).alloc (.cells cs.toArray 74)).grownBy w11 rv.ownBlock) (hown : w11.ownsRow w0.heap.size 74 11 v' (M.length + 1) (M.flatMap (PlaceM.cells y) ++ cs))
    (hm : m.c = t) (ht : t < 2 ^ y.devs.length) (ht2 : t < 1024) (hs : soundB (y.at t) = true) (hw : WorkB w0 w7 (y.at t) m.p)
    (hf : m.f < M.length ∧ ∃ (d : Nat) (p : List Nat), R[m.f]? = some (d, p) ∧ q = p ++ [m.b]) : PlanI w0 y K v' (R ++ [(t, q)]) (M ++ [m]) w11 ∧ w11.heap[Y]? = some (.cells yv 50 (0, 0)) ∧ w11.heap[A]? = some (.cells av 74 (0, 0)) ∧ v'.ownBlock ≠ some A := by
  have h8 := h.below hb
  obtain ⟨kn, hk, hiff⟩ := h8.kn
  obtain ⟨ks, hks, _, _⟩ := hk.blk
  subst hcs
  have k1 := keep_set hks t (.bool true)
  obtain ⟨w9, hw9⟩ : ∃ x, x = w8.setCell ⟨K, t, none⟩ (.bool true) := ⟨_, rfl⟩
  have hk9 := hk.set ht2
  have b9 : Below w0.heap.size w0 w9 := by rw [hw9]; exact h8.bel.setCell (p := ⟨K, t, none⟩) h8.kb _
  rw [← hw9] at hg k1 hk9
  have r9 := own_keep h8.row k1 (by decide)
  have k2 : KeepE 74 w9 w11 := (KeepE.alloc 74 w9 _).trans (KeepE.grown (own_below r9 (below_al _ _) (Nat.le_refl _)) hg)
  have kx : KeepX w7 w11 := ((KeepX.below hb (Nat.le_refl _)).trans (k1.toX (by decide) (by decide) (by decide))).trans (k2.toX (by decide) (by decide) (by decide))
  have b11 : Below w0.heap.size w0 w11 := below_app b9 r9 (Nat.le_refl _) b9.size hg
  have y8 := (hb.block Y (lt_heap hY)).trans hY
  have a8 := (hb.block A (lt_heap hA)).trans hA
  have y9 := (k1 _ _ _ _ y8 (by decide)).trans y8
  have a9 := (k1 _ _ _ _ a8 (by decide)).trans a8
  have y11 := (k2 _ _ _ _ y9 (by decide)).trans y9
  have a11 : w11.heap[A]? = some (.cells av 74 (0, 0)) := by
    rw [hg.block A (by have := lt_heap a9; simp; omega) (fun e => hAr e.symm), alloc_old _ _ (lt_heap a9)]
    exact a9
  refine ⟨h.add hown kx b11 (kn := kn) ?_ hiff hm ht hs (hw.keep kx) hf, y11, a11, fun e => ?_⟩
  · obtain ⟨ks9, hks9, _, _⟩ := hk9.blk
    exact hk9.keep (k2 _ _ _ _ hks9 (by decide))
  · rcases hown.2 with ⟨h1, h2⟩ | ⟨g, c, cur, h1, _, h2, h3, _, h4, _⟩
    · omega
    · subst h1
      cases e
      rw [a11] at h2
      cases h2
      omega
end Go.Proofs.Ytcnoipcpifackah
