/- How units stand before the first hour, and how they turn, in the program. -/
import Derived.Test.YtlbeecjkfakkpagEa
namespace Go.Proofs.Ytlbeecjkfakkpag
open Go.RowKit Go.Shelf

/-- How units stand, in four places. -/
def stand (t : List Int) : List Int := t ++ List.replicate (4 - t.length) 0
theorem stand_len {t : List Int} (h : t.length ≤ 4) : (stand t).length = 4 := by simp [stand]; omega
theorem list4I {L : List Int} (h : L.length = 4) : ∃ a b c d, L = [a, b, c, d] := by
  match L, h with
  | [a, b, c, d], _ => exact ⟨a, b, c, d, rfl⟩
theorem results_cell_row1 {P : Program} {fn : Func} {p u : Tmp} {ty : TypeId} (h : fn.results = #[.cell p ty, .tmp u]) (tmps : Array Value) (w : World) (g : Nat) (t : TypeId) (cs : Array Value) (fr : Nat × Nat) (d : TypeDesc)
    (hp : tmps.getD p undef = .pointer (some ⟨g, 0, none⟩)) (hg : w.heap[g]? = some (.cells cs t fr))
    (hu : P.underlying ty = some d) (hd : (match d with | .struct _ | .array _ _ => true | _ => false) = true) (hi : (P.info? ty).map (·.size) = some cs.size) :
    (results fn tmps).run P w = .ok (.tuple #[.agg cs, tmps.getD u undef]) w := by
  have hp' : tmps[p]?.getD undef = .pointer (some ⟨g, 0, none⟩) := by simpa using hp
  simp [results, h, hp', asAddr, run_loadVar_row w g t ty cs fr d hg hu hd hi]
theorem results_cell_row2 {P : Program} {fn : Func} {p u v : Tmp} {ty : TypeId} (h : fn.results = #[.cell p ty, .tmp u, .tmp v]) (tmps : Array Value) (w : World) (g : Nat) (t : TypeId) (cs : Array Value) (fr : Nat × Nat) (d : TypeDesc)
    (hp : tmps.getD p undef = .pointer (some ⟨g, 0, none⟩)) (hg : w.heap[g]? = some (.cells cs t fr))
    (hu : P.underlying ty = some d) (hd : (match d with | .struct _ | .array _ _ => true | _ => false) = true) (hi : (P.info? ty).map (·.size) = some cs.size) :
    (results fn tmps).run P w = .ok (.tuple #[.agg cs, tmps.getD u undef, tmps.getD v undef]) w := by
  have hp' : tmps[p]?.getD undef = .pointer (some ⟨g, 0, none⟩) := by simpa using hp
  simp [results, h, hp', asAddr, run_loadVar_row w g t ty cs fr d hg hu hd hi]
/-- Two blocks of four numbers: what is answered (O), and what is at work (S). -/
structure TSt (w W : World) (O S : Nat) (L : List Int) : Prop where
  hO : W.heap[O]? = some (.cells (ints [0, 0, 0, 0]).toArray 86 (0, 0))
  hS : W.heap[S]? = some (.cells (ints L).toArray 86 (0, 0))
  ne : O ≠ S
  sO : w.heap.size ≤ O
  sS : w.heap.size ≤ S
  bel : Below w.heap.size w W
theorem TSt.alloc {w W : World} {O S : Nat} {L : List Int} (h : TSt w W O S L) (o : Obj) : TSt w (W.alloc o) O S L :=
  ⟨(alloc_old W o (Array.getElem?_eq_some_iff.1 h.hO).1).trans h.hO, (alloc_old W o (Array.getElem?_eq_some_iff.1 h.hS).1).trans h.hS, h.ne, h.sO, h.sS, h.bel.alloc h.bel.size o⟩
theorem TSt.drewN {w W : World} {O S : Nat} {L : List Int} (h : TSt w W O S L) (q : Nat) : TSt w (W.drewN q) O S L := ⟨h.hO, h.hS, h.ne, h.sO, h.sS, below_drewN h.bel q⟩
theorem TSt.set {w W : World} {O S : Nat} {L : List Int} (h : TSt w W O S L) (v : Nat) (x : Int) : TSt w (W.setCell ⟨S, v, none⟩ (.int .i64 x)) O S (L.set v x) :=
  ⟨(Below.heap_setCell W _ _ O h.ne).trans h.hO, by rw [set_any h.hS v (.int .i64 x), ints_set], h.ne, h.sO, h.sS, h.bel.setCell (p := ⟨S, v, none⟩) h.sS _⟩
theorem TSt.new {w W : World} {O S : Nat} {L : List Int} (h : TSt w W O S L) (o : Obj) (k : Nat) (v : Value) (j : Nat) : ((W.alloc o).setCell ⟨S, k, none⟩ v).cell? ⟨W.heap.size, j, none⟩ = (W.alloc o).cell? ⟨W.heap.size, j, none⟩ := by
  have hne : W.heap.size ≠ S := by have := (Array.getElem?_eq_some_iff.1 h.hS).1; omega
  simp only [World.cell?, Below.heap_setCell _ (⟨S, k, none⟩ : Addr) v W.heap.size hne]
/-- What is left of four places behind those that are done. -/
theorem part_set {l T : List Int} {k : Nat} {y : Int} (hl : l.length = k) (hk : k < T.length) : (l ++ T.drop k).set k y = (l ++ [y]) ++ T.drop (k + 1) := by
  rw [List.set_append_right _ _ (by omega), hl, Nat.sub_self, List.drop_eq_getElem_cons hk, List.set_cons_zero, List.append_assoc]
  rfl
theorem part_get {l T : List Int} {k : Nat} (hl : l.length = k) (_hk : k < T.length) : (l ++ T.drop k).getD k 0 = T.getD k 0 := by
  rw [List.getD_eq_getElem?_getD, List.getElem?_append_right (by omega), hl, Nat.sub_self, List.getElem?_drop, Nat.add_zero, List.getD_eq_getElem?_getD]
theorem stand_drop {t : List Int} (_h : t.length ≤ 4) (l : List Int) (hl : l.length = t.length) : l ++ (stand t).drop t.length = stand l := by
  unfold stand
  rw [List.drop_left' rfl, hl]
theorem drop_zeros (n : Nat) (h : n ≤ 4) : [(0 : Int), 0, 0, 0].drop n = List.replicate (4 - n) 0 := by
  match n, h with
  | 0, _ => rfl
  | 1, _ => rfl
  | 2, _ => rfl
  | 3, _ => rfl
  | 4, _ => rfl
theorem stand_getD {t : List Int} {k : Nat} (h : k < t.length) : (stand t).getD k 0 = t.getD k 0 := by
  rw [stand, List.getD_eq_getElem?_getD, List.getElem?_append_left h, List.getD_eq_getElem?_getD]
set_option maxRecDepth 100000 in
set_option maxHeartbeats 4000000 in
theorem before_any (us : List UnitM) (lv rv : Value) (w : World) (hx : UnitsAt w lv us) (hr : ∃ a n c, rv = .slice a n c) (h4 : us.length ≤ 4) :
    Calls Try.prog 50 #[.agg #[lv, rv]] w fun e w' => e = .returned (.agg (ints (stand (staysL us))).toArray) ∧ Below w.heap.size w w' := by
  have HG := hide' hx
  obtain ⟨ag, cg, rfl⟩ := rowAt_slice hx
  obtain ⟨ar, nr, cr, rfl⟩ := hr
  clear hx
  go_enter Try.func50, Try.ntmps50
  go_wp2_with fail
  have HS0 : Hid (TSt w (((w.alloc (Obj.cells #[.slice ag us.length cg, .slice ar nr cr] 54)).alloc (Obj.cells #[.int .i64 0, .int .i64 0, .int .i64 0, .int .i64 0] 86)).alloc (Obj.cells #[.int .i64 0, .int .i64 0, .int .i64 0, .int .i64 0] 86)) (w.heap.size + 1) (w.heap.size + 1 + 1) [0, 0, 0, 0]) := by
    have h1 := alloc_new (w.alloc (Obj.cells #[.slice ag us.length cg, .slice ar nr cr] 54)) (Obj.cells #[.int .i64 0, .int .i64 0, .int .i64 0, .int .i64 0] 86)
    have h2 := alloc_new ((w.alloc (Obj.cells #[.slice ag us.length cg, .slice ar nr cr] 54)).alloc (Obj.cells #[.int .i64 0, .int .i64 0, .int .i64 0, .int .i64 0] 86)) (Obj.cells #[.int .i64 0, .int .i64 0, .int .i64 0, .int .i64 0] 86)
    rw [World.size_alloc] at h1
    rw [World.size_alloc, World.size_alloc] at h2
    exact ⟨(alloc_old _ _ (by simp)).trans h1, h2, by omega, by omega, by omega, (((Below.refl _ w).alloc (Nat.le_refl _) _).alloc (by simp) _).alloc (by simp; omega) _⟩
  obtain ⟨O, hO⟩ : ∃ K, K = w.heap.size + 1 := ⟨_, rfl⟩
  obtain ⟨S, hS⟩ : ∃ K, K = w.heap.size + 1 + 1 := ⟨_, rfl⟩
  rw [← hS, ← hO] at HS0 ⊢

  clear hS hO
  go_loopw [9] (fun i wr => ∃ (k : Nat), i = .int .i64 k ∧ k ≤ us.length ∧ Hid (TSt w wr O S ((staysL us).take k ++ [0, 0, 0, 0].drop k))) (fun i _ => us.length - (intOf i).toNat)
  case atStart => exact ⟨0, rfl, Nat.zero_le _, HS0⟩
  case round =>
    clear HS0
    obtain ⟨k, rfl, hk, HST⟩ := hrel
    have hsl : (staysL us).length = us.length := by rw [staysL, List.length_map]
    have htl : ((staysL us).take k).length = k := by rw [List.length_take]; omega
    have HTL := hide' htl
    have HSL := hide' hsl
    clear htl hsl
    by_cases hlt : k < us.length
    · obtain ⟨bt, ot, ct', ex, hbt, hct⟩ := row_elem (f := UnitM.cells) (fun _ => rfl) HG.out k hlt (by decide)
      cases ex
      obtain ⟨u, hu⟩ : ∃ u, u = us[k] := ⟨_, rfl⟩
      rw [← hu] at hct
      have HK : Hid (us[k]? = some u) := by show _ = _; rw [hu]; exact List.getElem?_eq_getElem hlt
      have d0 := up_cell HST.out.bel (hct 0 _ rfl)
      have d1 := up_cell HST.out.bel (hct 1 _ rfl)
      have d2 := up_cell HST.out.bel (hct 2 _ rfl)
      have d3 := up_cell HST.out.bel (hct 3 _ rfl)
      have d4 := up_cell HST.out.bel (hct 4 _ rfl)
      have d5 := up_cell HST.out.bel (hct 5 _ rfl)
      have d6 := up_cell HST.out.bel (hct 6 _ rfl)
      rw [Nat.add_zero] at d0
      obtain ⟨x0, hx0⟩ : ∃ x, x = u.least := ⟨_, rfl⟩
      rw [← hx0] at d0
      obtain ⟨x1, hx1⟩ : ∃ x, x = u.most := ⟨_, rfl⟩
      rw [← hx1] at d1
      obtain ⟨x2, hx2⟩ : ∃ x, x = u.cost := ⟨_, rfl⟩
      rw [← hx2] at d2
      obtain ⟨x3, hx3⟩ : ∃ x, x = u.start := ⟨_, rfl⟩
      rw [← hx3] at d3
      obtain ⟨x4, hx4⟩ : ∃ x, x = u.up := ⟨_, rfl⟩
      rw [← hx4] at d4
      obtain ⟨x5, hx5⟩ : ∃ x, x = u.down := ⟨_, rfl⟩
      rw [← hx5] at d5
      obtain ⟨x6, hx6⟩ : ∃ x, x = u.was := ⟨_, rfl⟩
      rw [← hx6] at d6
      have HE : Hid (((staysL us).take k ++ [0, 0, 0, 0].drop k).set k (clip x6) = (staysL us).take (k + 1) ++ [0, 0, 0, 0].drop (k + 1)) := by
        show _ = _
        rw [part_set HTL.out (by simp; omega), List.take_succ_eq_append_getElem (by rw [HSL.out]; exact hlt)]
        simp only [staysL, List.getElem_map]
        rw [hx6, hu]
      have HAL : Hid (∀ o, TSt w ((wr.alloc o).setCell ⟨S, k, none⟩ (.int .i64 (clip x6))) O S ((staysL us).take (k + 1) ++ [0, 0, 0, 0].drop (k + 1))) := fun o => by rw [← HE.out]; exact (HST.out.alloc o).set k _
      have hlen : k < ((staysL us).take k ++ [(0 : Int), 0, 0, 0].drop k).length := by rw [List.length_append, HTL.out]; simp; omega
      have c1 : ∀ o, (wr.alloc o).cell? ⟨S, k, none⟩ = some (.int .i64 (((staysL us).take k ++ [(0 : Int), 0, 0, 0].drop k).getD k 0)) := fun o => (intsCell (HST.out.alloc o).hS (j := k) hlen).1
      have c2 : ∀ o, (wr.alloc o).frozen? ⟨S, k, none⟩ = false := fun o => (intsCell (HST.out.alloc o).hS (j := k) hlen).2
      have HCL : Hid (min (max x6 (-3)) 3 = clip x6) := by show _ = _; unfold clip; split; omega; split <;> omega
      obtain ⟨z, hz⟩ : ∃ z, z = ((staysL us).take k ++ [(0 : Int), 0, 0, 0].drop k).getD k 0 := ⟨_, rfl⟩
      rw [← hz] at c1
      clear hct hu hbt hx0 hx1 hx2 hx3 hx4 hx5 hx6 HK HE HST hz hlen
      go_wp2
      go_roundw
      case rel => exact ⟨k + 1, by go_num, by omega, by rw [HCL.out]; exact HAL.out _⟩
      case measure => simp [intOf]; omega
    · have hke : k = us.length := by omega
      subst hke
      have hfin : (staysL us).take us.length ++ [(0 : Int), 0, 0, 0].drop us.length = stand (staysL us) := by
        rw [List.take_of_length_le (by rw [HSL.out]; exact Nat.le_refl _), stand, HSL.out]
        rw [drop_zeros _ h4]
      rw [hfin] at HST
      obtain ⟨a, b, c, d, he⟩ := list4I (stand_len (t := staysL us) (by rw [HSL.out]; exact h4))
      rw [he] at HST
      have HE := hide' he
      have s0 := (intsCell HST.out.hS (j := 0) (by simp)).1
      have s1 := (intsCell HST.out.hS (j := 1) (by simp)).1
      have s2 := (intsCell HST.out.hS (j := 2) (by simp)).1
      have s3 := (intsCell HST.out.hS (j := 3) (by simp)).1
      obtain ⟨o0, f0⟩ := intsCell HST.out.hO (j := 0) (by decide)
      obtain ⟨o1, f1⟩ := intsCell HST.out.hO (j := 1) (by decide)
      obtain ⟨o2, f2⟩ := intsCell HST.out.hO (j := 2) (by decide)
      obtain ⟨o3, f3⟩ := intsCell HST.out.hO (j := 3) (by decide)
      simp only [List.getD_cons_zero, List.getD_cons_succ] at s0 s1 s2 s3 o0 o1 o2 o3
      clear hfin he hlt hk
      go_wp2
      have HP : ((((wr.setCell ⟨O, 0, none⟩ (.int .i64 a)).setCell ⟨O, 1, none⟩ (.int .i64 b)).setCell ⟨O, 2, none⟩ (.int .i64 c)).setCell ⟨O, 3, none⟩ (.int .i64 d)).heap[O]? = some (.cells (ints [a, b, c, d]).toArray 86 (0, 0)) := (set_any (set_any (set_any (set_any HST.out.hO 0 _) 1 _) 2 _) 3 _).trans rfl
      refine bodyPost_ret (results_cell_row rfl _ _ O 86 _ (0, 0) _ rfl HP Try.underlying86 rfl (by kernel_rfl)) rfl ?_
      exact ⟨by rw [HE.out], (((HST.out.bel.setCell (p := ⟨O, 0, none⟩) HST.out.sO _).setCell (p := ⟨O, 1, none⟩) HST.out.sO _).setCell (p := ⟨O, 2, none⟩) HST.out.sO _).setCell (p := ⟨O, 3, none⟩) HST.out.sO _⟩
end Go.Proofs.Ytlbeecjkfakkpag
