/- A plan drafted, in the program; stays are never nought. -/
import Derived.Test.YtlbeecjkfakkpagEc
namespace Go.Proofs.Ytlbeecjkfakkpag
open Go.RowKit Go.Shelf

theorem clip_nz {x : Int} (h : x ≠ 0) : clip x ≠ 0 := by
  unfold clip
  split
  · omega
  · split <;> omega
theorem stays_ok {us : List UnitM} (hm : MayUs us) : StayOk (staysL us) := fun x hx => by
  obtain ⟨u, hu, rfl⟩ := List.mem_map.1 hx
  obtain ⟨i, hi, rfl⟩ := List.getElem_of_mem hu
  exact ⟨clip_nz (hm i _ (List.getElem?_eq_getElem hi)).i, clip_bound _⟩
theorem stayOn_nz {u : UnitM} {x y : Int} {b : Bool} (h : stayOn u x b = some y) (_hx : x ≠ 0) : y ≠ 0 := by
  unfold stayOn at h
  split at h
  · split at h
    · split at h
      · cases h
      · cases h; omega
    · cases h; exact clip_nz (by omega)
  · split at h
    · split at h
      · cases h
      · cases h; omega
    · cases h; exact clip_nz (by omega)
theorem nextK_ok {us : List UnitM} {t : List Int} {on : List Bool} (hm : MayUs us) (ht : StayOk t) (hl : us.length ≤ t.length) : ∀ k, k ≤ us.length → ∀ l s, nextK us t on k = some (l, s) → StayOk l
  | 0, _, l, s, h => by
    rw [nextK] at h
    cases h
    exact fun x hx => absurd hx List.not_mem_nil
  | k + 1, hk, l, s, h => by
    rw [nextK] at h
    obtain ⟨⟨l0, s0⟩, h0, h⟩ := Option.bind_eq_some_iff.1 h
    obtain ⟨u, hu, h⟩ := Option.bind_eq_some_iff.1 h
    obtain ⟨y, hy, h⟩ := Option.map_eq_some_iff.1 h
    cases h
    have ih := nextK_ok hm ht hl k (by omega) l0 s0 h0
    intro x hx
    rcases List.mem_append.1 hx with hx | hx
    · exact ih x hx
    · rw [List.mem_singleton.1 hx]
      exact ⟨stayOn_nz hy (ht _ (getD_in (D := t) (j := k) (by omega)).2).1, stayOn_bound hy⟩
theorem valK_ok {us : List UnitM} {need spare : List Int} {on : List (List Bool)} (hm : MayUs us) (h4 : us.length ≤ 4) : ∀ k t c, valK us need spare on k = .ok (t, c) → StayOk t
  | 0, t, c, h => by
    rw [valK] at h
    cases h
    exact stays_ok hm
  | k + 1, t, c, h => by
    rw [valK] at h
    cases hv : valK us need spare on k with
    | error e => rw [hv] at h; cases h
    | ok p =>
      obtain ⟨t0, c0⟩ := p
      rw [hv] at h
      simp only [stepV] at h
      cases hn : nextL us t0 (on.getD k []) with
      | none => rw [hn] at h; cases h
      | some p =>
        obtain ⟨l, s⟩ := p
        rw [hn] at h
        cases hh : hourC us (on.getD k []) (need.getD k 0) (spare.getD k 0) with
        | none => rw [hh] at h; cases h
        | some x =>
          rw [hh] at h
          cases h
          exact nextK_ok hm (valK_ok hm h4 k t0 c0 hv) (by rw [(valK_spec hm h4 k t0 c0 hv).1]; exact Nat.le_refl _) _ (Nat.le_refl _) _ _ hn
/-- What draft answers. -/
def DraftO (us : List UnitM) (need spare : List Int) (lv nv sv : Value) (w : World) (e : Ending) (w' : World) : Prop :=
  ((us.all mayB = false ∧ e = .returned (.tuple #[.agg #[.slice none 0 0, .slice none 0 0, .slice none 0 0, .slice none 0 0], .int .i64 14])) ∨
   (us.all mayB = true ∧ (inRB need && inRB spare) = false ∧ e = .returned (.tuple #[.agg #[.slice none 0 0, .slice none 0 0, .slice none 0 0, .slice none 0 0], .int .i64 4])) ∨
   (us.all mayB = true ∧ (inRB need && inRB spare) = true ∧ ∃ d rv, e = .returned (.tuple #[.agg #[lv, rv, nv, sv], .int .i64 0]) ∧ Rk (costN us) us.length us.length d ∧ RowAt w' rv us.length 1 (ints (natsI d)))) ∧ Below w.heap.size w w'
set_option maxRecDepth 100000 in
set_option maxHeartbeats 4000000 in
theorem draft_any (us : List UnitM) (need spare : List Int) (lv nv sv : Value) (w : World) (hx : UnitsAt w lv us) (hn : RowAt w nv need.length 1 (ints need)) (hs : RowAt w sv spare.length 1 (ints spare)) (h4 : us.length ≤ 4) (h8 : need.length ≤ 8) (hsl : spare.length ≤ 8) :
    Calls Try.prog 34 #[lv, nv, sv] w (DraftO us need spare lv nv sv w) := by
  have HG := hide' hx
  have HN := hide' hn
  have HS := hide' hs
  obtain ⟨ag, cg, rfl⟩ := rowAt_slice hx
  obtain ⟨an, cn, rfl⟩ := rowAt_slice hn
  obtain ⟨as', cs, rfl⟩ := rowAt_slice hs
  clear hx hn hs
  have HA : Hid (∀ o, Below w.heap.size w (w.alloc o)) := fun o => (Below.refl _ w).alloc (Nat.le_refl _) o
  have HUM : Hid (∀ o, Calls Try.prog 23 #[.slice ag us.length cg, .func (.func 24) #[] #[]] (w.alloc o) fun e w' => e = .returned (.bool (us.all mayB)) ∧ Below (w.alloc o).heap.size (w.alloc o) w') := fun o => allUnits_any us _ _ (HG.out.below (HA.out o) (Nat.le_refl _)) (by omega)
  have hbx := alloc_new w (.cells #[.slice none 0 0, .slice none 0 0, .slice none 0 0, .slice none 0 0] 64)
  obtain ⟨O, hO⟩ : ∃ O, O = w.heap.size := ⟨_, rfl⟩
  have HLE : Hid (w.heap.size ≤ O) := by show _ ≤ _; omega
  obtain ⟨r, hr⟩ : ∃ r, r = us.all mayB := ⟨_, rfl⟩
  have HR := hide' hr
  rw [← hr] at HUM
  clear hr
  go_enter Try.func34, Try.ntmps34
  go_wp2_with fail
  refine (HUM.out _).mono ?_
  rintro e w1 ⟨rfl, hb1⟩
  have hq := (hb1.block w.heap.size (by simp)).trans hbx
  have HB1 := hide' ((HA.out _).trans (hb1.mono (HA.out _).size))
  rw [← hO] at hq ⊢
  have HLT : Hid (O < w1.heap.size) := (Array.getElem?_eq_some_iff.1 hq).1
  clear hb1 hbx HUM hO
  cases r with
  | false =>
    have HQ := hide' hq
    have o0 : w1.cell? ⟨O, 0, none⟩ = some (.slice none 0 0) := by simp [World.cell?, hq]
    have f0 : w1.frozen? ⟨O, 0, none⟩ = false := frozen_no hq _
    have o1 : w1.cell? ⟨O, 1, none⟩ = some (.slice none 0 0) := by simp [World.cell?, hq]
    have f1 : w1.frozen? ⟨O, 1, none⟩ = false := frozen_no hq _
    have o2 : w1.cell? ⟨O, 2, none⟩ = some (.slice none 0 0) := by simp [World.cell?, hq]
    have f2 : w1.frozen? ⟨O, 2, none⟩ = false := frozen_no hq _
    have o3 : w1.cell? ⟨O, 3, none⟩ = some (.slice none 0 0) := by simp [World.cell?, hq]
    have f3 : w1.frozen? ⟨O, 3, none⟩ = false := frozen_no hq _
    clear hq
    go_wp2
    have HP : (((((w1).setCell ⟨O, 0, none⟩ (.slice none 0 0)).setCell ⟨O, 1, none⟩ (.slice none 0 0)).setCell ⟨O, 2, none⟩ (.slice none 0 0)).setCell ⟨O, 3, none⟩ (.slice none 0 0)).heap[O]? = some (.cells #[.slice none 0 0, .slice none 0 0, .slice none 0 0, .slice none 0 0] 64 (0, 0)) := (set_any (set_any (set_any (set_any HQ.out 0 _) 1 _) 2 _) 3 _).trans rfl
    refine bodyPost_ret (results_cell_row1 rfl _ _ O 64 _ (0, 0) _ rfl HP Try.underlying64 rfl (by kernel_rfl)) rfl ?_
    exact ⟨.inl ⟨HR.out.symm, rfl⟩, ((((HB1.out).setCell (p := ⟨O, 0, none⟩) HLE.out _).setCell (p := ⟨O, 1, none⟩) HLE.out _).setCell (p := ⟨O, 2, none⟩) HLE.out _).setCell (p := ⟨O, 3, none⟩) HLE.out _⟩
  | true =>
    have HCN := hide' (allInts_any need (.slice an need.length cn) w1 (HN.out.below HB1.out (Nat.le_refl _)) (by omega))
    have HCS := hide' (allInts_any spare (.slice as' spare.length cs) w1 (HS.out.below HB1.out (Nat.le_refl _)) (by omega))
    obtain ⟨rn, hrn⟩ : ∃ r, r = inRB need := ⟨_, rfl⟩
    obtain ⟨rs, hrs⟩ : ∃ r, r = inRB spare := ⟨_, rfl⟩
    have HRN := hide' hrn
    have HRS := hide' hrs
    rw [← hrn] at HCN
    rw [← hrs] at HCS
    have HQ := hide' hq
    clear hrn hrs hq
    go_wp2_with fail
    refine HCN.out.mono ?_
    rintro e w' ⟨rfl, hw'⟩
    obtain rfl := hw'.symm
    clear HCN
    cases rn with
    | false =>
      have hq := HQ.out
      have o0 : w1.cell? ⟨O, 0, none⟩ = some (.slice none 0 0) := by simp [World.cell?, hq]
      have f0 : w1.frozen? ⟨O, 0, none⟩ = false := frozen_no hq _
      have o1 : w1.cell? ⟨O, 1, none⟩ = some (.slice none 0 0) := by simp [World.cell?, hq]
      have f1 : w1.frozen? ⟨O, 1, none⟩ = false := frozen_no hq _
      have o2 : w1.cell? ⟨O, 2, none⟩ = some (.slice none 0 0) := by simp [World.cell?, hq]
      have f2 : w1.frozen? ⟨O, 2, none⟩ = false := frozen_no hq _
      have o3 : w1.cell? ⟨O, 3, none⟩ = some (.slice none 0 0) := by simp [World.cell?, hq]
      have f3 : w1.frozen? ⟨O, 3, none⟩ = false := frozen_no hq _
      clear hq
      go_wp2
      have HP : (((((w1).setCell ⟨O, 0, none⟩ (.slice none 0 0)).setCell ⟨O, 1, none⟩ (.slice none 0 0)).setCell ⟨O, 2, none⟩ (.slice none 0 0)).setCell ⟨O, 3, none⟩ (.slice none 0 0)).heap[O]? = some (.cells #[.slice none 0 0, .slice none 0 0, .slice none 0 0, .slice none 0 0] 64 (0, 0)) := (set_any (set_any (set_any (set_any HQ.out 0 _) 1 _) 2 _) 3 _).trans rfl
      refine bodyPost_ret (results_cell_row1 rfl _ _ O 64 _ (0, 0) _ rfl HP Try.underlying64 rfl (by kernel_rfl)) rfl ?_
      exact ⟨.inr (.inl ⟨HR.out.symm, by rw [← HRN.out]; rfl, rfl⟩), ((((HB1.out).setCell (p := ⟨O, 0, none⟩) HLE.out _).setCell (p := ⟨O, 1, none⟩) HLE.out _).setCell (p := ⟨O, 2, none⟩) HLE.out _).setCell (p := ⟨O, 3, none⟩) HLE.out _⟩
    | true =>
      go_wp2_with fail
      refine HCS.out.mono ?_
      rintro e w' ⟨rfl, hw'⟩
      obtain rfl := hw'.symm
      clear HCS
      cases rs with
      | false =>
        have hq := HQ.out
        have o0 : w1.cell? ⟨O, 0, none⟩ = some (.slice none 0 0) := by simp [World.cell?, hq]
        have f0 : w1.frozen? ⟨O, 0, none⟩ = false := frozen_no hq _
        have o1 : w1.cell? ⟨O, 1, none⟩ = some (.slice none 0 0) := by simp [World.cell?, hq]
        have f1 : w1.frozen? ⟨O, 1, none⟩ = false := frozen_no hq _
        have o2 : w1.cell? ⟨O, 2, none⟩ = some (.slice none 0 0) := by simp [World.cell?, hq]
        have f2 : w1.frozen? ⟨O, 2, none⟩ = false := frozen_no hq _
        have o3 : w1.cell? ⟨O, 3, none⟩ = some (.slice none 0 0) := by simp [World.cell?, hq]
        have f3 : w1.frozen? ⟨O, 3, none⟩ = false := frozen_no hq _
        clear hq
        go_wp2
        have HP : (((((w1).setCell ⟨O, 0, none⟩ (.slice none 0 0)).setCell ⟨O, 1, none⟩ (.slice none 0 0)).setCell ⟨O, 2, none⟩ (.slice none 0 0)).setCell ⟨O, 3, none⟩ (.slice none 0 0)).heap[O]? = some (.cells #[.slice none 0 0, .slice none 0 0, .slice none 0 0, .slice none 0 0] 64 (0, 0)) := (set_any (set_any (set_any (set_any HQ.out 0 _) 1 _) 2 _) 3 _).trans rfl
        refine bodyPost_ret (results_cell_row1 rfl _ _ O 64 _ (0, 0) _ rfl HP Try.underlying64 rfl (by kernel_rfl)) rfl ?_
        exact ⟨.inr (.inl ⟨HR.out.symm, by rw [← HRN.out, ← HRS.out]; rfl, rfl⟩), ((((HB1.out).setCell (p := ⟨O, 0, none⟩) HLE.out _).setCell (p := ⟨O, 1, none⟩) HLE.out _).setCell (p := ⟨O, 2, none⟩) HLE.out _).setCell (p := ⟨O, 3, none⟩) HLE.out _⟩
      | true =>
        have HC := hide' (gather_any us (.slice ag us.length cg) w1 (HG.out.below HB1.out (Nat.le_refl _)) h4)
        go_wp2_with fail
        refine HC.out.mono ?_
        rintro e w2 ⟨d, rv, rfl, hd, hrv, hb2⟩
        have HB2 := hide' (HB1.out.trans (hb2.mono HB1.out.size))
        obtain ⟨ar, cr, rfl⟩ := rowAt_slice (rowAt_of_own hrv)
        have HD := hide' hd
        have HRV := hide' hrv
        have HL1 : Hid (O < w1.heap.size) := HLT.out
        have hq := (hb2.block O HLT.out).trans HQ.out
        have HQ2 := hide' hq
        have o0 : w2.cell? ⟨O, 0, none⟩ = some (.slice none 0 0) := by simp [World.cell?, hq]
        have f0 : w2.frozen? ⟨O, 0, none⟩ = false := frozen_no hq _
        have o1 : w2.cell? ⟨O, 1, none⟩ = some (.slice none 0 0) := by simp [World.cell?, hq]
        have f1 : w2.frozen? ⟨O, 1, none⟩ = false := frozen_no hq _
        have o2 : w2.cell? ⟨O, 2, none⟩ = some (.slice none 0 0) := by simp [World.cell?, hq]
        have f2 : w2.frozen? ⟨O, 2, none⟩ = false := frozen_no hq _
        have o3 : w2.cell? ⟨O, 3, none⟩ = some (.slice none 0 0) := by simp [World.cell?, hq]
        have f3 : w2.frozen? ⟨O, 3, none⟩ = false := frozen_no hq _
        clear hq hd hrv hb2 HC HLT
        go_wp2
        have HP : (((((w2).setCell ⟨O, 0, none⟩ (.slice ag us.length cg)).setCell ⟨O, 1, none⟩ (.slice ar us.length cr)).setCell ⟨O, 2, none⟩ (.slice an need.length cn)).setCell ⟨O, 3, none⟩ (.slice as' spare.length cs)).heap[O]? = some (.cells #[.slice ag us.length cg, .slice ar us.length cr, .slice an need.length cn, .slice as' spare.length cs] 64 (0, 0)) := (set_any (set_any (set_any (set_any HQ2.out 0 _) 1 _) 2 _) 3 _).trans rfl
        refine bodyPost_ret (results_cell_row1 rfl _ _ O 64 _ (0, 0) _ rfl HP Try.underlying64 rfl (by kernel_rfl)) rfl ?_
        refine ⟨.inr (.inr ⟨HR.out.symm, by rw [← HRN.out, ← HRS.out]; rfl, d, _, rfl, HD.out, rowAt_of_own (own_other HRV.out (fun j hj => ?_))⟩), ((((HB2.out).setCell (p := ⟨O, 0, none⟩) HLE.out _).setCell (p := ⟨O, 1, none⟩) HLE.out _).setCell (p := ⟨O, 2, none⟩) HLE.out _).setCell (p := ⟨O, 3, none⟩) HLE.out _⟩
        have := (HRV.out.lt j hj).1
        have := HL1.out
        rw [Below.heap_setCell _ _ _ j (by show j ≠ O; omega), Below.heap_setCell _ _ _ j (by show j ≠ O; omega), Below.heap_setCell _ _ _ j (by show j ≠ O; omega), Below.heap_setCell _ _ _ j (by show j ≠ O; omega)]
end Go.Proofs.Ytlbeecjkfakkpag
