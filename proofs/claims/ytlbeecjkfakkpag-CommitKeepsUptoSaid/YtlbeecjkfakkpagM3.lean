/- Each unit keeps its times, and what is needed is generated: the law. -/
import Derived.Test.YtlbeecjkfakkpagCk
import Derived.Test.YtlbeecjkfakkpagCl
namespace Go.Proofs.Ytlbeecjkfakkpag
open Go.RowKit Go.Shelf

theorem valK_codes {us : List UnitM} {need spare : List Int} {on : List (List Bool)} : ∀ (k : Nat) (e : Int), valK us need spare on k = .error e → e = 15 ∨ e = 8
  | 0, e, h => by rw [valK] at h; cases h
  | k + 1, e, h => by
    rw [valK] at h
    cases hv : valK us need spare on k with
    | error e' =>
      rw [hv] at h
      cases h
      exact valK_codes k _ hv
    | ok p =>
      obtain ⟨t, c⟩ := p
      simp only [hv] at h
      unfold stepV at h
      split at h
      · cases h; exact .inl rfl
      · split at h
        · cases h; exact .inr rfl
        · cases h
/-- A schedule has a value just if it is a way to stand. -/
theorem valued_way {us : List UnitM} {need spare : List Int} {on : List (List Bool)} {c : Int} (h : valued us need spare on = (c, 0)) : ∃ t, Way us need spare need.length ⟨t, c, on⟩ := by
  by_cases h1 : SizeOk us need spare ∧ on.length = need.length ∧ RowsOk us on
  · by_cases h2 : schedC us need spare = 0
    · cases h3 : valK us need spare on on.length with
      | error e =>
        rw [valued_none h1 h2 h3] at h
        have := congrArg Prod.snd h
        simp only at this
        rcases valK_codes _ _ h3 with h4 | h4 <;> omega
      | ok p =>
        obtain ⟨t, c'⟩ := p
        rw [valued_some h1 h2 h3] at h
        have hc : c' = c := congrArg Prod.fst h
        refine ⟨t, h1.2.1, fun r hr => ?_, ?_⟩
        · obtain ⟨i, hi, rfl⟩ := List.getElem_of_mem hr
          exact h1.2.2 i _ (List.getElem?_eq_getElem hi)
        · show valK us need spare on need.length = _
          rw [← h1.2.1, h3, hc]
    · rw [valued_fault h1 h2] at h
      exact absurd (congrArg Prod.snd h) h2
  · rw [valued_size h1] at h
    have := congrArg Prod.snd h
    simp at this
theorem way_valued {us : List UnitM} {need spare : List Int} {s : StepM} (h0 : schedC us need spare = 0) (h : Way us need spare need.length s) : valued us need spare s.on = (s.cost, 0) := by
  have hz := schedC_zero h0
  refine valued_some ⟨hz.1, h.len, fun i b hb => h.rows b (List.mem_of_getElem? hb)⟩ h0 (t := s.stay) ?_
  rw [h.len]
  exact h.v
theorem way_best {us : List UnitM} {need spare : List Int} (h0 : schedC us need spare = 0) {s : StepM} (h : Way us need spare need.length s) : ∃ b, BestIs us need spare b := by
  have hz := schedC_zero h0
  cases hd : dpK us need spare need.length with
  | nil =>
    obtain ⟨y, hy, _⟩ := (dpK_inv hz.2.1 hz.1.1 (need := need) (spare := spare) need.length).2 s h
    rw [hd] at hy
    exact absurd hy List.not_mem_nil
  | cons b l => exact ⟨_, dp_best hz.2.1 hz.1.1 hd⟩
/-- A unit for the trial. -/
def oneU : UnitM := ⟨0, 5, 1, 0, 1, 1, 1⟩
theorem oneU_may : MayUs [oneU] := fun i u h => by
  cases i with
  | zero => cases h; refine ⟨?_, ?_, ?_, ?_, ?_, ?_, ?_, ?_, ?_⟩ <;> simp [oneU]
  | succ i => cases h
theorem oneU_sched : schedC [oneU] [3] [0] = 0 := by
  refine schedC_ok ⟨by simp, by simp, rfl⟩ oneU_may ⟨fun i hi => ?_, fun i hi => ?_⟩
  · have : i = 0 := by simpa using hi
    subst this; simp
  · have : i = 0 := by simpa using hi
    subst this; simp
theorem oneU_merit : Merit [oneU] [true] 3 [3] := by
  refine ⟨rfl, fun i h => ?_, fun i u hu h => ?_, rfl, fun i j u v hu hv hi hj ha h => ?_⟩
  · cases i with
    | zero => cases h
    | succ i => simp
  · cases i with
    | zero => cases hu; simp [oneU]
    | succ i => cases hu
  · obtain ⟨u', v', hu', hv', h'⟩ := ha
    have hi0 : i = 0 := by cases i with | zero => rfl | succ i => cases hu
    have hj0 : j = 0 := by cases j with | zero => rfl | succ j => cases hv
    subst hi0; subst hj0
    rw [hu'] at hv'
    cases hv'
    rcases h' with h' | ⟨_, h'⟩ <;> omega
theorem oneU_way : ∃ t c, Way [oneU] [3] [0] 1 ⟨t, c, [[true]]⟩ := by
  have h1 : hourC [oneU] [true] 3 0 = some (costK [oneU] [true] [3] 1) := hourC_some oneU_may ⟨[3], oneU_merit, by simp [mostK, oneU], rfl⟩
  have h2 : nextL [oneU] (staysL [oneU]) [true] = some ([2], 0) := by
    simp [nextL, nextK, staysL, oneU, clip, stayOn, startOf]
  have h3 := (Way.start [oneU] [3] [0]).more (r := [true]) (t := [2]) (c := 0 + (0 + costK [oneU] [true] [3] 1)) rfl (by
    show stepV [oneU] 3 0 (staysL [oneU]) 0 [true] = _
    unfold stepV
    rw [h2]
    simp only [h1])
  exact ⟨_, _, h3⟩
theorem oneU_best {s : StepM} (h : BestIs [oneU] [3] [0] s) : s.on = [[true]] := by
  have hl : s.on.length = 1 := h.way.len
  obtain ⟨r, hr⟩ := List.length_eq_one_iff.1 hl
  have hrl : r.length = 1 := h.way.rows r (by rw [hr]; exact List.mem_singleton.2 rfl)
  obtain ⟨b, hb⟩ := List.length_eq_one_iff.1 hrl
  subst hb
  cases b with
  | true => exact hr
  | false =>
    exfalso
    obtain ⟨s0, r0, hw, _, hon, hst⟩ := Way.less (k := 0) h.way
    have hr0 : r0 = [false] := by
      rw [hr] at hon
      have h0 : s0.on = [] := List.length_eq_zero_iff.1 hw.len
      rw [h0] at hon
      have := List.cons.inj hon
      exact this.1.symm
    subst hr0
    unfold stepV at hst
    split at hst
    · cases hst
    · have hno : hourC [oneU] [false] 3 0 = none := hourC_none oneU_may (fun c ⟨out, hm, _, _⟩ => by
        have hs := hm.sum
        have h0 := hm.off 0 rfl
        have hl := hm.len
        obtain ⟨x, hx⟩ := List.length_eq_one_iff.1 hl
        rw [hx] at hs h0
        simp at hs h0
        omega)
      simp only [List.getD_cons_zero] at hst
      rw [hno] at hst
      cases hst
end Go.Proofs.Ytlbeecjkfakkpag
namespace Go.Proofs.Ytlbeecjkfakkpag
open Go.RowKit Go.Shelf

theorem made_false (n : Nat) : (madeCells (Value.bool false).cells (n * 1)).toList = (List.replicate n false).map Value.bool := by
  apply List.ext_getElem
  · simp [madeCells]
  · intro i h1 h2
    simp [madeCells, Value.cells, Nat.mod_one]
theorem bools_set (l : List Bool) (v : Nat) (x : Bool) : (l.map Value.bool).toArray.setIfInBounds v (.bool x) = ((l.set v x).map Value.bool).toArray := by
  simp [List.map_set]
theorem row_of_own4 {w : World} {B g n : Nat} {xs : List Value} (h : w.ownsRow B 4 1 (.slice (some ⟨g, 0, none⟩) n n) n xs) : w.heap[g]? = some (.cells xs.toArray 4 (0, 0)) := by
  rcases h.2 with ⟨h0, _⟩ | ⟨g', cap, cur, e, _, hg, _, _, hsz, htk⟩
  · cases h0
  · cases e
    rw [hg]
    have : cur = xs.toArray := by
      rw [← htk, List.take_of_length_le (by simp [hsz])]
    rw [this]
/-- What Best tells where units and hours may be. -/
theorem best_cases {us : List UnitM} {need spare : List Int} {w w' : World} {e : Ending} (h0 : schedC us need spare = 0) (h : BestOut us need spare w e w') :
    ((∀ s, ¬ BestIs us need spare s) ∧ e = .returned (.tuple #[.slice none 0 0, .int .i64 0, .int .i64 9]) ∧ Below w.heap.size w w') ∨ ∃ s a c, BestIs us need spare s ∧ e = .returned (.tuple #[.slice a s.on.length c, .int .i64 s.cost, .int .i64 0]) ∧ SignsAt w' (.slice a s.on.length c) s.on ∧ Below w.heap.size w w' := by
  obtain ⟨h, hb⟩ := h
  rcases h with ⟨h, _⟩ | ⟨_, h, he⟩ | ⟨_, s, v, hs, he, hv⟩
  · exact absurd h0 h
  · exact .inl ⟨h, he, hb⟩
  · obtain ⟨a, c, rfl⟩ := hv.slice
    exact .inr ⟨s, a, c, hs, he, hv, hb⟩
set_option maxRecDepth 100000 in
set_option maxHeartbeats 4000000 in
theorem CommitCheap_any (HPB : BestGood) (HPV : ValueGood) (raw : List UnitM) (hours : Int) (need spare : List Int) (on : List (List Bool)) (rv nv sv ov : Value) (w : World) (hx : UnitsAt w rv raw) (hn : RowAt w nv need.length 1 (ints need)) (hs : RowAt w sv spare.length 1 (ints spare)) (ho : SignsAt w ov on)
    (hri : ∀ u ∈ raw, I7 u) (hhi : I6 hours) (hni : ∀ x ∈ need, I6 x) (hsi : ∀ x ∈ spare, I6 x) (hul : raw.length ≤ 2000000) (hnl : need.length ≤ 2000000) (hsl : spare.length ≤ 2000000) (hol : on.length ≤ 2000000) (hrl : ∀ r ∈ on, r.length ≤ 2000000) :
    Calls Try.prog 6 #[rv, .int .i64 hours, nv, sv, ov] w fun e w' => e = .returned (.bool true) ∧ Below w.heap.size w w' := by
  obtain ⟨i4, hi4, hb0, hb1, hb2⟩ := info_parts Try.info4
  obtain ⟨i5, hi5, hs0, hs1, hs2⟩ := info_parts Try.info23
  have HBG := hide' HPB
  have HVG := hide' HPV
  have HX := hide' hx
  have HN := hide' hn
  have HS := hide' hs
  have HO := hide' ho
  have HNI := hide' hni
  have HSI := hide' hsi
  have HRLL := hide' hrl
  have HUF := hide' (unitsFrom_any raw rv w hx hri hul)
  obtain ⟨n, hn9, hpc⟩ := picked_is hours 9 hhi (by decide) (by decide)
  have HPC := hide' hpc
  obtain ⟨ag, cg, rfl⟩ := rowAt_slice hx
  obtain ⟨an, cn, rfl⟩ := rowAt_slice hn
  obtain ⟨as', cs, rfl⟩ := rowAt_slice hs
  obtain ⟨ao, co, rfl⟩ := ho.slice
  clear HPB HPV hx hn hs ho hri hhi hni hsi hrl hpc
  go_enter Try.func6, Try.ntmps6
  go_wp2_with fail
  refine HUF.out.mono ?_
  rintro e w1 ⟨us, v1, rfl, hu1, hmay, h4, hb1⟩
  have HU1 := hide' hu1
  have HM := hide' hmay
  have HB1 := hide' hb1
  obtain ⟨a1, c1, rfl⟩ := rowAt_slice hu1
  clear hu1 hmay hb1 HUF
  go_wp2_with fail
  refine (HPC.out _).mono ?_
  rintro e w1' ⟨rfl, hw1'⟩
  rw [hw1']
  clear hw1' w1' HPC
  go_wp2_with fail
  refine (hoursFrom_any need n 200 (.slice an need.length cn) w1 (HN.out.below HB1.out (Nat.le_refl _)) HNI.out hnl (by omega) (by decide) (by decide)).mono ?_
  rintro e w2 ⟨D, v2, rfl, hdl, hdr, hr2, hb2'⟩
  have HDL := hide' hdl
  have HDR := hide' hdr
  have HR2 := hide' hr2
  have HB2 := hide' (HB1.out.trans (hb2'.mono HB1.out.size))
  have HU2 := hide' (HU1.out.below hb2' (Nat.le_refl _))
  obtain ⟨a2, c2, rfl⟩ := rowAt_slice hr2
  clear hdl hdr hr2 hb2' HB1 HU1
  go_wp2_with fail
  refine (hoursFrom_any spare n 30 (.slice as' spare.length cs) w2 (HS.out.below HB2.out (Nat.le_refl _)) HSI.out hsl (by omega) (by decide) (by decide)).mono ?_
  rintro e w3 ⟨S, v3, rfl, hsl3, hsr, hr3, hb3⟩
  have HSL := hide' hsl3
  have HSR := hide' hsr
  have HR3 := hide' hr3
  have HB3 := hide' (HB2.out.trans (hb3.mono HB2.out.size))
  have HU3 := hide' (HU2.out.below hb3 (Nat.le_refl _))
  have HR23 := hide' (HR2.out.below hb3 (Nat.le_refl _))
  obtain ⟨a3, c3, rfl⟩ := rowAt_slice hr3
  have HSC : Hid (schedC us D S = 0) := schedC_ok ⟨h4, by rw [HDL.out]; omega, by rw [HDL.out, HSL.out]⟩ HM.out ⟨HDR.out, HSR.out⟩
  clear hsl3 hsr hr3 hb3 HB2 HU2 HR2
  obtain ⟨wq, hwq⟩ : ∃ x, x = w3 := ⟨_, rfl⟩
  rw [← hwq] at HR3 HB3 HU3 HR23 ⊢
  clear hwq
  go_wp2_with fail
  go_loopw [15, 16] (fun xv hv W => ∃ (h : Nat) (X : List (List Bool)) (vs : List Value), hv = .int .i64 h ∧ h ≤ n ∧ Hid (X.length = h ∧ ∀ r ∈ X, r.length = us.length) ∧ Hid (W.ownsRow wq.heap.size 23 1 xv h vs) ∧ Hid (RowsO W vs X) ∧ Hid (Below wq.heap.size wq W)) (fun _ hv _ => n - (intOf hv).toNat)
  case atStart => exact ⟨0, [], [], rfl, Nat.zero_le _, ⟨rfl, fun r hr => absurd hr List.not_mem_nil⟩, World.ownsRow_nil _ _ _ _, ⟨rfl, fun i b h => by cases h⟩, Below.refl _ wq⟩
  case round =>
    obtain ⟨h, X, vs, rfl, hh, HXL, HOWN, HRO, HBE⟩ := hrel
    by_cases hlt : h < n
    · obtain ⟨wp, hwp⟩ : ∃ x, x = wr := ⟨_, rfl⟩
      rw [← hwp] at HOWN HRO HBE
      go_wp2_with (at_make; refine wpList_make_full _ rfl _ _ 23 rfl wr.heap.size 4 i4 (.bool false) 1 Try.underlying23 hi4 hb0 hb1 .i64 .i64 _ _ us.length rfl rfl rfl rfl (by rw [hb2]; omega) (by unfold maxLen; omega) (Nat.le_refl _) ?_; intro w5 hown5 hgr5; refine Still.go ?_)
      unfold Still
      obtain ⟨F, hFe⟩ : ∃ F, F = wr.heap.size := ⟨_, rfl⟩
      rw [← hFe]
      have HF0 : Hid (w5.heap[F]? = some (.cells ((List.replicate us.length false).map Value.bool).toArray 4 (0, 0))) := by
        have h1 := row_of_own4 hown5
        rw [made_false] at h1
        rw [hFe]; exact h1
      have HB5 : Hid (Below wp.heap.size wp w5) := by rw [hwp]; exact (Below.refl _ wr).grown hgr5 (Nat.le_refl _) (fun k e => by cases e)
      have HFP : Hid (wp.heap.size ≤ F) := by rw [hFe, hwp]; exact Nat.le_refl _
      clear hown5 hgr5 hFe hwp
      go_wp2_with fail
      go_loopw [18] (fun iv W => ∃ (i : Nat) (row : List Bool), iv = .int .i64 i ∧ i ≤ us.length ∧ Hid (row.length = us.length) ∧ Hid (W.heap[F]? = some (.cells (row.map Value.bool).toArray 4 (0, 0))) ∧ Hid (Below wp.heap.size wp W)) (fun iv _ => us.length - (intOf iv).toNat)
      case atStart => exact ⟨0, _, rfl, Nat.zero_le _, List.length_replicate, HF0, HB5⟩
      case round =>
        clear HF0 HB5
        obtain ⟨i, row, rfl, hi, HRL, HF, HBI⟩ := hrel
        by_cases hho : h < on.length
        · obtain ⟨bo, oo, co', a', c', ex, hcell, hrow⟩ := HO.out.cell h hho
          cases ex
          obtain ⟨p, hp⟩ : ∃ p, p = on[h] := ⟨_, rfl⟩
          rw [← hp] at hcell hrow
          have hpl : p.length ≤ 2000000 := by rw [hp]; exact HRLL.out _ (List.getElem_mem hho)
          have HWW : Hid (Below w.heap.size w wr) := (HB3.out.trans (HBE.out.mono HB3.out.size)).trans (HBI.out.mono (Nat.le_trans HB3.out.size HBE.out.size))
          have d0 := (HWW.out.cell (World.block_lt_of_cell? w _ hcell)).trans hcell
          have HROW := hide' hrow
          clear hcell hrow hp
          by_cases hiu : i < us.length
          · by_cases hip : i < p.length
            · obtain ⟨bp, op, cp', exp, _, hcp⟩ := Row1.cell HROW.out i hip
              cases exp
              have d1 := (HWW.out.cell (World.block_lt_of_cell? w _ hcp)).trans hcp
              obtain ⟨x, hx⟩ : ∃ x, x = p.getD i false := ⟨_, rfl⟩
              rw [← hx] at d1
              obtain ⟨y, hy⟩ : ∃ y, row[i]? = some y := ⟨_, List.getElem?_eq_getElem (by rw [HRL.out]; exact hiu)⟩
              have d2 : wr.cell? ⟨F, i, none⟩ = some (.bool y) := by
                simp only [World.cell?, HF.out]
                rw [List.getElem?_toArray, List.getElem?_map, hy]
                rfl
              have d3 := frozen_no HF.out i
              have HF2 : Hid ((wr.setCell ⟨F, i, none⟩ (.bool x)).heap[F]? = some (.cells ((row.set i x).map Value.bool).toArray 4 (0, 0))) := by show _ = _; rw [set_any HF.out i (.bool x), bools_set]
              have HBI2 : Hid (Below wp.heap.size wp (wr.setCell ⟨F, i, none⟩ (.bool x))) := HBI.out.trans ((Only.set F _ _ _).below HFP.out)
              have HRL2 : Hid ((row.set i x).length = us.length) := by show _ = _; rw [List.length_set]; exact HRL.out
              clear hcp hx hy
              go_wp2
              go_roundw
              case rel => exact ⟨i + 1, row.set i x, by go_num, by omega, HRL2, HF2, HBI2⟩
              case measure => simp [intOf]; omega
            · have hc1 : decide ((i : Int) < (p.length : Int)) = false := decide_eq_false (by omega)
              have HRW : Hid (BoolsO wr (.slice (some ⟨F, 0, none⟩) us.length us.length) row) := by
                refine ⟨by rw [List.length_map, Nat.mul_one], .inr ⟨F, us.length, _, by rw [HRL.out], Nat.zero_le _, HF.out, by rw [HRL.out]; exact Nat.le_refl _, by unfold maxLen; omega, by rw [List.size_toArray, List.length_map, Nat.mul_one, HRL.out], List.take_of_length_le (by rw [List.length_map, Nat.mul_one]; exact Nat.le_refl _)⟩⟩
              have HM := hide' (own_below HOWN.out HBI.out (Nat.le_refl _))
              have hsz : wq.heap.size ≤ wr.heap.size := Nat.le_trans HBE.out.size HBI.out.size
              go_wp2_with (at_builtin; refine wpList_append_own _ rfl _ _ 32 rfl wq.heap.size 23 i5 (.slice none 0 0) 1 24 Try.underlying32 hi5 hs0 hs1 hs2 rfl (by decide) _ _ _ rfl (HM.out.alloc _) ⟨wr.heap.size, 0, none⟩ 1 1 [.slice (some ⟨F, 0, none⟩) us.length us.length] rfl rfl (cell_one_new _ _ _) (one_cell rfl) (by unfold maxLen; omega) (by omega) (by simp; omega) ?_; intro z w2 hoz hg2 _; refine Still.go ?_)
              unfold Still
              have HKE : Hid (KeepE 23 wr w2) := (KeepE.alloc 23 wr _).trans (KeepE.grown (HM.out.alloc _) hg2)
              have HR2 : Hid (RowsO w2 (vs ++ [.slice (some ⟨F, 0, none⟩) us.length us.length]) (X ++ [row])) := ((HRO.out.keep (KeepE.below (e := 23) HBI.out (Nat.le_refl _)) (by decide)).keep HKE.out (by decide)).snoc (own_keep HRW.out HKE.out (by decide))
              have HZ := hide' hoz
              have HB2 : Hid (Below wq.heap.size wq w2) := below_app (HBE.out.trans (HBI.out.mono HBE.out.size)) HM.out (Nat.le_refl _) hsz hg2
              have HX2 : Hid ((X ++ [row]).length = h + 1 ∧ ∀ r ∈ X ++ [row], r.length = us.length) := by
                refine ⟨by rw [List.length_append, HXL.out.1]; rfl, fun r hr => ?_⟩
                rcases List.mem_append.1 hr with hr | hr
                · exact HXL.out.2 r hr
                · rw [List.mem_singleton.1 hr]; exact HRL.out
              clear hoz hg2 HM HRW HKE
              go_wp2
              go_roundw
              case rel => exact ⟨h + 1, _, _, by go_num, by omega, HX2, HZ, HR2, HB2⟩
              case measure => simp [intOf]; omega
          · have hc1 : decide ((i : Int) < (us.length : Int)) = false := decide_eq_false (by omega)
            have HRW : Hid (BoolsO wr (.slice (some ⟨F, 0, none⟩) us.length us.length) row) := by
              refine ⟨by rw [List.length_map, Nat.mul_one], .inr ⟨F, us.length, _, by rw [HRL.out], Nat.zero_le _, HF.out, by rw [HRL.out]; exact Nat.le_refl _, by unfold maxLen; omega, by rw [List.size_toArray, List.length_map, Nat.mul_one, HRL.out], List.take_of_length_le (by rw [List.length_map, Nat.mul_one]; exact Nat.le_refl _)⟩⟩
            have HM := hide' (own_below HOWN.out HBI.out (Nat.le_refl _))
            have hsz : wq.heap.size ≤ wr.heap.size := Nat.le_trans HBE.out.size HBI.out.size
            go_wp2_with (at_builtin; refine wpList_append_own _ rfl _ _ 32 rfl wq.heap.size 23 i5 (.slice none 0 0) 1 24 Try.underlying32 hi5 hs0 hs1 hs2 rfl (by decide) _ _ _ rfl (HM.out.alloc _) ⟨wr.heap.size, 0, none⟩ 1 1 [.slice (some ⟨F, 0, none⟩) us.length us.length] rfl rfl (cell_one_new _ _ _) (one_cell rfl) (by unfold maxLen; omega) (by omega) (by simp; omega) ?_; intro z w2 hoz hg2 _; refine Still.go ?_)
            unfold Still
            have HKE : Hid (KeepE 23 wr w2) := (KeepE.alloc 23 wr _).trans (KeepE.grown (HM.out.alloc _) hg2)
            have HR2 : Hid (RowsO w2 (vs ++ [.slice (some ⟨F, 0, none⟩) us.length us.length]) (X ++ [row])) := ((HRO.out.keep (KeepE.below (e := 23) HBI.out (Nat.le_refl _)) (by decide)).keep HKE.out (by decide)).snoc (own_keep HRW.out HKE.out (by decide))
            have HZ := hide' hoz
            have HB2 : Hid (Below wq.heap.size wq w2) := below_app (HBE.out.trans (HBI.out.mono HBE.out.size)) HM.out (Nat.le_refl _) hsz hg2
            have HX2 : Hid ((X ++ [row]).length = h + 1 ∧ ∀ r ∈ X ++ [row], r.length = us.length) := by
              refine ⟨by rw [List.length_append, HXL.out.1]; rfl, fun r hr => ?_⟩
              rcases List.mem_append.1 hr with hr | hr
              · exact HXL.out.2 r hr
              · rw [List.mem_singleton.1 hr]; exact HRL.out
            clear hoz hg2 HM HRW HKE
            go_wp2
            go_roundw
            case rel => exact ⟨h + 1, _, _, by go_num, by omega, HX2, HZ, HR2, HB2⟩
            case measure => simp [intOf]; omega
        · have hc1 : decide ((h : Int) < (on.length : Int)) = false := decide_eq_false (by omega)
          have HRW : Hid (BoolsO wr (.slice (some ⟨F, 0, none⟩) us.length us.length) row) := by
            refine ⟨by rw [List.length_map, Nat.mul_one], .inr ⟨F, us.length, _, by rw [HRL.out], Nat.zero_le _, HF.out, by rw [HRL.out]; exact Nat.le_refl _, by unfold maxLen; omega, by rw [List.size_toArray, List.length_map, Nat.mul_one, HRL.out], List.take_of_length_le (by rw [List.length_map, Nat.mul_one]; exact Nat.le_refl _)⟩⟩
          have HM := hide' (own_below HOWN.out HBI.out (Nat.le_refl _))
          have hsz : wq.heap.size ≤ wr.heap.size := Nat.le_trans HBE.out.size HBI.out.size
          go_wp2_with (at_builtin; refine wpList_append_own _ rfl _ _ 32 rfl wq.heap.size 23 i5 (.slice none 0 0) 1 24 Try.underlying32 hi5 hs0 hs1 hs2 rfl (by decide) _ _ _ rfl (HM.out.alloc _) ⟨wr.heap.size, 0, none⟩ 1 1 [.slice (some ⟨F, 0, none⟩) us.length us.length] rfl rfl (cell_one_new _ _ _) (one_cell rfl) (by unfold maxLen; omega) (by omega) (by simp; omega) ?_; intro z w2 hoz hg2 _; refine Still.go ?_)
          unfold Still
          have HKE : Hid (KeepE 23 wr w2) := (KeepE.alloc 23 wr _).trans (KeepE.grown (HM.out.alloc _) hg2)
          have HR2 : Hid (RowsO w2 (vs ++ [.slice (some ⟨F, 0, none⟩) us.length us.length]) (X ++ [row])) := ((HRO.out.keep (KeepE.below (e := 23) HBI.out (Nat.le_refl _)) (by decide)).keep HKE.out (by decide)).snoc (own_keep HRW.out HKE.out (by decide))
          have HZ := hide' hoz
          have HB2 : Hid (Below wq.heap.size wq w2) := below_app (HBE.out.trans (HBI.out.mono HBE.out.size)) HM.out (Nat.le_refl _) hsz hg2
          have HX2 : Hid ((X ++ [row]).length = h + 1 ∧ ∀ r ∈ X ++ [row], r.length = us.length) := by
            refine ⟨by rw [List.length_append, HXL.out.1]; rfl, fun r hr => ?_⟩
            rcases List.mem_append.1 hr with hr | hr
            · exact HXL.out.2 r hr
            · rw [List.mem_singleton.1 hr]; exact HRL.out
          clear hoz hg2 HM HRW HKE
          go_wp2
          go_roundw
          case rel => exact ⟨h + 1, _, _, by go_num, by omega, HX2, HZ, HR2, HB2⟩
          case measure => simp [intOf]; omega
    · have HSX : Hid (SignsO wr u15 X) := ⟨vs, by rw [HXL.out.1]; exact own_base HOWN.out (Nat.zero_le _), HRO.out⟩
      have hhe : h = n := by omega
      obtain ⟨ax, cx, hux⟩ : ∃ a c, u15 = .slice a h c := own_slice HOWN.out
      subst hux
      have HXN : Hid (X.length = n) := by show _ = _; rw [HXL.out.1]; exact hhe
      have HXR : Hid (∀ r ∈ X, r.length ≤ 2000000) := fun r hr => by rw [HXL.out.2 r hr]; omega
      have HSA : Hid (SignsAt wr (.slice ax h cx) X) := HSX.out.at'
      have HUr := hide' (HU3.out.below HBE.out (Nat.le_refl _))
      have HDr : Hid (RowAt wr (.slice a2 n c2) D.length 1 (ints D)) := by have := HR23.out.below HBE.out (Nat.le_refl _); rw [← HDL.out] at this ⊢; exact this
      have HSr : Hid (RowAt wr (.slice a3 n c3) S.length 1 (ints S)) := by have := HR3.out.below HBE.out (Nat.le_refl _); rw [← HSL.out] at this ⊢; exact this
      have HWr := hide' (HB3.out.trans (HBE.out.mono HB3.out.size))
      have hnl2 : D.length ≤ 2000000 := by rw [HDL.out]; omega
      have hsl2 : S.length ≤ 2000000 := by rw [HSL.out]; omega
      have hxl2 : X.length ≤ 2000000 := by rw [HXN.out]; omega
      obtain ⟨own, f, hval⟩ : ∃ x y, valued us D S X = (x, y) := ⟨_, _, rfl⟩
      have HVAL := hide' hval
      have HHE := hide' hhe
      have HNL2 := hide' hnl2
      have HSL2 := hide' hsl2
      have HXL2 := hide' hxl2
      clear hval hhe HSX HOWN HRO HR3 HR23 HB3 HU3 hnl2 hsl2 hxl2
      have HCB := hide' (HBG.out us D S (.slice a1 us.length c1) (.slice a2 n c2) (.slice a3 n c3) wr HUr.out HDr.out HSr.out (by omega) HNL2.out HSL2.out)
      go_wp2_with fail
      refine HCB.out.mono ?_
      intro e w6 h6
      rcases best_cases HSC.out h6 with ⟨hno, rfl, hb6⟩ | ⟨bst, ab, cb, hbs, rfl, hsb, hb6⟩
      · have HF : Hid (f ≠ 0) := fun hf => by
          have h1 := HVAL.out
          rw [hf] at h1
          obtain ⟨t, hw⟩ := valued_way h1
          obtain ⟨b, hb⟩ := way_best HSC.out hw
          exact hno b hb
        have HB6 := hide' (HWr.out.trans (hb6.mono HWr.out.size))
        have HCV := hide' (HVG.out us D S X (.slice a1 us.length c1) (.slice a2 n c2) (.slice a3 n c3) (.slice ax h cx) w6 (HUr.out.below hb6 (Nat.le_refl _)) (HDr.out.below hb6 (Nat.le_refl _)) (HSr.out.below hb6 (Nat.le_refl _)) (HSA.out.below hb6 (Nat.le_refl _)) (by omega) HNL2.out HSL2.out HXL2.out HXR.out)
        clear hno hb6 h6 HCB
        go_wp2_with fail
        refine HCV.out.mono ?_
        rintro e w7 ⟨rfl, hb7⟩
        rw [HVAL.out]
        have HB7 := hide' (HB6.out.trans (hb7.mono HB6.out.size))
        have hfn : (f != 0) = true := bne_iff_ne.2 HF.out
        clear hb7 HB6 HCV
        obtain ⟨Y1, hY1⟩ : ∃ x, x = w7.alloc (.cells #[.int .i64 0, .int .i64 5, .int .i64 1, .int .i64 0, .int .i64 1, .int .i64 1, .int .i64 1] 47) := ⟨_, rfl⟩
        obtain ⟨Y2, hY2⟩ : ∃ x, x = Y1.alloc (.cells #[.int .i64 3] 3) := ⟨_, rfl⟩
        obtain ⟨Y3, hY3⟩ : ∃ x, x = Y2.alloc (.cells #[.int .i64 0] 3) := ⟨_, rfl⟩
        have HYB1 : Hid (Below w7.heap.size w7 Y1) := by rw [hY1]; exact (Below.refl _ w7).alloc (Nat.le_refl _) _
        have HYB2 : Hid (Below Y1.heap.size Y1 Y2) := by rw [hY2]; exact (Below.refl _ Y1).alloc (Nat.le_refl _) _
        have HYB3 : Hid (Below Y2.heap.size Y2 Y3) := by rw [hY3]; exact (Below.refl _ Y2).alloc (Nat.le_refl _) _
        have HYU : Hid (UnitsAt Y3 (.slice (some ⟨w7.heap.size, 0, none⟩) 1 1) [oneU]) := by
          have h1 : UnitsAt Y1 (.slice (some ⟨w7.heap.size, 0, none⟩) 1 1) [oneU] := by rw [hY1]; exact rowAt_of_own (own_new w7 (UnitM.cells oneU) 47 1 7 0 rfl (by unfold maxLen; omega) (Nat.zero_le _))
          exact (h1.below HYB2.out (Nat.le_refl _)).below HYB3.out (Nat.le_refl _)
        have HYN : Hid (RowAt Y3 (.slice (some ⟨Y1.heap.size, 0, none⟩) 1 1) [(3 : Int)].length 1 (ints [3])) := by
          have h1 : RowAt Y2 (.slice (some ⟨Y1.heap.size, 0, none⟩) 1 1) 1 1 (ints [3]) := by rw [hY2]; exact rowAt_of_own (own_new Y1 (ints [3]) 3 1 1 0 rfl (by unfold maxLen; omega) (Nat.zero_le _))
          exact h1.below HYB3.out (Nat.le_refl _)
        have HYS : Hid (RowAt Y3 (.slice (some ⟨Y2.heap.size, 0, none⟩) 1 1) [(0 : Int)].length 1 (ints [0])) := by rw [hY3]; exact rowAt_of_own (own_new Y2 (ints [0]) 3 1 1 0 rfl (by unfold maxLen; omega) (Nat.zero_le _))
        have hz1 : Y1.heap.size = w7.heap.size + 1 := by rw [hY1]; simp
        have hz2 : Y2.heap.size = w7.heap.size + 1 + 1 := by rw [hY2]; simp [hz1]
        rw [hz1] at HYN
        rw [hz2] at HYS
        have HCO := hide' (HBG.out [oneU] [3] [0] _ _ _ Y3 HYU.out HYN.out HYS.out (by decide) (by decide) (by decide))
        have HY1 := hide' hY1
        have HY2 := hide' hY2
        have HY3 := hide' hY3
        have HYW : Hid (Below w7.heap.size w7 Y3) := (HYB1.out.trans (HYB2.out.mono HYB1.out.size)).trans (HYB3.out.mono (Nat.le_trans HYB1.out.size HYB2.out.size))
        clear hY1 hY2 hY3 hz1 hz2
        go_wp2_with fail
        rw [← HY1.out, ← HY2.out, ← HY3.out]
        refine HCO.out.mono ?_
        intro e w9 h9
        obtain ⟨as1, cs1, k9, rfl, hsg1, hb9⟩ : ∃ (a : Option Addr) (c : Nat) (k : Int), e = .returned (.tuple #[.slice a 1 c, .int .i64 k, .int .i64 0]) ∧ SignsAt w9 (.slice a 1 c) [[true]] ∧ Below Y3.heap.size Y3 w9 := by
          rcases best_cases oneU_sched h9 with ⟨hno, _, _⟩ | ⟨b1, a1', c1', hb1', he, hs1', hb'⟩
          · obtain ⟨t, c, hw⟩ := oneU_way
            obtain ⟨b, hb⟩ := way_best oneU_sched (s := ⟨t, c, [[true]]⟩) hw
            exact absurd hb (hno b)
          · have h1 := oneU_best hb1'
            rw [h1] at he hs1'
            exact ⟨a1', c1', b1.cost, he, hs1', hb'⟩
        have HB79 := hide' (HYW.out.trans (hb9.mono HYW.out.size))
        have HB9 := hide' (HB7.out.trans (HB79.out.mono HB7.out.size))
        obtain ⟨bo1, oo1, co1, ap1, dp1, ex1, hc1, hr1⟩ := hsg1.cell 0 (by decide)
        cases ex1
        obtain ⟨bq1, oq1, cq1, exq1, _, hcq1⟩ := Row1.cell hr1 0 (by decide)
        cases exq1
        simp only [Nat.add_zero, List.getElem_cons_zero, List.length_cons, List.length_nil, Nat.zero_add, List.getD_cons_zero] at hc1 hcq1
        clear h9 hb9 hsg1 hr1 HCO HY1 HY2 HY3 HYB1 HYB2 HYB3 HYU HYN HYS HYW
        go_wp2
        go_ret
        exact ⟨rfl, HB9.out⟩
      · have HBS := hide' hbs
        have HB6 := hide' (HWr.out.trans (hb6.mono HWr.out.size))
        have HSB := hide' hsb
        have HU6 := hide' (HUr.out.below hb6 (Nat.le_refl _))
        have HD6 := hide' (HDr.out.below hb6 (Nat.le_refl _))
        have HS6 := hide' (HSr.out.below hb6 (Nat.le_refl _))
        have HCV := hide' (HVG.out us D S X (.slice a1 us.length c1) (.slice a2 n c2) (.slice a3 n c3) (.slice ax h cx) w6 HU6.out HD6.out HS6.out (HSA.out.below hb6 (Nat.le_refl _)) (by omega) HNL2.out HSL2.out HXL2.out HXR.out)
        have hbl : bst.on.length = n := by rw [hbs.way.len]; exact HDL.out
        have HBV : Hid (valued us D S bst.on = (bst.cost, 0)) := way_valued HSC.out hbs.way
        have HBR : Hid (∀ r ∈ bst.on, r.length ≤ 2000000) := fun r hr => by rw [hbs.way.rows r hr]; omega
        have HBL : Hid (bst.on.length ≤ 2000000) := by show _ ≤ _; rw [hbl]; omega
        have HLE : Hid (f = 0 → bst.cost ≤ own) := fun hf => by
          have h1 := HVAL.out
          rw [hf] at h1
          obtain ⟨t, hw⟩ := valued_way h1
          have := HBS.out.least _ hw
          unfold Le at this
          simp only at this
          omega
        obtain ⟨bc, hbc⟩ : ∃ c, c = bst.cost := ⟨_, rfl⟩
        rw [← hbc] at HBV HLE
        rw [hbl] at HSB
        rw [hbl, ← hbc]
        clear hbs hsb hb6 h6 HCB hbl hbc
        go_wp2_with fail
        refine HCV.out.mono ?_
        rintro e w7 ⟨rfl, hb7⟩
        rw [HVAL.out]
        have HB7 := hide' (HB6.out.trans (hb7.mono HB6.out.size))
        have HSB7 := hide' (HSB.out.below hb7 (Nat.le_refl _))
        have HU7 := hide' (HU6.out.below hb7 (Nat.le_refl _))
        have HD7 := hide' (HD6.out.below hb7 (Nat.le_refl _))
        have HS7 := hide' (HS6.out.below hb7 (Nat.le_refl _))
        clear hb7 HB6 HCV HSB HU6 HD6 HS6
        obtain ⟨Y1, hY1⟩ : ∃ x, x = w7.alloc (.cells #[.int .i64 0, .int .i64 5, .int .i64 1, .int .i64 0, .int .i64 1, .int .i64 1, .int .i64 1] 47) := ⟨_, rfl⟩
        obtain ⟨Y2, hY2⟩ : ∃ x, x = Y1.alloc (.cells #[.int .i64 3] 3) := ⟨_, rfl⟩
        obtain ⟨Y3, hY3⟩ : ∃ x, x = Y2.alloc (.cells #[.int .i64 0] 3) := ⟨_, rfl⟩
        have HYB1 : Hid (Below w7.heap.size w7 Y1) := by rw [hY1]; exact (Below.refl _ w7).alloc (Nat.le_refl _) _
        have HYB2 : Hid (Below Y1.heap.size Y1 Y2) := by rw [hY2]; exact (Below.refl _ Y1).alloc (Nat.le_refl _) _
        have HYB3 : Hid (Below Y2.heap.size Y2 Y3) := by rw [hY3]; exact (Below.refl _ Y2).alloc (Nat.le_refl _) _
        have HYU : Hid (UnitsAt Y3 (.slice (some ⟨w7.heap.size, 0, none⟩) 1 1) [oneU]) := by
          have h1 : UnitsAt Y1 (.slice (some ⟨w7.heap.size, 0, none⟩) 1 1) [oneU] := by rw [hY1]; exact rowAt_of_own (own_new w7 (UnitM.cells oneU) 47 1 7 0 rfl (by unfold maxLen; omega) (Nat.zero_le _))
          exact (h1.below HYB2.out (Nat.le_refl _)).below HYB3.out (Nat.le_refl _)
        have HYN : Hid (RowAt Y3 (.slice (some ⟨Y1.heap.size, 0, none⟩) 1 1) [(3 : Int)].length 1 (ints [3])) := by
          have h1 : RowAt Y2 (.slice (some ⟨Y1.heap.size, 0, none⟩) 1 1) 1 1 (ints [3]) := by rw [hY2]; exact rowAt_of_own (own_new Y1 (ints [3]) 3 1 1 0 rfl (by unfold maxLen; omega) (Nat.zero_le _))
          exact h1.below HYB3.out (Nat.le_refl _)
        have HYS : Hid (RowAt Y3 (.slice (some ⟨Y2.heap.size, 0, none⟩) 1 1) [(0 : Int)].length 1 (ints [0])) := by rw [hY3]; exact rowAt_of_own (own_new Y2 (ints [0]) 3 1 1 0 rfl (by unfold maxLen; omega) (Nat.zero_le _))
        have hz1 : Y1.heap.size = w7.heap.size + 1 := by rw [hY1]; simp
        have hz2 : Y2.heap.size = w7.heap.size + 1 + 1 := by rw [hY2]; simp [hz1]
        rw [hz1] at HYN
        rw [hz2] at HYS
        have HCO := hide' (HBG.out [oneU] [3] [0] _ _ _ Y3 HYU.out HYN.out HYS.out (by decide) (by decide) (by decide))
        have HY1 := hide' hY1
        have HY2 := hide' hY2
        have HY3 := hide' hY3
        have HYW : Hid (Below w7.heap.size w7 Y3) := (HYB1.out.trans (HYB2.out.mono HYB1.out.size)).trans (HYB3.out.mono (Nat.le_trans HYB1.out.size HYB2.out.size))
        clear hY1 hY2 hY3 hz1 hz2
        go_wp2_with fail
        rw [← HY1.out, ← HY2.out, ← HY3.out]
        refine HCO.out.mono ?_
        intro e w9 h9
        obtain ⟨as1, cs1, k9, rfl, hsg1, hb9⟩ : ∃ (a : Option Addr) (c : Nat) (k : Int), e = .returned (.tuple #[.slice a 1 c, .int .i64 k, .int .i64 0]) ∧ SignsAt w9 (.slice a 1 c) [[true]] ∧ Below Y3.heap.size Y3 w9 := by
          rcases best_cases oneU_sched h9 with ⟨hno, _, _⟩ | ⟨b1, a1', c1', hb1', he, hs1', hb'⟩
          · obtain ⟨t, c, hw⟩ := oneU_way
            obtain ⟨b, hb⟩ := way_best oneU_sched (s := ⟨t, c, [[true]]⟩) hw
            exact absurd hb (hno b)
          · have h1 := oneU_best hb1'
            rw [h1] at he hs1'
            exact ⟨a1', c1', b1.cost, he, hs1', hb'⟩
        have HB79 := hide' (HYW.out.trans (hb9.mono HYW.out.size))
        have HB9 := hide' (HB7.out.trans (HB79.out.mono HB7.out.size))
        obtain ⟨bo1, oo1, co1, ap1, dp1, ex1, hc1, hr1⟩ := hsg1.cell 0 (by decide)
        cases ex1
        obtain ⟨bq1, oq1, cq1, exq1, _, hcq1⟩ := Row1.cell hr1 0 (by decide)
        cases exq1
        simp only [Nat.add_zero, List.getElem_cons_zero, List.length_cons, List.length_nil, Nat.zero_add, List.getD_cons_zero] at hc1 hcq1
        clear h9 hb9 hsg1 hr1 HCO HY1 HY2 HY3 HYB1 HYB2 HYB3 HYU HYN HYS HYW
        have HCB2 := hide' (HVG.out us D S bst.on (.slice a1 us.length c1) (.slice a2 n c2) (.slice a3 n c3) (.slice ab n cb) w9 (HU7.out.below HB79.out (Nat.le_refl _)) (HD7.out.below HB79.out (Nat.le_refl _)) (HS7.out.below HB79.out (Nat.le_refl _)) (HSB7.out.below HB79.out (Nat.le_refl _)) (by omega) HNL2.out HSL2.out HBL.out HBR.out)
        go_wp2_with fail
        refine HCB2.out.mono ?_
        rintro e w10 ⟨rfl, hb10⟩
        rw [HBV.out]
        have HB10 := hide' (HB9.out.trans (hb10.mono HB9.out.size))
        clear hb10 HCB2
        by_cases hf : f = 0
        · have hle := HLE.out hf
          subst hf
          go_wp2
          go_ret
          exact ⟨rfl, HB10.out⟩
        · have hfn : (f != 0) = true := bne_iff_ne.2 hf
          clear hf
          go_wp2
          go_ret
          exact ⟨rfl, HB10.out⟩
end Go.Proofs.Ytlbeecjkfakkpag
namespace Go.Proofs.Ytlbeecjkfakkpag
open Go.RowKit Go.Shelf

theorem nextK_get {us : List UnitM} {t : List Int} {on : List Bool} (hm : MayUs us) : ∀ (k : Nat) (l : List Int) (s : Int), k ≤ us.length → nextK us t on k = some (l, s) → ∀ (i : Nat) (u : UnitM), i < k → us[i]? = some u → stayOn u (t.getD i 0) (on.getD i false) = some (l.getD i 0)
  | k + 1, l, s, hk, h, i, u, hi, hu => by
    rw [nextK] at h
    obtain ⟨⟨l0, s0⟩, h0, h⟩ := Option.bind_eq_some_iff.1 h
    obtain ⟨u', hu', h⟩ := Option.bind_eq_some_iff.1 h
    obtain ⟨y, hy, h⟩ := Option.map_eq_some_iff.1 h
    cases h
    have hl0 := (nextK_spec hm k (by omega) l0 s0 h0).1
    by_cases e : i = k
    · subst e
      rw [hu] at hu'
      cases hu'
      simp only
      rw [← hl0, getD_snoc_eq, hl0]
      exact hy
    · have ih := nextK_get hm k l0 s0 (by omega) h0 i u (by omega) hu
      simp only
      rw [getD_snoc_lt (by rw [hl0]; omega)]
      exact ih
theorem valK_before {us : List UnitM} {need spare : List Int} {on : List (List Bool)} {m : Nat} {p : List Int × Int} (h : valK us need spare on m = .ok p) (k : Nat) (hk : k ≤ m) : ∃ t c, valK us need spare on k = .ok (t, c) := by
  cases hv : valK us need spare on k with
  | ok q => exact ⟨q.1, q.2, rfl⟩
  | error e => rw [valK_error hv m hk] at h; cases h
/-- What an hour of a schedule that can be tells. -/
theorem valK_hour {us : List UnitM} {need spare : List Int} {on : List (List Bool)} {m : Nat} {p : List Int × Int} (h : valK us need spare on m = .ok p) (k : Nat) (hk : k < m) :
    ∃ t c l s x, valK us need spare on k = .ok (t, c) ∧ nextL us t (on.getD k []) = some (l, s) ∧ hourC us (on.getD k []) (need.getD k 0) (spare.getD k 0) = some x ∧ ∃ c', valK us need spare on (k + 1) = .ok (l, c') := by
  obtain ⟨t, c, h1⟩ := valK_before h k (by omega)
  obtain ⟨l, c', h2⟩ := valK_before h (k + 1) (by omega)
  have h3 := h2
  rw [valK, h1] at h3
  simp only at h3
  unfold stepV at h3
  cases hn : nextL us t (on.getD k []) with
  | none => rw [hn] at h3; cases h3
  | some q =>
    obtain ⟨l0, s⟩ := q
    rw [hn] at h3
    cases hh : hourC us (on.getD k []) (need.getD k 0) (spare.getD k 0) with
    | none => simp only [hh] at h3; cases h3
    | some x =>
      simp only [hh] at h3
      have e : l0 = l := congrArg Prod.fst (Except.ok.inj h3)
      subst e
      exact ⟨t, c, l0, s, x, h1, hn, rfl, c', h2⟩
/-- How long a unit has been on or off, uncapped; what is told stays within. -/
structure Run (us : List UnitM) (need spare : List Int) (on : List (List Bool)) (i : Nat) (h : Nat) (run : Int) : Prop where
  at' : ∃ t c, valK us need spare on h = .ok (t, c) ∧ t.getD i 0 = clip run
  ne : run ≠ 0
  lo : -24 - (h : Int) ≤ run
  hi : run ≤ 24 + (h : Int)
theorem Run.start {us : List UnitM} {need spare : List Int} {on : List (List Bool)} {i : Nat} {u : UnitM} (hm : MayUs us) (hu : us[i]? = some u) : Run us need spare on i 0 u.was := by
  have h := hm i u hu
  have h1 := h.h
  refine ⟨⟨staysL us, 0, rfl, ?_⟩, h.i, by omega, by omega⟩
  rw [List.getD_eq_getElem?_getD, staysL, List.getElem?_map, hu]
  rfl
/-- An hour on: what the law looks at. -/
theorem Run.step {us : List UnitM} {need spare : List Int} {on : List (List Bool)} {i h m : Nat} {run : Int} {u : UnitM} {p : List Int × Int} (hm : MayUs us) (hu : us[i]? = some u) (hv : valK us need spare on m = .ok p) (hk : h < m) (hr : Run us need spare on i h run) :
    ((on.getD h []).getD i false = true → 0 < run → Run us need spare on i (h + 1) (run + 1)) ∧
    ((on.getD h []).getD i false = false → run < 0 → Run us need spare on i (h + 1) (run - 1)) ∧
    ((on.getD h []).getD i false = true → ¬ 0 < run → ¬ -run < u.down ∧ Run us need spare on i (h + 1) 1) ∧
    ((on.getD h []).getD i false = false → ¬ run < 0 → ¬ run < u.up ∧ Run us need spare on i (h + 1) (-1)) := by
  obtain ⟨t, c, l, s, x, h1, h2, _, c', h3⟩ := valK_hour hv h hk
  obtain ⟨t', c'', h1', ht⟩ := hr.at'
  rw [h1] at h1'
  have e : t = t' := congrArg Prod.fst (Except.ok.inj h1')
  subst e
  have hg := nextK_get hm us.length l s (Nat.le_refl _) h2 i u (List.getElem?_eq_some_iff.1 hu).1 hu
  rw [ht] at hg
  have hne := hr.ne
  have hlo := hr.lo
  have hhi := hr.hi
  have mk : ∀ r', l.getD i 0 = clip r' → r' ≠ 0 → -24 - ((h + 1 : Nat) : Int) ≤ r' → r' ≤ 24 + ((h + 1 : Nat) : Int) → Run us need spare on i (h + 1) r' := fun r' a b c d => ⟨⟨l, c', h3, a⟩, b, c, d⟩
  have c1 : 0 < run → 0 < clip run ∧ clip (clip run + 1) = clip (run + 1) ∧ clip run ≤ run := fun hp => by
    unfold clip
    by_cases a : 3 < run
    · rw [if_pos a, if_pos (show (3 : Int) < 3 + 1 by omega), if_pos (show (3 : Int) < run + 1 by omega)]; omega
    · rw [if_neg a, if_neg (show ¬ run < -3 by omega)]; exact ⟨hp, rfl, Int.le_refl _⟩
  have c2 : run < 0 → clip run < 0 ∧ clip (clip run - 1) = clip (run - 1) ∧ run ≤ clip run := fun hp => by
    unfold clip
    by_cases a : run < -3
    · rw [if_neg (show ¬ 3 < run by omega), if_pos a, if_neg (show ¬ (3 : Int) < -3 - 1 by omega), if_pos (show (-3 : Int) - 1 < -3 by omega), if_neg (show ¬ (3 : Int) < run - 1 by omega), if_pos (show run - 1 < -3 by omega)]; omega
    · rw [if_neg (show ¬ 3 < run by omega), if_neg a]; exact ⟨hp, rfl, Int.le_refl _⟩
  refine ⟨fun hb hp => ?_, fun hb hp => ?_, fun hb hp => ?_, fun hb hp => ?_⟩
  · obtain ⟨q1, q2, q3⟩ := c1 hp
    rw [hb, stayOn, if_pos rfl, if_neg (by omega)] at hg
    exact mk _ ((Option.some.inj hg).symm.trans q2) (by omega) (by omega) (by omega)
  · obtain ⟨q1, q2, q3⟩ := c2 hp
    rw [hb, stayOn, if_neg (by decide), if_neg (by omega)] at hg
    exact mk _ ((Option.some.inj hg).symm.trans q2) (by omega) (by omega) (by omega)
  · obtain ⟨q1, q2, q3⟩ := c2 (by omega)
    rw [hb, stayOn, if_pos rfl, if_pos q1] at hg
    by_cases a : -clip run < u.down
    · rw [if_pos a] at hg; cases hg
    · rw [if_neg a] at hg
      exact ⟨by omega, mk _ (by rw [← Option.some.inj hg]; rfl) (by omega) (by omega) (by omega)⟩
  · obtain ⟨q1, q2, q3⟩ := c1 (by omega)
    rw [hb, stayOn, if_neg (by decide), if_pos q1] at hg
    by_cases a : clip run < u.up
    · rw [if_pos a] at hg; cases hg
    · rw [if_neg a] at hg
      exact ⟨by omega, mk _ (by rw [← Option.some.inj hg]; rfl) (by omega) (by omega) (by omega)⟩
end Go.Proofs.Ytlbeecjkfakkpag
namespace Go.Proofs.Ytlbeecjkfakkpag
open Go.RowKit Go.Shelf

theorem take_sum (l : List Int) (k : Nat) (hk : k < l.length) : (l.take (k + 1)).sum = (l.take k).sum + l.getD k 0 := by
  rw [List.take_succ_eq_append_getElem hk, List.sum_append, getD_of_lt 0 hk]
  simp
theorem take_bound {us : List UnitM} {on : List Bool} {need : Int} {out : List Int} (hm : MayUs us) (h : Merit us on need out) : ∀ k, k ≤ out.length → 0 ≤ (out.take k).sum ∧ (out.take k).sum ≤ 100000 * k
  | 0, _ => by simp
  | k + 1, hk => by
    have ih := take_bound hm h k (by omega)
    have := merit_bound hm h k
    rw [take_sum out k (by omega)]
    omega
set_option maxRecDepth 100000 in
set_option maxHeartbeats 8000000 in
theorem CommitKeeps_any (HPB : BestGood) (HPM : MeritGood) (raw : List UnitM) (hours : Int) (need spare : List Int) (rv nv sv : Value) (w : World) (hx : UnitsAt w rv raw) (hn : RowAt w nv need.length 1 (ints need)) (hs : RowAt w sv spare.length 1 (ints spare))
    (hri : ∀ u ∈ raw, I7 u) (hhi : I6 hours) (hni : ∀ x ∈ need, I6 x) (hsi : ∀ x ∈ spare, I6 x) (hul : raw.length ≤ 2000000) (hnl : need.length ≤ 2000000) (hsl : spare.length ≤ 2000000) :
    Calls Try.prog 7 #[rv, .int .i64 hours, nv, sv] w fun e w' => e = .returned (.bool true) ∧ Below w.heap.size w w' := by
  have HBG := hide' HPB
  have HMG := hide' HPM
  have HX := hide' hx
  have HN := hide' hn
  have HS := hide' hs
  have HNI := hide' hni
  have HSI := hide' hsi
  have HUF := hide' (unitsFrom_any raw rv w hx hri hul)
  obtain ⟨n, hn9, hpc⟩ := picked_is hours 9 hhi (by decide) (by decide)
  have HPC := hide' hpc
  obtain ⟨ag, cg, rfl⟩ := rowAt_slice hx
  obtain ⟨an, cn, rfl⟩ := rowAt_slice hn
  obtain ⟨as', cs, rfl⟩ := rowAt_slice hs
  clear HPB HPM hx hn hs hri hhi hni hsi hpc
  go_enter Try.func7, Try.ntmps7
  go_wp2_with fail
  refine HUF.out.mono ?_
  rintro e w1 ⟨us, v1, rfl, hu1, hmay, h4, hb1⟩
  have HU1 := hide' hu1
  have HM := hide' hmay
  have HB1 := hide' hb1
  obtain ⟨a1, c1, rfl⟩ := rowAt_slice hu1
  clear hu1 hmay hb1 HUF
  go_wp2_with fail
  refine (HPC.out _).mono ?_
  rintro e w1' ⟨rfl, hw1'⟩
  rw [hw1']
  clear hw1' w1' HPC
  go_wp2_with fail
  refine (hoursFrom_any need n 200 (.slice an need.length cn) w1 (HN.out.below HB1.out (Nat.le_refl _)) HNI.out hnl (by omega) (by decide) (by decide)).mono ?_
  rintro e w2 ⟨D, v2, rfl, hdl, hdr, hr2, hb2'⟩
  have HDL := hide' hdl
  have HDR := hide' hdr
  have HR2 := hide' hr2
  have HB2 := hide' (HB1.out.trans (hb2'.mono HB1.out.size))
  have HU2 := hide' (HU1.out.below hb2' (Nat.le_refl _))
  obtain ⟨a2, c2, rfl⟩ := rowAt_slice hr2
  clear hdl hdr hr2 hb2' HB1 HU1
  go_wp2_with fail
  refine (hoursFrom_any spare n 30 (.slice as' spare.length cs) w2 (HS.out.below HB2.out (Nat.le_refl _)) HSI.out hsl (by omega) (by decide) (by decide)).mono ?_
  rintro e w3 ⟨S, v3, rfl, hsl3, hsr, hr3, hb3⟩
  have HSL := hide' hsl3
  have HSR := hide' hsr
  have HR3 := hide' hr3
  have HB3 := hide' (HB2.out.trans (hb3.mono HB2.out.size))
  have HU3 := hide' (HU2.out.below hb3 (Nat.le_refl _))
  have HR23 := hide' (HR2.out.below hb3 (Nat.le_refl _))
  obtain ⟨a3, c3, rfl⟩ := rowAt_slice hr3
  have HSC : Hid (schedC us D S = 0) := schedC_ok ⟨h4, by rw [HDL.out]; omega, by rw [HDL.out, HSL.out]⟩ HM.out ⟨HDR.out, HSR.out⟩
  have HD3 : Hid (RowAt w3 (.slice a2 n c2) D.length 1 (ints D)) := by have := HR23.out; rw [← HDL.out] at this ⊢; exact this
  have HS3 : Hid (RowAt w3 (.slice a3 n c3) S.length 1 (ints S)) := by have := HR3.out; rw [← HSL.out] at this ⊢; exact this
  have HCB := hide' (HBG.out us D S (.slice a1 us.length c1) (.slice a2 n c2) (.slice a3 n c3) w3 HU3.out HD3.out HS3.out (by omega) (by rw [HDL.out]; omega) (by rw [HSL.out]; omega))
  clear hsl3 hsr hr3 hb3 HB2 HU2 HR2 HD3 HS3
  go_wp2_with fail
  refine HCB.out.mono ?_
  intro e w6 h6
  rcases best_cases HSC.out h6 with ⟨hno, rfl, hb6⟩ | ⟨bst, ab, cb, hbs, rfl, hsb, hb6⟩
  · have HB6 := hide' (HB3.out.trans (hb6.mono HB3.out.size))
    clear hno hb6 h6 HCB
    go_wp2
    go_ret
    exact ⟨rfl, HB6.out⟩
  · have HBS := hide' hbs
    have HB6 := hide' (HB3.out.trans (hb6.mono HB3.out.size))
    have HU6 := hide' (HU3.out.below hb6 (Nat.le_refl _))
    have HD6 := hide' (HR23.out.below hb6 (Nat.le_refl _))
    have HS6 := hide' (HR3.out.below hb6 (Nat.le_refl _))
    have hbl : bst.on.length = n := by rw [hbs.way.len]; exact HDL.out
    have HSB := hide' hsb
    have HBL := hide' hbl
    have HVK : Hid (valK us D S bst.on n = .ok (bst.stay, bst.cost)) := by have := hbs.way.v; rw [HDL.out] at this; exact this
    have HRW : Hid (∀ r ∈ bst.on, r.length = us.length) := hbs.way.rows
    rw [hbl] at HSB
    rw [hbl]
    obtain ⟨bc, hbc⟩ : ∃ c, c = bst.cost := ⟨_, rfl⟩
    rw [← hbc]
    have HCELL : Hid (∀ h, h < n → ∃ bo oo a' c', (Value.slice ab n cb) = .slice (some ⟨bo, oo, none⟩) n cb ∧ w6.cell? ⟨bo, oo + h, none⟩ = some (.slice a' us.length c') ∧ RowAt w6 (.slice a' us.length c') us.length 1 ((bst.on.getD h []).map Value.bool) ∧ (bst.on.getD h []).length = us.length) := fun h hh => by
      have hh' : h < bst.on.length := by rw [hbl]; exact hh
      have hsb' := HSB.out
      rw [← hbl] at hsb'
      obtain ⟨bo, oo, co', a', c', ex, h1, h2⟩ := hsb'.cell h hh'
      rw [← getD_of_lt [] hh'] at h1 h2
      have hl : (bst.on.getD h []).length = us.length := by rw [getD_of_lt [] hh']; exact HRW.out _ (List.getElem_mem hh')
      rw [hl] at h1 h2
      rw [hbl] at ex
      cases ex
      exact ⟨bo, oo, a', c', rfl, h1, h2, hl⟩
    clear hbs hsb hb6 h6 HCB hbl hbc HB3 HU3 HR3 HR23 HBS HSB
    go_wp2_with fail
    go_loopw [16] (fun hv W => ∃ (h : Nat), hv = .int .i64 h ∧ h ≤ n ∧ Hid (Below w6.heap.size w6 W)) (fun hv _ => n - (intOf hv).toNat)
    case atStart => exact ⟨0, rfl, Nat.zero_le _, Below.refl _ w6⟩
    case round =>
      obtain ⟨h, rfl, hh, HBE⟩ := hrel
      by_cases hlt : h < n
      · obtain ⟨bo, oo, a', c', exo, hco, hro, hrl⟩ := HCELL.out h hlt
        cases exo
        obtain ⟨bd, od, cd', exd, hcd⟩ := ints_cell2 HD6.out h (by rw [HDL.out]; exact hlt)
        cases exd
        obtain ⟨bp, op, cp', exp, hcp⟩ := ints_cell2 HS6.out h (by rw [HSL.out]; exact hlt)
        cases exp
        obtain ⟨t0, cc0, l0, s0, x0, hv0, hv1, hhc, cc1, hv2⟩ := valK_hour HVK.out h hlt
        obtain ⟨out, hmer, hmo, hcst⟩ := hourC_hour HM.out hhc
        obtain ⟨r, hr⟩ : ∃ r, r = bst.on.getD h [] := ⟨_, rfl⟩
        rw [← hr] at hro hrl hmer hmo
        have hnk := HDR.out h (by rw [HDL.out]; exact hlt)
        have hsk := HSR.out h (by rw [HSL.out]; exact hlt)
        obtain ⟨nk, hnk'⟩ : ∃ x, x = D.getD h 0 := ⟨_, rfl⟩
        obtain ⟨sk, hsk'⟩ : ∃ x, x = S.getD h 0 := ⟨_, rfl⟩
        rw [← hnk'] at hcd hnk hmer hmo
        rw [← hsk'] at hcp hsk hmo
        have HMER := hide' hmer
        have HMO := hide' hmo
        have HROW := hide' hro
        have HRLN := hide' hrl
        have HCO := hide' hco
        have HCD := hide' hcd
        have HCP := hide' hcp
        have d0 := (HBE.out.cell (World.block_lt_of_cell? w6 _ hco)).trans hco
        have d1 := (HBE.out.cell (World.block_lt_of_cell? w6 _ hcd)).trans hcd
        have HCM : Hid (Calls Try.prog 8 #[.slice a1 us.length c1, .slice a' us.length c', .int .i64 nk] wr.drew (MeritAs us r nk wr.drew)) := HMG.out us r nk _ _ wr.drew (HU6.out.below HBE.out.drew (Nat.le_refl _)) (by rw [BoolsAt, hrl]; exact hro.below HBE.out.drew (Nat.le_refl _)) (by omega) (by rw [hrl]; omega)
        clear hcst hco hro hrl hcd hcp hv0 hv1 hhc hv2 hmer hmo hr hnk' hsk' t0 cc0 l0 s0 x0 cc1
        go_wp2_with fail
        refine wp_region_tail (fun W => W.cell? ⟨bo, oo + h, none⟩ = some (.slice a' us.length c') ∧ W.cell? ⟨bd, od + h, none⟩ = some (.int .i64 nk)) 14 (by kernel_rfl) ?_
        refine wpAnyD_takeAt 0 (some 62) (v := ?_) rfl (by kernel_rfl) (by kernel_rfl) (by kernel_rfl) (by kernel_rfl) (by kernel_rfl) (fun _ _ _ h => h) (by exact ⟨d0, d1⟩) (fun o hop => ?_) ?_
        rotate_left
        · injection hop with hop
          subst hop
          refine ⟨rfl, fun W hW => ?_⟩
          obtain ⟨s0, s1⟩ := hW
          go_simp
          first
          | rfl
          | rw [if_neg (by omega)]
        try simp only [Act.put, List.setIfInBounds_toArray, List.set_cons_zero, List.set_cons_succ]
        refine wpAnyD_takeAt 1 (some 63) (v := ?_) rfl (by kernel_rfl) (by kernel_rfl) (by kernel_rfl) (by kernel_rfl) (by kernel_rfl) (fun _ _ _ h => h) (by exact ⟨d0, d1⟩) (fun o hop => ?_) ?_
        rotate_left
        · injection hop with hop
          subst hop
          refine ⟨rfl, fun W hW => ?_⟩
          obtain ⟨s0, s1⟩ := hW
          go_simp
          first
          | rfl
          | rw [if_neg (by omega)]
        try simp only [Act.put, List.setIfInBounds_toArray, List.set_cons_zero, List.set_cons_succ]
        refine wpAnyD_takeAt 2 (some 64) (v := ?_) rfl (by kernel_rfl) (by kernel_rfl) (by kernel_rfl) (by kernel_rfl) (by kernel_rfl) (fun _ _ _ h => h) (by exact ⟨d0, d1⟩) (fun o hop => ?_) ?_
        rotate_left
        · injection hop with hop
          subst hop
          refine ⟨rfl, fun W hW => ?_⟩
          obtain ⟨s0, s1⟩ := hW
          go_simp
          first
          | rfl
          | rw [if_neg (by omega)]
        try simp only [Act.put, List.setIfInBounds_toArray, List.set_cons_zero, List.set_cons_succ]
        refine wpAnyD_takeAt 3 (some 65) (v := ?_) rfl (by kernel_rfl) (by kernel_rfl) (by kernel_rfl) (by kernel_rfl) (by kernel_rfl) (fun _ _ _ h => h) (by exact ⟨d0, d1⟩) (fun o hop => ?_) ?_
        rotate_left
        · injection hop with hop
          subst hop
          refine ⟨rfl, fun W hW => ?_⟩
          obtain ⟨s0, s1⟩ := hW
          go_simp
          first
          | rfl
          | rw [if_neg (by omega)]
        try simp only [Act.put, List.setIfInBounds_toArray, List.set_cons_zero, List.set_cons_succ]
        refine wpAnyD_takeAt 4 (some 66) (v := ?_) rfl (by kernel_rfl) (by kernel_rfl) (by kernel_rfl) (by kernel_rfl) (by kernel_rfl) (fun _ _ _ h => h) (by exact ⟨d0, d1⟩) (fun o hop => ?_) ?_
        rotate_left
        · injection hop with hop
          subst hop
          refine ⟨rfl, fun W hW => ?_⟩
          obtain ⟨s0, s1⟩ := hW
          go_simp
          first
          | rfl
          | rw [if_neg (by omega)]
        try simp only [Act.put, List.setIfInBounds_toArray, List.set_cons_zero, List.set_cons_succ]
        refine wpAnyD_takeAt 5 (some 67) (v := ?_) rfl (by kernel_rfl) (by kernel_rfl) (by kernel_rfl) (by kernel_rfl) (by kernel_rfl) (fun _ _ _ h => h) (by exact ⟨d0, d1⟩) (fun o hop => ?_) ?_
        rotate_left
        · injection hop with hop
          subst hop
          refine ⟨rfl, fun W hW => ?_⟩
          obtain ⟨s0, s1⟩ := hW
          go_simp
          first
          | rfl
          | rw [if_neg (by omega)]
        try simp only [Act.put, List.setIfInBounds_toArray, List.set_cons_zero, List.set_cons_succ]
        refine wpAnyD_takeAt 6 (some 68) (v := ?_) rfl (by kernel_rfl) (by kernel_rfl) (by kernel_rfl) (by kernel_rfl) (by kernel_rfl) (fun _ _ _ h => h) (by exact ⟨d0, d1⟩) (fun o hop => ?_) ?_
        rotate_left
        · injection hop with hop
          subst hop
          refine ⟨rfl, fun W hW => ?_⟩
          obtain ⟨s0, s1⟩ := hW
          go_simp
          first
          | rfl
          | rw [if_neg (by omega)]
        try simp only [Act.put, List.setIfInBounds_toArray, List.set_cons_zero, List.set_cons_succ]
        refine wpAnyD_takeAt 7 (some 69) (v := ?_) rfl (by kernel_rfl) (by kernel_rfl) (by kernel_rfl) (by kernel_rfl) (by kernel_rfl) (fun _ _ _ h => h) (by exact ⟨d0, d1⟩) (fun o hop => ?_) ?_
        rotate_left
        · injection hop with hop
          subst hop
          refine ⟨rfl, fun W hW => ?_⟩
          obtain ⟨s0, s1⟩ := hW
          go_simp
          first
          | rfl
          | rw [if_neg (by omega)]
        try simp only [Act.put, List.setIfInBounds_toArray, List.set_cons_zero, List.set_cons_succ]
        refine wpAnyD_takeAt 8 (some 70) (v := ?_) rfl (by kernel_rfl) (by kernel_rfl) (by kernel_rfl) (by kernel_rfl) (by kernel_rfl) (fun _ _ _ h => h) (by exact ⟨d0, d1⟩) (fun o hop => ?_) ?_
        rotate_left
        · injection hop with hop
          subst hop
          refine ⟨rfl, fun W hW => ?_⟩
          obtain ⟨s0, s1⟩ := hW
          go_simp
          first
          | rfl
          | rw [if_neg (by omega)]
        try simp only [Act.put, List.setIfInBounds_toArray, List.set_cons_zero, List.set_cons_succ]
        refine wpAnyT_one (i := 9) (by kernel_rfl) rfl rfl (fun K' hK => ?_)
        go_simp
        go_at_call 8
        refine HCM.out.mono ?_
        intro e w7 h7
        obtain ⟨v7, rfl, hr7, hb7⟩ := h7.2.2.2.2 h4 HRLN.out HM.out hnk out HMER.out
        rw [HMER.out.len] at hr7
        obtain ⟨a7, c7, rfl⟩ := rowAt_slice hr7
        have HR7 := hide' hr7
        have HB7 : Hid (Below wr.heap.size wr w7) := (Below.refl _ wr).drew.trans hb7
        have HB67 : Hid (Below w6.heap.size w6 w7) := HBE.out.trans (HB7.out.mono HBE.out.size)
        have e0 := (HB7.out.cell (World.block_lt_of_cell? wr _ d0)).trans d0
        have e1 := (HB7.out.cell (World.block_lt_of_cell? wr _ d1)).trans d1
        clear h7 hr7 hb7 d0 d1 HCM
        refine hK.out _ _ (fun _ => by exact ⟨e0, e1⟩) ?_
        clear hK K'
        refine wpAnyT_one (i := 10) (by kernel_rfl) rfl rfl (fun K' hK => ?_)
        go_simp
        refine hK.out _ _ (fun _ => by exact ⟨e0, e1⟩) ?_
        clear hK K'
        refine wpAnyD_takeAt 11 (some 72) (v := ?_) rfl (by kernel_rfl) (by kernel_rfl) (by kernel_rfl) (by kernel_rfl) (by kernel_rfl) (fun _ _ _ h => h) (by exact ⟨e0, e1⟩) (fun o hop => ?_) ?_
        rotate_left
        · injection hop with hop
          subst hop
          refine ⟨rfl, fun W hW => ?_⟩
          obtain ⟨s0, s1⟩ := hW
          go_simp
          first
          | rfl
          | rw [if_neg (by omega)]
        try simp only [Act.put, List.setIfInBounds_toArray, List.set_cons_zero, List.set_cons_succ]
        refine wpAnyD_takeAt 12 (some 73) (v := ?_) rfl (by kernel_rfl) (by kernel_rfl) (by kernel_rfl) (by kernel_rfl) (by kernel_rfl) (fun _ _ _ h => h) (by exact ⟨e0, e1⟩) (fun o hop => ?_) ?_
        rotate_left
        · injection hop with hop
          subst hop
          refine ⟨rfl, fun W hW => ?_⟩
          obtain ⟨s0, s1⟩ := hW
          go_simp
          first
          | rfl
          | rw [if_neg (by omega)]
        try simp only [Act.put, List.setIfInBounds_toArray, List.set_cons_zero, List.set_cons_succ]
        refine wpAnyT_one (i := 13) (by kernel_rfl) rfl rfl (fun K' hK => ?_)
        go_simp
        refine hK.out _ _ (fun _ => by exact ⟨e0, e1⟩) ?_
        clear hK K'
        refine wpAnyT_one (i := 14) (by kernel_rfl) rfl rfl (fun K' hK => ?_)
        go_simp
        refine hK.out _ _ (fun h => absurd rfl h) ?_
        clear hK K'
        refine wpAnyT_done (by kernel_rfl) ?_ _
        go_wp2_with fail
        go_loopw [19, 20, 21] (fun sv mv iv W => ∃ (i : Nat), sv = .int .i64 (out.take i).sum ∧ mv = .int .i64 (mostK us r i) ∧ iv = .int .i64 i ∧ i ≤ us.length ∧ ∃ q, W = w7.drewN q) (fun _ _ iv _ => us.length - (intOf iv).toNat)
        case atStart => exact ⟨0, rfl, rfl, rfl, Nat.zero_le _, 0, rfl⟩
        case round =>
          obtain ⟨i, rfl, rfl, rfl, hi, q, rfl⟩ := hrel
          by_cases hiu : i < us.length
          · obtain ⟨bt, ot, ct', ext, hbt, hct⟩ := row_elem (f := UnitM.cells) (fun _ => rfl) HU6.out i hiu (by decide)
            cases ext
            obtain ⟨b5, o5, c5, ex5, _, hc5⟩ := Row1.cell HROW.out i (by rw [HRLN.out]; exact hiu)
            cases ex5
            obtain ⟨b8, o8, c8, ex8, hc8⟩ := ints_cell2 HR7.out i (by rw [HMER.out.len]; exact hiu)
            cases ex8
            obtain ⟨u, hu⟩ : ∃ u, u = us[i] := ⟨_, rfl⟩
            rw [← hu] at hct
            have HK : Hid (us[i]? = some u) := by show _ = _; rw [hu]; exact List.getElem?_eq_getElem hiu
            have up : ∀ (c j : Nat) (u : Value), w6.cell? ⟨c, j, none⟩ = some u → w7.cell? ⟨c, j, none⟩ = some u := fun c j u h => (HB67.out.cell (World.block_lt_of_cell? w6 _ h)).trans h
            have g0 := up _ _ _ (hct 0 _ rfl)
            have g1 := up _ _ _ (hct 1 _ rfl)
            have g5 := up _ _ _ hc5
            rw [Nat.add_zero] at g0
            have hts := take_sum out i (by rw [HMER.out.len]; exact hiu)
            have htb := take_bound HM.out HMER.out i (by rw [HMER.out.len]; exact hi)
            have hmb := mostK_bound r HM.out i hi
            have hyb := merit_bound HM.out HMER.out i
            have hmk : mostK us r (i + 1) = mostK us r i + (if r.getD i false then u.most else 0) := by rw [mostK, HK.out]; rfl
            have hlo := HMER.out.lo i u HK.out
            have hof := HMER.out.off i
            have hmu : 0 ≤ u.most ∧ u.most ≤ 100000 := by have h1 := (HM.out i u HK.out).a; have h2 := (HM.out i u HK.out).b; have h3 := (HM.out i u HK.out).c; omega
            obtain ⟨x, hxe⟩ : ∃ x, x = r.getD i false := ⟨_, rfl⟩
            rw [← hxe] at g5 hmk hlo hof
            obtain ⟨y, hye⟩ : ∃ y, y = out.getD i 0 := ⟨_, rfl⟩
            rw [← hye] at hc8 hts hyb hlo hof
            obtain ⟨z0, hz0⟩ : ∃ z, z = u.least := ⟨_, rfl⟩
            obtain ⟨z1, hz1⟩ : ∃ z, z = u.most := ⟨_, rfl⟩
            rw [← hz0] at g0 hlo
            rw [← hz1] at g1 hlo hmk hmu
            obtain ⟨ts, hts'⟩ : ∃ s, s = (out.take i).sum := ⟨_, rfl⟩
            rw [← hts'] at hts htb ⊢
            obtain ⟨mk, hmk'⟩ : ∃ s, s = mostK us r i := ⟨_, rfl⟩
            rw [← hmk'] at hmk hmb ⊢
            have HTS := hide' hts
            have HMK := hide' hmk
            clear hct hu up hbt hc5 hxe hye hz0 hz1 hts' hmk' HK hts hmk
            cases x with
            | true =>
              obtain ⟨l1, l2⟩ := hlo rfl
              have hq1 : decide (y < z0) = false := decide_eq_false (by omega)
              have hq2 : decide (z1 < y) = false := decide_eq_false (by omega)
              clear hlo hof
              go_wp2_with fail
              go_quiet (fail)
              go_wp2
              go_roundw
              case rel => exact ⟨i + 1, by rw [HTS.out], by rw [HMK.out]; simp, by go_num, by omega, _, rfl⟩
              case measure => simp [intOf]; omega
            | false =>
              have hy0 := hof rfl
              subst hy0
              clear hlo hof
              go_wp2_with fail
              go_quiet (fail)
              go_wp2
              go_roundw
              case rel => exact ⟨i + 1, by rw [HTS.out]; simp, by rw [HMK.out]; simp, by go_num, by omega, _, rfl⟩
              case measure => simp [intOf]; omega
          · have hie : i = us.length := by omega
            have hsum : (out.take i).sum = nk := by
              rw [hie, ← HMER.out.len, List.take_length]
              have := HMER.out.sum
              omega
            have hmost : nk + sk ≤ mostK us r i := by rw [hie]; exact HMO.out
            have hmb := mostK_bound r HM.out i hi
            rw [hsum]
            obtain ⟨mk, hmk'⟩ : ∃ s, s = mostK us r i := ⟨_, rfl⟩
            rw [← hmk'] at hmost hmb ⊢
            have f1 := (HB67.out.cell (World.block_lt_of_cell? w6 _ HCD.out)).trans HCD.out
            have f2 := (HB67.out.cell (World.block_lt_of_cell? w6 _ HCP.out)).trans HCP.out
            have hq : decide (mk < nk + sk) = false := decide_eq_false (by omega)
            have HBF : Hid (∀ q, Below w6.heap.size w6 (w7.drewN q)) := fun q => below_drewN HB67.out q
            clear hie hsum hmk' e0 e1
            go_wp2_with fail
            go_quiet (fail)
            go_wp2
            go_roundw
            case rel => exact ⟨h + 1, by go_num, by omega, HBF.out _⟩
            case measure => simp [intOf]; omega
      · go_wp2_with fail
        go_loopw [22] (fun iv W => ∃ (i : Nat), iv = .int .i64 i ∧ i ≤ us.length ∧ Hid (W = wr)) (fun iv _ => us.length - (intOf iv).toNat)
        case atStart => exact ⟨0, rfl, Nat.zero_le _, rfl⟩
        case round =>
          obtain ⟨i, rfl, hi, HW⟩ := hrel
          obtain rfl := HW.out
          clear HW
          by_cases hiu : i < us.length
          · obtain ⟨bt, ot, ct', ext, hbt, hct⟩ := row_elem (f := UnitM.cells) (fun _ => rfl) HU6.out i hiu (by decide)
            cases ext
            obtain ⟨u, hu⟩ : ∃ u, u = us[i] := ⟨_, rfl⟩
            rw [← hu] at hct
            have HK : Hid (us[i]? = some u) := by show _ = _; rw [hu]; exact List.getElem?_eq_getElem hiu
            have up : ∀ (c j : Nat) (u : Value), w6.cell? ⟨c, j, none⟩ = some u → wr.cell? ⟨c, j, none⟩ = some u := fun c j u h => (HBE.out.cell (World.block_lt_of_cell? w6 _ h)).trans h
            have g4 := up _ _ _ (hct 4 _ rfl)
            have g5 := up _ _ _ (hct 5 _ rfl)
            have g6 := up _ _ _ (hct 6 _ rfl)
            have HRS : Hid (Run us D S bst.on i 0 u.was) := Run.start HM.out HK.out
            have hf := (HM.out i u HK.out).f
            have hg := (HM.out i u HK.out).g
            have HSTP : Hid (∀ h run, h < n → Run us D S bst.on i h run → _) := fun h run hh hr => Run.step HM.out HK.out HVK.out hh hr
            obtain ⟨z4, hz4⟩ : ∃ z, z = u.up := ⟨_, rfl⟩
            obtain ⟨z5, hz5⟩ : ∃ z, z = u.down := ⟨_, rfl⟩
            obtain ⟨z6, hz6⟩ : ∃ z, z = u.was := ⟨_, rfl⟩
            rw [← hz4] at g4 hf HSTP
            rw [← hz5] at g5 hg HSTP
            rw [← hz6] at g6 HRS
            clear hct hu hbt hz4 hz5 hz6
            go_wp2_with fail
            go_loopw [23, 24] (fun rv hv W => ∃ (h : Nat) (run : Int), rv = .int .i64 run ∧ hv = .int .i64 h ∧ h ≤ n ∧ Hid (Run us D S bst.on i h run) ∧ Hid (W = wr)) (fun _ hv _ => n - (intOf hv).toNat)
            case atStart => exact ⟨0, z6, rfl, rfl, Nat.zero_le _, HRS, rfl⟩
            case round =>
              obtain ⟨h, run, rfl, rfl, hh, HRU, HW⟩ := hrel
              obtain rfl := HW.out
              clear HW
              by_cases hlt2 : h < n
              · obtain ⟨bo, oo, a', c', exo, hco, hro, hrl⟩ := HCELL.out h hlt2
                cases exo
                obtain ⟨b5, o5, c5, ex5, _, hc5⟩ := Row1.cell hro i (by rw [hrl]; exact hiu)
                cases ex5
                have d0 := (HBE.out.cell (World.block_lt_of_cell? w6 _ hco)).trans hco
                have d5 := (HBE.out.cell (World.block_lt_of_cell? w6 _ hc5)).trans hc5
                have hst := HSTP.out h run hlt2 HRU.out
                have hlo := HRU.out.lo
                have hhi := HRU.out.hi
                have hne := HRU.out.ne
                obtain ⟨x, hxe⟩ : ∃ x, x = (bst.on.getD h []).getD i false := ⟨_, rfl⟩
                rw [← hxe] at d5 hst
                have HST := hide' hst
                clear hco hro hrl hc5 hxe hst
                cases x with
                | true =>
                  by_cases hrp : 0 < run
                  · have HN := hide' (HST.out.1 rfl hrp)
                    go_wp2
                    go_roundw
                    case rel => exact ⟨h + 1, run + 1, rfl, by go_num, by omega, HN, by first | rfl | trivial⟩
                    case measure => simp [intOf]; omega
                  · obtain ⟨hdn, hn2⟩ := HST.out.2.2.1 rfl (by omega)
                    have HN := hide' hn2
                    have hq : decide (0 < run) = false := decide_eq_false hrp
                    clear hn2
                    go_wp2
                    go_roundw
                    case rel => exact ⟨h + 1, 1, rfl, by go_num, by omega, HN, by first | rfl | trivial⟩
                    case measure => simp [intOf]; omega
                | false =>
                  by_cases hrp : run < 0
                  · have HN := hide' (HST.out.2.1 rfl hrp)
                    go_wp2
                    go_roundw
                    case rel => exact ⟨h + 1, run - 1, rfl, by go_num, by omega, HN, by first | rfl | trivial⟩
                    case measure => simp [intOf]; omega
                  · obtain ⟨hup, hn2⟩ := HST.out.2.2.2 rfl (by omega)
                    have HN := hide' hn2
                    have hq : decide (run < 0) = false := decide_eq_false hrp
                    clear hn2
                    go_wp2
                    go_roundw
                    case rel => exact ⟨h + 1, -1, rfl, by go_num, by omega, HN, by first | rfl | trivial⟩
                    case measure => simp [intOf]; omega
              · go_wp2
                go_roundw
                case rel => exact ⟨i + 1, by go_num, by omega, by first | rfl | trivial⟩
                case measure => simp [intOf]; omega
          · have HBF := hide' (HB6.out.trans (HBE.out.mono HB6.out.size))
            go_wp2
            go_ret
            exact ⟨rfl, HBF.out⟩
end Go.Proofs.Ytlbeecjkfakkpag
