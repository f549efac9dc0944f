/- The document's table of all releases. -/
import Derived.Test.YtnhddmcdmcpkeajZ4
import Derived.Test.YtnhddmcdmcpkeajX4
namespace Go.Proofs.Ytnhddmcdmcpkeaj
open Go.RowKit Go.Shelf

theorem steps_first (w : World) : StepsAt (w.alloc (.cells #[.slice none 0 0] 39)) w.heap.size (.slice (some ⟨w.heap.size, 0, none⟩) 1 1) [[]] := by
  refine ⟨[.slice none 0 0], rfl, ⟨rfl, .inr ⟨_, _, _, rfl, Nat.le_refl _, alloc_new w _, Nat.le_refl _, by unfold maxLen; omega, rfl, rfl⟩⟩, fun j x l hx hl => ?_⟩
  match j with
  | 0 =>
    simp at hx hl
    subst hx hl
    exact World.ownsRow_nil _ _ _ _
  | j + 1 => simp at hl
theorem StepsAt.mono {W : World} {B B' : Nat} {sv : Value} {ls : List (List Int)} (h : StepsAt W B sv ls) (hb : B' ≤ B) : StepsAt W B' sv ls := by
  obtain ⟨vals, h1, h2, h3⟩ := h
  exact ⟨vals, h1, own_mono h2 hb, fun j x l hx hl => own_mono (h3 j x l hx hl) hb⟩
set_option maxRecDepth 100000 in
set_option maxHeartbeats 4000000 in
theorem releasesOf_any (ls : List LakeM) (hok : ∀ k ∈ ls, LakeOk k) (al : Option Addr) (L cl : Nat) (w : World) (hx : RowAt w (.slice al L cl) ls.length 5 (ls.flatMap LakeM.cells)) (hl : ls.length = L) (hL : L ≤ 2) :
    Calls Try.prog 51 #[.slice al L cl] w fun e w' => ∃ v', e = .returned v' ∧ StepsAt w' w.heap.size v' (relN ls L) ∧ Below w.heap.size w w' := by
  obtain ⟨i39, hi39, h390, h391, h392⟩ := info_parts Try.info39'
  obtain ⟨i3, hi3, h30, h31, h32⟩ := info_parts Try.info3'
  have HX := hide' hx
  have HT0 := hide' (steps_first w)
  have HB0 := hide' (below_al w (.cells #[.slice none 0 0] 39))
  have HTU := hide' (fun i (hi : i < ls.length) => turb_le hok hi)
  have HRL := hide' (fun i (hi : i ≤ ls.length) => rel_len hok i hi)
  have HRC := hide' (fun i (hi : i ≤ ls.length) => rel_25 hok (by omega) hi)
  clear hx hok
  go_enter Try.func51, Try.ntmps51
  go_wp2_with fail
  obtain ⟨w1, hw1⟩ : ∃ x, x = w.alloc (.cells #[.slice none 0 0] 39) := ⟨_, rfl⟩
  rw [← hw1] at HT0 HB0 ⊢
  clear hw1
  go_loopw [3, 4] (fun ov iv wr => ∃ (i : Nat), iv = .int .i64 i ∧ i ≤ L ∧ Hid (StepsAt wr w.heap.size ov (relN ls i) ∧ Below w.heap.size w wr)) (fun _ iv _ => L - (intOf iv).toNat)
  case atStart => exact ⟨0, rfl, Nat.zero_le _, HT0.out, HB0.out⟩
  case round =>
    obtain ⟨i, rfl, hi, HW⟩ := hrel
    obtain ⟨wk, hwk⟩ : ∃ x, x = wr := ⟨_, rfl⟩
    subst hwk
    by_cases hlt : i < L
    · obtain ⟨lb, lo, rfl, _, c0, c1, c2, c3, c4⟩ := lake_cells HX.out (k := i) (by omega)
      have d3 := up_cell HW.out.2 c3
      obtain ⟨ht0, ht4⟩ := HTU.out i (by omega)
      obtain ⟨t, hte⟩ : ∃ t : Nat, (lkD ls i).turb = t := ⟨(lkD ls i).turb.toNat, by omega⟩
      have HNX : Hid (relN ls (i + 1) = (relN ls i).flatMap (rng t)) := by
        show _ = _
        rw [relN, hte]
        rfl
      rw [hte] at d3 ht4
      have ht : t ≤ 4 := by omega
      have HOC := hide' (HRC.out i (by omega))
      have HOL := hide' (HRL.out i (by omega))
      obtain ⟨O, hO⟩ : ∃ O, O = relN ls i := ⟨_, rfl⟩
      rw [← hO] at HW HNX HOC HOL
      obtain ⟨ao, co, rfl⟩ := HW.out.1.slice
      clear c0 c1 c2 c3 c4 ht0 ht4 hte hO
      go_wp2_with fail
      go_loopw [5, 6] (fun mv kv wq => ∃ (k : Nat), kv = .int .i64 k ∧ k ≤ O.length ∧ Hid (StepsAt wq wk.heap.size mv (moreL O t k 0) ∧ Below wk.heap.size wk wq)) (fun _ kv _ => O.length - (intOf kv).toNat)
      case atStart => exact ⟨0, rfl, Nat.zero_le _, by rw [more_zero]; exact StepsAt.nil _ _, Below.refl _ wk⟩
      case round =>
        obtain ⟨k, rfl, hk, HV⟩ := hrel
        obtain ⟨wq, hwq⟩ : ∃ x, x = wr := ⟨_, rfl⟩
        subst hwq
        by_cases hkl : k < O.length
        · go_wp2_with fail
          go_loopw [5, 7] (fun mv nv wp => ∃ (n : Nat), nv = .int .i64 n ∧ n ≤ t + 1 ∧ Hid (StepsAt wp wk.heap.size mv (moreL O t k n) ∧ Below wk.heap.size wk wp)) (fun _ nv _ => t + 1 - (intOf nv).toNat)
          case atStart => exact ⟨0, rfl, Nat.zero_le _, HV⟩
          case round =>
            obtain ⟨n, rfl, hn, HU⟩ := hrel
            obtain ⟨wp, hwp⟩ : ∃ x, x = wr := ⟨_, rfl⟩
            subst hwp
            have e3 := up_cell HU.out.2 d3
            by_cases hnt : n ≤ t
            · obtain ⟨b1, o1, c1, xa, xd, ex1, hc1, hr1⟩ := HW.out.1.tab.cell k hkl
              simp only [Value.slice.injEq] at ex1
              obtain ⟨rfl, hz1, rfl⟩ := ex1
              have hq1 := up_cell HU.out.2 hc1
              have HR1 := hide' (hr1.below HU.out.2 (Nat.le_refl _))
              have HLR := hide' (HOL.out O[k] (List.getElem_mem hkl))
              have HMN := hide' (more_next O t k n)
              have HML := hide' (more_len (k := k) (n := n) HOC.out ht (by omega))
              rw [show O.getD k [] = O[k] by rw [List.getD_eq_getElem?_getD, List.getElem?_eq_getElem hkl]; rfl] at HMN
              obtain ⟨r, hrq⟩ : ∃ r, r = O[k] := ⟨_, rfl⟩
              rw [← hrq] at hq1 HR1 HLR HMN
              have hrl : r.length ≤ 2 := by have := HLR.out; omega
              clear hz1 hc1 hr1 hrq
              go_wp2_with (at_builtin; refine wpList_append_any _ rfl _ _ 39 rfl wp.heap.size 3 i3 _ 1 8 Try.underlying39 hi3 h30 h31 h32 rfl (by decide) _ _ _ rfl (World.ownsRow_nil _ _ _ _) _ _ _ rfl HR1.out (ints_one r) (by unfold maxLen; omega) (by omega) (Nat.le_refl _) ?_; intro v1 x1 hown1 hgrow1; refine Still.go ?_)
              unfold Still
              have HO1 : Hid (x1.ownsRow wp.heap.size 3 1 v1 r.length (ints r)) := by
                have h := hown1
                rw [Nat.zero_add, List.nil_append] at h
                exact h
              have HB1 : Hid (Below wp.heap.size wp x1) := (Below.refl _ wp).grown hgrow1 (Nat.le_refl _) (fun k e => by cases e)
              obtain ⟨oa, oc, hoe⟩ := own_slice HO1.out
              subst hoe
              clear hown1 hgrow1 HR1 hq1
              go_wp2_with (at_builtin; refine wpList_append_own _ rfl _ _ 39 rfl wp.heap.size 3 i3 (.int .i64 0) 1 8 Try.underlying39 hi3 h30 h31 h32 rfl (by decide) _ _ _ rfl (own_below HO1.out (below_al _ _) (Nat.le_refl _)) ⟨x1.heap.size, 0, none⟩ 1 1 [.int .i64 n] rfl rfl (cell_one_new _ _ _) (one_cell rfl) (by unfold maxLen; omega) (by omega) (Nat.le_trans HB1.out.size (below_al _ _).size) ?_; intro v2 w8 hown2 hgrow2 _; refine Still.go ?_)
              unfold Still
              have HO2 : Hid (w8.ownsRow wp.heap.size 3 1 v2 (r ++ [(n : Int)]).length (ints (r ++ [(n : Int)]))) := by
                have h := hown2
                rw [List.length_append]
                unfold ints at h ⊢
                rw [List.map_append]
                exact h
              have HB2 : Hid (Below wp.heap.size wp w8) := (HB1.out.alloc HB1.out.size _).grown hgrow2 (Nat.le_trans HB1.out.size (below_al _ _).size) (own_at HO1.out)
              obtain ⟨pa, pc, hpe⟩ := own_slice HO2.out
              subst hpe
              have HOV := hide' (own_mono HO2.out HU.out.2.size)
              have HS2 : Hid (StepsAt w8 wk.heap.size u5 (moreL O t k n) ∧ Below wk.heap.size wk w8) := ⟨HU.out.1.below HB2.out, HU.out.2.trans (HB2.out.mono HU.out.2.size)⟩
              obtain ⟨vals, hvl, hva, hvr⟩ := HS2.out.1
              have HVA := hide' (And.intro hvl (And.intro hva hvr))
              obtain ⟨rn, hrn⟩ : ∃ x, x = r ++ [(n : Int)] := ⟨_, rfl⟩
              rw [← hrn] at HOV HMN ⊢
              clear hown2 hgrow2 hvl hva hvr HO1 HB1 HO2 HB2 HU hrn
              go_wp2_with (at_builtin; refine wpList_append_own _ rfl _ _ 51 rfl wk.heap.size 39 i39 (.slice none 0 0) 1 24 Try.underlying51 hi39 h390 h391 h392 rfl (by decide) _ _ _ rfl (own_below HVA.out.2.1 (below_al _ _) (Nat.le_refl _)) ⟨w8.heap.size, 0, none⟩ 1 1 [.slice pa rn.length pc] rfl rfl (cell_one_new _ _ _) (one_cell rfl) (by have := HML.out; unfold maxLen; omega) (by have := HML.out; omega) (Nat.le_trans HS2.out.2.size (below_al _ _).size) ?_; intro v' w9 hown' hgrow _; refine Still.go ?_)
              unfold Still
              have HNS : Hid (StepsAt w9 wk.heap.size v' (moreL O t k (n + 1)) ∧ Below wk.heap.size wk w9) := ⟨by rw [← HMN.out]; exact StepsAt.more HVA.out.1 HVA.out.2.1 HVA.out.2.2 HOV.out hown' rfl hgrow, (HS2.out.2.trans ((below_al _ _).mono HS2.out.2.size)).grown hgrow (Nat.le_trans HS2.out.2.size (below_al _ _).size) (own_at HVA.out.2.1)⟩
              clear hown' hgrow HVA HOV HS2
              go_wp2_with fail
              go_roundw
              case rel => exact ⟨n + 1, by go_num, by omega, HNS⟩
              case measure => simp [intOf]; omega
            · have HE : Hid (StepsAt wp wk.heap.size u5 (moreL O t (k + 1) 0) ∧ Below wk.heap.size wk wp) := by
                refine ⟨?_, HU.out.2⟩
                rw [← more_row hkl, show t + 1 = n by omega]
                exact HU.out.1
              have hk25 : k < 25 := by have := HOC.out; omega
              go_wp2_with fail
              go_roundw
              case rel => exact ⟨k + 1, by go_num, by omega, HE⟩
              case measure => simp [intOf]; omega
        · have HE : Hid (StepsAt wq w.heap.size u5 (relN ls (i + 1)) ∧ Below w.heap.size w wq) := by
            refine ⟨?_, HW.out.2.trans (HV.out.2.mono HW.out.2.size)⟩
            rw [HNX.out, ← more_all, show O.length = k by omega]
            exact HV.out.1.mono HW.out.2.size
          go_wp2_with fail
          go_roundw
          case rel => exact ⟨i + 1, by go_num, by omega, HE⟩
          case measure => simp [intOf]; omega
    · have HF : Hid (StepsAt wk w.heap.size u3 (relN ls L) ∧ Below w.heap.size w wk) := by
        have h := HW.out
        rw [show i = L by omega] at h
        exact h
      go_wp2
      go_ret
      exact ⟨_, rfl, HF.out⟩
end Go.Proofs.Ytnhddmcdmcpkeaj
