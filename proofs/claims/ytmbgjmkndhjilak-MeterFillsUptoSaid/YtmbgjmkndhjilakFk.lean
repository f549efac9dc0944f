/- Numbers as rows of digits: divided. -/
import Derived.Test.YtmbgjmkndhjilakFj
namespace Go.Proofs.Ytmbgjmkndhjilak
open Go.RowKit Go.Shelf

theorem cmp_neg {a b : Nat} : cmpN a b < 0 ↔ a < b := by
  unfold cmpN
  split
  · omega
  · split <;> omega
theorem cmp_le {a b : Nat} : cmpN a b ≤ 0 ↔ a ≤ b := by
  unfold cmpN
  split
  · omega
  · split <;> omega
theorem one_own (wr : World) (x : Nat) (B : Nat) (hB : B ≤ wr.heap.size) : (wr.alloc (.cells #[.int .i64 (x : Int)] 3)).ownsRow B 3 1 (.slice (some ⟨wr.heap.size, 0, none⟩) 1 1) 1 (ints (dg [x])) := ints_own (l := dg [x]) (alloc_new wr _) hB rfl (by decide)
theorem Num.parts {w : World} {v : Value} {n : Nat} (h : Num w v n) (hn : Small n) : ∃ l a c, Canon l ∧ valN l = n ∧ v = .slice a l.length c ∧ RowAt w (.slice a l.length c) l.length 1 (ints (dg l)) ∧ l.length ≤ 100 := by
  obtain ⟨l, h1, h2, h3, h4⟩ := h.short hn
  obtain ⟨a, c, rfl⟩ := rowAt_slice h3
  exact ⟨l, a, c, h1, h2, rfl, h3, h4⟩
theorem own_ltF {w : World} {B e sz n g : Nat} {v : Value} {xs : List Value} (h : w.ownsRow B e sz v n xs) (hg : v.ownBlock = some g) : g < w.heap.size := by
  rcases h.2 with ⟨rfl, _⟩ | ⟨g', cp, cur, rfl, _, hh, _⟩
  · cases hg
  · cases hg
    exact (Array.getElem?_eq_some_iff.1 hh).1
theorem nil_rowF (W : World) : RowAt W (.slice none 0 0) 0 1 (ints (dg [])) := ⟨rfl, none, 0, rfl, fun j u h => by simp [ints, dg] at h⟩
set_option maxRecDepth 100000 in
set_option maxHeartbeats 8000000 in
theorem natDiv_row (a : List Nat) (ha : Dgs a) (b : Nat) (hb : 0 < b) (hbs : Small (b * 10000)) (u v : Value) (w : World) (hu : RowAt w u a.length 1 (ints (dg a))) (hv : Num w v b) (hn : a.length ≤ 100) : Calls Try.prog 83 #[u, v] w (DivR (valN a) b w) := by
  obtain ⟨i3, hi3, h30, h31, h32⟩ := info_parts Try.info3'
  have HU := hide' hu
  have HV := hide' hv
  have HBS := hide' hbs
  obtain ⟨au, cu, rfl⟩ := rowAt_slice hu
  obtain ⟨av, kv, cv, rfl⟩ := hv.slice
  clear hu hv hbs
  go_enter Try.func83, Try.ntmps83
  go_wp2_with (at_make; refine wpList_make_full _ rfl _ _ 23 rfl w.heap.size 3 i3 (.int .i64 0) 1 Try.underlying23 hi3 h30 h31 .i64 .i64 _ _ a.length rfl rfl rfl rfl (by rw [h32]; omega) (by unfold maxLen; omega) (Nat.le_refl _) ?_; intro w1 hown hgr; refine Still.go ?_)
  unfold Still
  obtain ⟨G, hG⟩ : ∃ x, x = w.heap.size := ⟨_, rfl⟩
  rw [← hG] at hown ⊢
  have HG : Hid (w.heap.size ≤ G ∧ G < w1.heap.size) := ⟨by omega, own_ltF hown rfl⟩
  have HO : Hid (OutAt w G (List.replicate a.length 0) w1) := by
    show OutAt _ _ _ _
    refine ⟨?_, (Below.refl _ w).grown hgr (Nat.le_refl _) (fun k e => by cases e)⟩
    rw [List.length_replicate, ← dg_zero, ← made_int]
    rw [← hG]
    exact hown
  clear hown hgr hG
  go_wp2_with fail
  go_loopw [7, 8] (fun rv iv wr => ∃ (k r : Nat) (qs : List Nat), iv = .int .i64 ((k : Int) - 1) ∧ k ≤ a.length ∧ Hid (DivI a qs b k r) ∧ Hid (OutAt w G qs wr ∧ G < wr.heap.size) ∧ Hid (Num wr rv r ∧ Fresh (G + 1) rv)) (fun _ iv _ => (intOf iv + 1).toNat)
  case atStart => exact ⟨a.length, 0, _, rfl, Nat.le_refl _, DivI.first a hb, ⟨HO.out, HG.out.2⟩, ⟨[], canon_nil, rfl, nil_rowF _⟩, fun b off k c h => (by cases h)⟩
  case round =>
    clear HO
    obtain ⟨k, r, qs, rfl, hk, HD, HO, HN⟩ := hrel
    by_cases h0 : k = 0
    · subst h0
      have HQ := hide' HD.out.fin
      have HTR := hide' (trim_any qs HD.out.dg (some ⟨G, 0, none⟩) qs.length (Nat.le_refl _) (by rw [HD.out.len]; omega) wr (rowAt_of_own HO.out.1.1))
      rw [HD.out.len, HQ.out.1] at HTR
      have HRE := hide' HN.out.1
      rw [HQ.out.2] at HRE
      have HBW := hide' HO.out.1.2
      clear HD HO HN HQ
      go_wp2_with fail
      refine HTR.out.mono ?_
      rintro e z ⟨v1, rfl, hz1, hz2⟩
      have HZ : Hid (Num z v1 (valN a / b) ∧ Below w.heap.size w z) := ⟨hz1, HBW.out.trans (hz2.mono HBW.out.size)⟩
      have HRZ := hide' (HRE.out.below hz2 (Nat.le_refl _))
      clear hz1 hz2 HTR HRE HBW
      go_wp2
      first
      | (go_ret2
         exact ⟨_, _, rfl, HZ.out.1, HRZ.out, HZ.out.2⟩)
      | (go_ret
         exact ⟨_, _, rfl, HZ.out.1, HRZ.out, HZ.out.2⟩)
    · obtain ⟨m, rfl⟩ : ∃ m, k = m + 1 := ⟨k - 1, by omega⟩
      rw [show ((m + 1 : Nat) : Int) - 1 = (m : Int) by omega]
      have hr1 := HD.out.r1
      have HSB : Hid (Small b) := HBS.out.le (Nat.le_mul_of_pos_right _ (by decide))
      obtain ⟨lr, ra, rc, hcan, hval, hrv, hrow, hlen⟩ := HN.out.1.parts (HSB.out.le (Nat.le_of_lt hr1))
      subst hrv
      obtain ⟨b1, o1, c1, ex1, hc1⟩ := dg_cell HU.out m (by omega)
      cases ex1
      have e1 := up_cell HO.out.1.2 hc1
      have hx1 := dgs_get ha m
      obtain ⟨x, HX⟩ : ∃ x, Hid (x = a.getD m 0) := ⟨_, rfl⟩
      rw [← HX.out] at e1 hx1
      have HRW := hide' hrow
      have HLR : Hid (Dgs (x :: lr) ∧ valN (x :: lr) = x + 10000 * r) := ⟨fun d hd => by rcases List.mem_cons.1 hd with q | q; exact q ▸ hx1; exact hcan.dg d q, by rw [valN, hval]⟩
      clear hc1 hrow hcan hval h0
      go_wp2_with (at_builtin; refine wpList_append_any _ rfl _ _ 23 rfl wr.heap.size 3 i3 (.int .i64 0) 1 8 Try.underlying23 hi3 h30 h31 h32 rfl (by decide) _ _ _ rfl (one_own wr x _ (Nat.le_refl _)) _ _ _ rfl (HRW.out.below (below_al wr (.cells #[.int .i64 (x : Int)] 3)) (Nat.le_refl _)) (ints_one _) (by unfold maxLen; omega) (by omega) (below_al wr (.cells #[.int .i64 (x : Int)] 3)).size ?_; intro v1 x1 hown1 hgrow1; refine Still.go ?_)
      unfold Still
      have HB1 : Hid (Below wr.heap.size wr x1) := ((Below.refl _ wr).trans (below_al wr (.cells #[.int .i64 (x : Int)] 3))).grown hgrow1 (below_al wr (.cells #[.int .i64 (x : Int)] 3)).size (own_at (one_own wr x _ (Nat.le_refl _)))
      have hown2 : x1.ownsRow wr.heap.size 3 1 v1 (x :: lr).length (ints (dg (x :: lr))) := by
        have e : (x :: lr).length = 1 + lr.length := by rw [List.length_cons, Nat.add_comm]
        rw [e]
        exact hown1
      obtain ⟨va, vc, hve⟩ := own_slice hown2
      subst hve
      obtain ⟨R, HR⟩ : ∃ R, Hid (R = x + 10000 * r) := ⟨_, rfl⟩
      have HTR := hide' (trim_at (x :: lr) HLR.out.1 va vc (own_cap hown2) (by rw [List.length_cons]; omega) x1 (rowAt_of_own hown2))
      rw [HLR.out.2, ← HR.out, List.length_cons] at HTR
      have HFR : Hid (∀ k', Fresh (G + 1) (.slice va k' vc)) := fun k' b off q c hq => Nat.le_trans HO.out.2 (own_fresh hown2 (k' := k') (c' := vc) b off q c hq)
      have HRR : Hid (R = a.getD m 0 + 10000 * r) := by show _ = _; rw [HR.out, HX.out]
      have hRB : R < b * 10000 := by have := HR.out; omega
      have HO1 : Hid (OutAt w G qs x1 ∧ G < x1.heap.size) := ⟨HO.out.1.below HB1.out, Nat.lt_of_lt_of_le HO.out.2 HB1.out.size⟩
      clear hown1 hown2 hgrow1 HLR HRW HN HR HX HO HB1
      go_wp2_with fail
      refine HTR.out.mono ?_
      rintro e z ⟨kk, rfl, hz, hzz⟩
      rw [hzz] at hz ⊢
      have HN1 : Hid (Num x1 (.slice va kk vc) R ∧ Fresh (G + 1) (.slice va kk vc)) := ⟨hz, HFR.out _⟩
      have HSR : Hid (Small R) := HBS.out.le (Nat.le_of_lt hRB)
      have HCM := hide' (natCmp_num hz (HV.out.below HO1.out.1.2 (Nat.le_refl _)) HSR.out HSB.out)
      clear hz hzz HTR HFR
      go_wp2_with fail
      refine HCM.out.mono ?_
      rintro e w2 ⟨rfl, hb2⟩
      have HO2 : Hid (OutAt w G qs w2 ∧ G < w2.heap.size) := ⟨HO1.out.1.below hb2, Nat.lt_of_lt_of_le HO1.out.2 hb2.size⟩
      have HN2 : Hid (Num w2 (.slice va kk vc) R ∧ Fresh (G + 1) (.slice va kk vc)) := ⟨HN1.out.1.below hb2 (Nat.le_refl _), HN1.out.2⟩
      clear hb2 HCM HO1 HN1
      by_cases hlt : R < b
      · rw [cmp_lt hlt]
        have HNX := hide' (HD.out.no (by omega) HRR.out hlt)
        clear HD HRR hRB
        go_wp2_with fail
        go_roundw
        case rel => exact ⟨m, R, qs, by go_num, by omega, HNX.out, HO2.out, HN2.out⟩
        case measure => simp only [intOf]; omega
      · obtain ⟨cc, HCC⟩ : ∃ cc, Hid (cc = cmpN R b) := ⟨_, rfl⟩
        have hcc : ¬ cc < 0 := by rw [HCC.out, cmp_neg]; exact hlt
        rw [← HCC.out]
        clear HCC
        go_wp2_with fail
        go_loopw [9, 10] (fun lv hv wr => ∃ (lo hi : Nat), lv = .int .i64 lo ∧ hv = .int .i64 hi ∧ lo ≤ hi ∧ hi ≤ 9999 ∧ Hid (b * lo ≤ R ∧ R < b * (hi + 1)) ∧ Hid (Below w2.heap.size w2 wr)) (fun lv hv _ => (intOf hv).toNat - (intOf lv).toNat)
        case atStart => exact ⟨0, 9999, rfl, rfl, by omega, by omega, ⟨by omega, hRB⟩, Below.refl _ w2⟩
        case round =>
          clear hcc
          obtain ⟨lo, hi, rfl, rfl, hlh, hh9, HBD, HBE⟩ := hrel
          have HO3 : Hid (OutAt w G qs wr ∧ G < wr.heap.size) := ⟨HO2.out.1.below HBE.out, Nat.lt_of_lt_of_le HO2.out.2 HBE.out.size⟩
          have HN3 : Hid (Num wr (.slice va kk vc) R ∧ Fresh (G + 1) (.slice va kk vc)) := ⟨HN2.out.1.below HBE.out (Nat.le_refl _), HN2.out.2⟩
          have HV3 := hide' (HV.out.below HO3.out.1.2 (Nat.le_refl _))
          by_cases hl : lo < hi
          · obtain ⟨mid, hmid⟩ : ∃ mid, mid = (lo + hi + 1) / 2 := ⟨_, rfl⟩
            have HM : Hid (((lo : Int) + (hi : Int) + 1) / 2 = (mid : Int)) := by show _ = _; omega
            have hm1 : lo < mid ∧ mid ≤ hi := by omega
            have HSC := hide' (natScale_num mid HV3.out HSB.out (by omega))
            clear hmid HO3
            go_wp2_with fail
            rw [HM.out]
            refine HSC.out.mono ?_
            rintro e w4 ⟨v4, rfl, hn4, hb4⟩
            obtain ⟨a4, k4, c4, rfl⟩ := hn4.slice
            have HC2 := hide' (natCmp_num hn4 (HN3.out.1.below hb4 (Nat.le_refl _)) (HBS.out.le (Nat.mul_le_mul_left _ (by omega))) HSR.out)
            have HB4 : Hid (Below w2.heap.size w2 w4) := HBE.out.trans (hb4.mono HBE.out.size)
            clear hn4 hb4 HSC HBE HN3 HV3
            go_wp2_with fail
            refine HC2.out.mono ?_
            rintro e w5 ⟨rfl, hb5⟩
            have HB5 : Hid (Below w2.heap.size w2 w5) := HB4.out.trans (hb5.mono HB4.out.size)
            clear hb5 HC2 HB4
            obtain ⟨cd, HCD⟩ : ∃ cd, Hid (cd = cmpN (b * mid) R) := ⟨_, rfl⟩
            rw [← HCD.out]
            by_cases hle : b * mid ≤ R
            · have hcd : cd ≤ 0 := by rw [HCD.out, cmp_le]; exact hle
              have HBD2 : Hid (b * mid ≤ R ∧ R < b * (hi + 1)) := ⟨hle, HBD.out.2⟩
              clear HCD HBD
              go_wp2_with fail
              go_roundw
              case rel => exact ⟨mid, hi, rfl, rfl, by omega, by omega, HBD2.out, HB5.out⟩
              case measure => simp only [intOf]; omega
            · have hcd : ¬ cd ≤ 0 := by rw [HCD.out, cmp_le]; exact hle
              have HBD2 : Hid (b * lo ≤ R ∧ R < b * (mid - 1 + 1)) := ⟨HBD.out.1, by rw [show mid - 1 + 1 = mid by omega]; omega⟩
              have HM1 : Hid ((mid : Int) - 1 = ((mid - 1 : Nat) : Int)) := by show _ = _; omega
              clear HCD HBD
              go_wp2_with fail
              go_roundw
              case rel => exact ⟨lo, mid - 1, rfl, by rw [← HM1.out]; try rfl, by omega, by omega, HBD2.out, HB5.out⟩
              case measure => simp only [intOf]; omega
          · obtain rfl : lo = hi := by omega
            have hlo : 0 < lo := by
              apply Nat.pos_of_ne_zero
              intro q
              have := HBD.out.2
              rw [q, Nat.zero_add, Nat.mul_one] at this
              omega
            have HNX := hide' (HD.out.yes ha (by omega) HRR.out HBD.out.1 HBD.out.2)
            have hmq : m < qs.length := by rw [HD.out.len]; omega
            obtain ⟨e3, f3⟩ := HO3.out.1.cell hmq
            have HO4 := hide' (HO3.out.1.set hmq lo)
            have HN4 := hide' (HN3.out.1.setOut (G := G) (p := m) (x := .int .i64 (lo : Int)) (fun b off k c h => by have := HN3.out.2 b off k c h; omega))
            have HSZ : Hid (G < (wr.setCell ⟨G, m, none⟩ (.int .i64 (lo : Int))).heap.size) := by show _ < _; rw [World.size_setCell]; exact HO3.out.2
            have HV4 := hide' (HV.out.below HO4.out.2 (Nat.le_refl _))
            have HSC := hide' (natScale_num lo HV4.out HSB.out (by omega))
            clear HD HRR hmq HO3 HN3 HV3 HBE HO2 HN2
            go_wp2_with fail
            refine HSC.out.mono ?_
            rintro e w4 ⟨v4, rfl, hn4, hb4⟩
            obtain ⟨a4, k4, c4, rfl⟩ := hn4.slice
            have HSU := hide' (natSub_num (HN4.out.below hb4 (Nat.le_refl _)) hn4 HSR.out HBD.out.1)
            have HO5 : Hid (OutAt w G (qs.set m lo) w4 ∧ G < w4.heap.size) := ⟨HO4.out.below hb4, Nat.lt_of_lt_of_le HSZ.out hb4.size⟩
            clear hn4 hb4 HSC HN4 HO4 HSZ e3 f3 HV4
            go_wp2_with fail
            refine HSU.out.mono ?_
            rintro e w5 ⟨v5, rfl, hn5, hf5, hb5⟩
            have HO6 : Hid (OutAt w G (qs.set m lo) w5 ∧ G < w5.heap.size) := ⟨HO5.out.1.below hb5, Nat.lt_of_lt_of_le HO5.out.2 hb5.size⟩
            have HN6 : Hid (Num w5 v5 (R - b * lo) ∧ Fresh (G + 1) v5) := ⟨hn5, fun b off k c h => Nat.le_trans HO5.out.2 (hf5 b off k c h)⟩
            clear hn5 hf5 hb5 HSU HO5
            go_wp2_with fail
            go_roundw
            case rel => exact ⟨m, R - b * lo, qs.set m lo, by go_num, by omega, HNX.out, HO6.out, HN6.out⟩
            case measure => simp only [intOf]; omega
end Go.Proofs.Ytmbgjmkndhjilak
