/- What each unit generates, in the program: the walk. -/
import Derived.Test.YtlbeecjkfakkpagE7
namespace Go.Proofs.Ytlbeecjkfakkpag
open Go.RowKit Go.Shelf

structure MSt (w W : World) (A F : Nat) (lv rv : Value) (l : List Int) : Prop where
  st : LSt w W F l
  box : W.heap[A]? = some (.cells #[lv, rv] 54 (0, 0))
  ne : A ≠ F
  sF : F < W.heap.size
  sA : A < W.heap.size
theorem MSt.alloc {w W : World} {A F : Nat} {lv rv : Value} {l : List Int} (h : MSt w W A F lv rv l) (o : Obj) : MSt w (W.alloc o) A F lv rv l :=
  ⟨⟨(alloc_old W o h.sF).trans h.st.hF, h.st.bel.alloc h.st.bel.size o, h.st.hle⟩, (alloc_old W o h.sA).trans h.box, h.ne, by have := h.sF; simp; omega, by have := h.sA; simp; omega⟩
theorem MSt.set {w W : World} {A F : Nat} {lv rv : Value} {l : List Int} (h : MSt w W A F lv rv l) (v : Nat) (x : Int) : MSt w (W.setCell ⟨F, v, none⟩ (.int .i64 x)) A F lv rv (l.set v x) :=
  ⟨h.st.set v x, (Below.heap_setCell W _ _ A h.ne).trans h.box, h.ne, by simpa using h.sF, by simpa using h.sA⟩
theorem MSt.drewN {w W : World} {A F : Nat} {lv rv : Value} {l : List Int} (h : MSt w W A F lv rv l) (q : Nat) : MSt w (W.drewN q) A F lv rv l := ⟨h.st.drewN q, h.box, h.ne, h.sF, h.sA⟩
theorem cell_new7 (W : World) (a b c d e f g : Value) (t : Nat) (j : Nat) (u : Value) (hj : #[a, b, c, d, e, f, g][j]? = some u) : (W.alloc (.cells #[a, b, c, d, e, f, g] t)).cell? ⟨W.heap.size, j, none⟩ = some u := by
  simp only [World.cell?, alloc_new]
  exact hj
theorem natsI_getD {d : Array Nat} {p : Nat} (h : p < d.size) : (natsI d).getD p 0 = ((d[p]! : Nat) : Int) := by
  rw [natsI, List.getD_eq_getElem?_getD, List.getElem?_map, Array.getElem?_toList, Array.getElem?_eq_getElem h, getElem!_pos d p h]
  rfl
/-- What merit answers. -/
def MeritO (us : List UnitM) (on : List Bool) (need : Int) (w : World) (e : Ending) (w' : World) : Prop :=
  (∃ out v, Merit us on need out ∧ e = .returned (.tuple #[v, .int .i64 0]) ∧ RowAt w' v out.length 1 (ints out) ∧ Below w.heap.size w w') ∨
  ((∀ out, ¬ Merit us on need out) ∧ e = .returned (.tuple #[.slice none 0 0, .int .i64 8]) ∧ Below w.heap.size w w')
set_option maxRecDepth 100000 in
set_option maxHeartbeats 4000000 in
theorem merit_any (us : List UnitM) (on : List Bool) (need : Int) (d : Array Nat) (lv rv ov : Value) (w : World) (hx : UnitsAt w lv us) (hr : RowAt w rv us.length 1 (ints (natsI d))) (hd : Rk (costN us) us.length us.length d) (ho : RowAt w ov us.length 1 (on.map Value.bool)) (hl : on.length = us.length) (h4 : us.length ≤ 4) (hm : MayUs us) (h0 : 0 ≤ need) (h1 : need ≤ 400000) :
    Calls Try.prog 27 #[.agg #[lv, rv], ov, .int .i64 need] w (MeritO us on need w) := by
  obtain ⟨i0, hi0, hzz0, hzz1, hzz2⟩ := info_parts Try.info3
  have HG := hide' hx
  have HR := hide' hr
  have HD := hide' hd
  have HO := hide' ho
  have HL := hide' hl
  have HM := hide' hm
  obtain ⟨ag, cg, rfl⟩ := rowAt_slice hx
  obtain ⟨ar, cr, rfl⟩ := rowAt_slice hr
  obtain ⟨ao, co, rfl⟩ := rowAt_slice ho
  clear hx hr hd ho hl hm
  go_enter Try.func27, Try.ntmps27
  go_wp2_with (at_make; refine wpList_make_full _ rfl _ _ 24 rfl (w.heap.size + 1) 3 i0 (.int .i64 0) 1 Try.underlying24 hi0 hzz0 hzz1 .i64 .i64 _ _ us.length rfl rfl rfl rfl (by rw [hzz2]; omega) (by unfold maxLen; omega) (by simp) ?_; intro w2 hown1 hgr; refine Still.go ?_)
  unfold Still
  obtain ⟨A, hAe⟩ : ∃ A, A = w.heap.size := ⟨_, rfl⟩
  obtain ⟨F, hFe⟩ : ∃ F, F = w.heap.size + 1 := ⟨_, rfl⟩
  have hbx : (w.alloc (.cells #[.slice ag us.length cg, .slice ar us.length cr] 54)).heap[w.heap.size]? = some (.cells #[.slice ag us.length cg, .slice ar us.length cr] 54 (0, 0)) := alloc_new _ _
  have hba := (Below.refl w.heap.size w).alloc (Nat.le_refl _) (.cells #[.slice ag us.length cg, .slice ar us.length cr] 54)
  have HST : Hid (MSt w w2 A F (.slice ag us.length cg) (.slice ar us.length cr) (leastK us on 0)) := by
    have h1 := row_of_own hown1
    rw [made_zero, World.size_alloc] at h1
    have hb2 : Below (w.heap.size + 1) (w.alloc (.cells #[.slice ag us.length cg, .slice ar us.length cr] 54)) w2 := (Below.refl _ _).grown hgr (by simp) (fun k e => by cases e)
    rw [hFe, hAe]
    refine ⟨⟨by rw [h1, leastK, ints, List.map_replicate], hba.trans (hb2.mono (by omega)), by omega⟩, (hb2.block _ (by omega)).trans hbx, by omega, (Array.getElem?_eq_some_iff.1 h1).1, ?_⟩
    have := (Array.getElem?_eq_some_iff.1 h1).1
    omega
  rw [← hFe, ← hAe]
  clear hown1 hgr hFe hAe hbx hba
  have c0 : w2.cell? ⟨A, 0, none⟩ = some (.slice ag us.length cg) := by simp [World.cell?, HST.out.box]
  go_wp2_with fail
  clear c0
  go_loopw [2, 21] (fun lv i wr => ∃ (k : Nat), i = .int .i64 k ∧ k ≤ us.length ∧ lv = .int .i64 (need - (leastK us on k).sum) ∧ Hid (MSt w wr A F (.slice ag us.length cg) (.slice ar us.length cr) (leastK us on k))) (fun _ i _ => us.length - (intOf i).toNat)
  case atStart => exact ⟨0, rfl, Nat.zero_le _, by have := leastK_sum on HM.out 0 (Nat.zero_le _); rw [show (leastK us on 0).sum = 0 by omega, Int.sub_zero], HST⟩
  case round =>
    clear HST
    obtain ⟨k, rfl, hk, rfl, HST⟩ := hrel
    by_cases hlt : k < us.length
    · obtain ⟨bt, ot, ct', ex, hbt, hct⟩ := row_elem (f := UnitM.cells) (fun _ => rfl) HG.out k hlt (by decide)
      cases ex
      obtain ⟨bp, op, cp', exp, hbp, hcp⟩ := Row1.cell HO.out k (by rw [HL.out]; exact hlt)
      cases exp
      obtain ⟨u, hu⟩ : ∃ u, u = us[k] := ⟨_, rfl⟩
      rw [← hu] at hct
      have HK : Hid (us[k]? = some u) := by show _ = _; rw [hu]; exact List.getElem?_eq_getElem hlt
      have d0 := HST.out.st.up (hct 0 _ rfl)
      rw [Nat.add_zero] at d0
      have d1 := HST.out.st.up (hct 1 _ rfl)
      have d2 := HST.out.st.up (hct 2 _ rfl)
      have d3 := HST.out.st.up (hct 3 _ rfl)
      have d4 := HST.out.st.up (hct 4 _ rfl)
      have d5 := HST.out.st.up (hct 5 _ rfl)
      have d6 := HST.out.st.up (hct 6 _ rfl)
      have HD5 := hide' hcp
      obtain ⟨b, hb⟩ : ∃ b, b = on.getD k false := ⟨_, rfl⟩
      rw [← hb] at HD5
      obtain ⟨x0, hx0⟩ : ∃ x, x = u.least := ⟨_, rfl⟩
      rw [← hx0] at d0
      have hs := leastK_sum on HM.out k hk
      have hmu := HM.out k u HK.out
      have hxa : 0 ≤ x0 ∧ x0 ≤ 100000 := by have h1 := hmu.a; have h2 := hmu.b; have h3 := hmu.c; omega
      obtain ⟨sk, hsk⟩ : ∃ s, s = (leastK us on k).sum := ⟨_, rfl⟩
      rw [← hsk] at hs ⊢
      have HLK : Hid (b = true → leastK us on (k + 1) = (leastK us on k).set k x0 ∧ (leastK us on (k + 1)).sum = sk + x0) := fun h => by
        have e1 : leastK us on (k + 1) = (leastK us on k).set k x0 := by rw [leastK, ← hb, h, HK.out, hx0]; rfl
        refine ⟨e1, ?_⟩
        rw [e1, sum_set _ _ _ (by rw [leastK_len]; exact hlt), leastK_later us on k k (Nat.le_refl _), hsk]
        omega
      have HLN : Hid (b = false → leastK us on (k + 1) = leastK us on k) := fun h => by rw [leastK, ← hb, h]; rfl
      have HSK := hide' hsk
      obtain ⟨x1, hx1⟩ : ∃ x, x = u.most := ⟨_, rfl⟩
      obtain ⟨x2, hx2⟩ : ∃ x, x = u.cost := ⟨_, rfl⟩
      obtain ⟨x3, hx3⟩ : ∃ x, x = u.start := ⟨_, rfl⟩
      obtain ⟨x4, hx4⟩ : ∃ x, x = u.up := ⟨_, rfl⟩
      obtain ⟨x5, hx5⟩ : ∃ x, x = u.down := ⟨_, rfl⟩
      obtain ⟨x6, hx6⟩ : ∃ x, x = u.was := ⟨_, rfl⟩
      rw [← hx1] at d1
      rw [← hx2] at d2
      rw [← hx3] at d3
      rw [← hx4] at d4
      rw [← hx5] at d5
      rw [← hx6] at d6
      clear hct hu hbt hbp hcp hb hx0 hx1 hx2 hx3 hx4 hx5 hx6 hmu hsk HK
      have d7 : ∀ o, (wr.alloc o).cell? ⟨bp, op + k, none⟩ = some (.bool b) := fun o => (HST.out.alloc o).st.up HD5.out
      cases b with
      | false =>
        have HE := hide' (HLN.out rfl)
        have HAL : Hid (∀ o, MSt w (wr.alloc o) A F (.slice (some ⟨bt, ot, none⟩) us.length cg) (.slice ar us.length cr) (leastK us on (k + 1))) := fun o => by rw [HE.out]; exact HST.out.alloc o
        clear HLN HLK HST
        go_wp2
        go_roundw
        case rel => exact ⟨k + 1, by go_num, by omega, by rw [HE.out, ← HSK.out], HAL.out _⟩
        case measure => simp [intOf]; omega
      | true =>
        have HE := hide' (HLK.out rfl)
        have HAL : Hid (∀ o, MSt w ((wr.alloc o).setCell ⟨F, k, none⟩ (.int .i64 x0)) A F (.slice (some ⟨bt, ot, none⟩) us.length cg) (.slice ar us.length cr) (leastK us on (k + 1))) := fun o => by rw [HE.out.1]; exact (HST.out.alloc o).set k x0
        have c1 : ∀ o, (wr.alloc o).cell? ⟨F, k, none⟩ = some (.int .i64 0) := fun o => by
          have := (intsCell (HST.out.alloc o).st.hF (j := k) (by rw [leastK_len]; exact hlt)).1
          rw [leastK_later us on k k (Nat.le_refl _)] at this
          exact this
        have c2 : ∀ o, (wr.alloc o).frozen? ⟨F, k, none⟩ = false := fun o => (intsCell (HST.out.alloc o).st.hF (j := k) (by rw [leastK_len]; exact hlt)).2
        have c3 : ∀ o v j, ((wr.alloc o).setCell ⟨F, k, none⟩ v).cell? ⟨wr.heap.size, j, none⟩ = (wr.alloc o).cell? ⟨wr.heap.size, j, none⟩ := fun o v j => by
          have hne : wr.heap.size ≠ F := by have := HST.out.sF; omega
          simp only [World.cell?, Below.heap_setCell _ (⟨F, k, none⟩ : Addr) v wr.heap.size hne]
        clear HLN HLK HST
        go_wp2
        go_roundw
        case rel => exact ⟨k + 1, by go_num, by omega, by rw [HE.out.2, show need - (sk + x0) = need - sk - x0 by omega], HAL.out _⟩
        case measure => simp [intOf]; omega
    · have hke : k = us.length := by omega
      subst hke
      have hs := leastK_sum on HM.out us.length (Nat.le_refl _)
      have HFS := hide' (fill_start (on := on) HM.out need)
      have HOV : Hid (need - (leastK us on us.length).sum < 0 → ∀ out, ¬ Merit us on need out) := fun h out => fill_over (by omega) out
      obtain ⟨L0, hL0⟩ : ∃ l, l = leastK us on us.length := ⟨_, rfl⟩
      rw [← hL0] at hs HFS HST HOV ⊢
      clear hL0
      obtain ⟨l0, hl0⟩ : ∃ l, l = need - L0.sum := ⟨_, rfl⟩
      rw [← hl0] at HFS HOV ⊢
      have hlb : l0 ≤ 400000 := by omega
      clear hl0 hs
      by_cases hneg : l0 < 0
      · have HNO := hide' (HOV.out hneg)
        clear HOV HFS
        go_wp2
        refine bodyPost_ret (results_tmp2 rfl _ _ _) rfl ?_
        exact .inr ⟨HNO.out, rfl, HST.out.st.bel⟩
      · clear HOV
        have c1 : wr.cell? ⟨A, 1, none⟩ = some (.slice ar us.length cr) := by simp [World.cell?, HST.out.box]
        go_wp2_with fail
        clear c1
        go_loopw [2, 45] (fun lv i W => ∃ (p : Nat) (left : Int) (cur : List Int), i = .int .i64 p ∧ p ≤ us.length ∧ lv = .int .i64 left ∧ 0 ≤ left ∧ left ≤ 400000 ∧ Hid (Fl us on need d p left cur) ∧ Hid (MSt w W A F (.slice ag us.length cg) (.slice ar us.length cr) cur)) (fun _ i _ => us.length - (intOf i).toNat)
        case atStart => exact ⟨0, l0, L0, rfl, Nat.zero_le _, rfl, by omega, hlb, ⟨HFS.out, by omega, fun _ q h => absurd h (Nat.not_lt_zero q)⟩, HST⟩
        case round =>
          clear HFS HST hlb hneg
          obtain ⟨p, left, cur, rfl, hp, rfl, hp0, hp1, HFL, HST⟩ := hrel
          by_cases hlt : p < us.length
          · obtain ⟨br, or', cr', exr, hcr⟩ := ints_cell2 HR.out p (by rw [natsI, List.length_map, Array.length_toList, HD.out.size]; exact hlt)
            cases exr
            rw [natsI_getD (by rw [HD.out.size]; exact hlt)] at hcr
            have hil := HD.out.less p hlt
            obtain ⟨i, hi⟩ : ∃ i, i = d[p]! := ⟨_, rfl⟩
            rw [← hi] at hcr hil
            obtain ⟨bt, ot, ct', ex, hbt, hct⟩ := row_elem (f := UnitM.cells) (fun _ => rfl) HG.out i hil (by decide)
            cases ex
            obtain ⟨bp, op, cp', exp, hbp, hcp⟩ := Row1.cell HO.out i (by rw [HL.out]; exact hil)
            cases exp
            obtain ⟨u, hu⟩ : ∃ u, u = us[i] := ⟨_, rfl⟩
            rw [← hu] at hct
            have HK : Hid (us[i]? = some u) := by show _ = _; rw [hu]; exact List.getElem?_eq_getElem hil
            have d1 := HST.out.st.up (hct 1 _ rfl)
            have d8 := HST.out.st.up hcr
            have d5 := HST.out.st.up hcp
            obtain ⟨b, hb⟩ : ∃ b, b = on.getD i false := ⟨_, rfl⟩
            rw [← hb] at d5
            obtain ⟨x1, hx1⟩ : ∃ x, x = u.most := ⟨_, rfl⟩
            rw [← hx1] at d1
            have hcl : cur.length = us.length := HFL.out.fill.len
            obtain ⟨cW, fW⟩ := intsCell HST.out.st.hF (j := i) (by rw [hcl]; exact hil)
            clear hcl
            have cA : wr.cell? ⟨A, 0, none⟩ = some (.slice (some ⟨bt, ot, none⟩) us.length cg) := by simp [World.cell?, HST.out.box]
            have HSKIP : Hid (b = false → Fl us on need d (p + 1) left cur) := fun h => HFL.out.skip (by rw [← hi, ← hb, h])
            have HSTEP : Hid (b = true → Fl us on need d (p + 1) (left - min left (x1 - cur.getD i 0)) (cur.set i (cur.getD i 0 + min left (x1 - cur.getD i 0))) ∧ 0 ≤ cur.getD i 0 ∧ cur.getD i 0 ≤ x1 ∧ x1 ≤ 100000) := fun h => by
              have hon : on.getD i false = true := by rw [← hb, h]
              have h1 := HFL.out.step HD.out hlt (u := u) (by rw [← hi]; exact HK.out) (by rw [← hi]; exact hon)
              have h2 := HFL.out.fill.lo i u HK.out hon
              have h3 := HM.out i u HK.out
              have h4 := h3.a
              have h5 := h3.c
              rw [← hi] at h1
              rw [hx1]
              exact ⟨h1, by omega, by omega, by omega⟩
            have HALQ : Hid (∀ q x, MSt w ((wr.drewN q).setCell ⟨F, i, none⟩ (.int .i64 x)) A F (.slice (some ⟨bt, ot, none⟩) us.length cg) (.slice (some ⟨br, or', none⟩) us.length cr) (cur.set i x)) := fun q x => (HST.out.drewN q).set i x
            obtain ⟨cx, hcx⟩ : ∃ x, x = cur.getD i 0 := ⟨_, rfl⟩
            rw [← hcx] at cW HSTEP
            clear hct hu hbt hbp hcp hb hx1 hcr hi hcx HK HFL
            cases b with
            | false =>
              have HE := hide' (HSKIP.out rfl)
              clear HSKIP HSTEP HALQ
              go_wp2
              go_roundw
              case rel => exact ⟨p + 1, left, cur, by go_num, by omega, rfl, hp0, hp1, HE, HST⟩
              case measure => simp [intOf]; omega
            | true =>
              obtain ⟨hE, hc0, hc1, hc2⟩ := HSTEP.out rfl
              have HE := hide' hE
              clear HSKIP HSTEP hE HST
              go_wp2_with fail
              go_quiet (fail)
              go_wp2
              go_roundw
              case rel => exact ⟨p + 1, _, _, by go_num, by omega, rfl, by omega, by omega, HE, HALQ.out _ _⟩
              case measure => simp [intOf]; omega
          · have hpe : p = us.length := by omega
            subst hpe
            have hdone := HFL.out.done HD.out
            have hcl : cur.length = us.length := HFL.out.fill.len
            have HROW := hide' (HST.out.st.row hcl)
            have HB := hide' HST.out.st.bel
            have HD0 := hide' hdone
            clear hdone hcl HFL HST
            by_cases hz : 0 < left
            · have HNO := hide' (HD0.out.2 hz)
              clear HD0
              go_wp2
              refine bodyPost_ret (results_tmp2 rfl _ _ _) rfl ?_
              exact .inr ⟨HNO.out, rfl, HB.out⟩
            · have HYES := hide' (HD0.out.1 (by omega))
              clear HD0
              go_wp2
              refine bodyPost_ret (results_tmp2 rfl _ _ _) rfl ?_
              exact .inl ⟨cur, _, HYES.out, rfl, HROW.out, HB.out⟩
end Go.Proofs.Ytlbeecjkfakkpag
