/- What each unit generates, in the document's answer. -/
import Derived.Test.YtlbeecjkfakkpagC2
namespace Go.Proofs.Ytlbeecjkfakkpag
open Go.RowKit Go.Shelf

theorem Try.info3 : (Try.prog.info? 3).map (fun i => (i.zero, i.size, i.bytes)) = some (some (.int .i64 0), 1, 8) := by kernel_rfl
abbrev BoolsAt (w : World) (v : Value) (l : List Bool) : Prop := RowAt w v l.length 1 (l.map Value.bool)
/-- A list of numbers at work in block F. -/
structure LSt (w W : World) (F : Nat) (l : List Int) : Prop where
  hF : W.heap[F]? = some (.cells (ints l).toArray 3 (0, 0))
  bel : Below w.heap.size w W
  hle : w.heap.size ≤ F
theorem LSt.set {w W : World} {F : Nat} {l : List Int} (h : LSt w W F l) (v : Nat) (x : Int) : LSt w (W.setCell ⟨F, v, none⟩ (.int .i64 x)) F (l.set v x) :=
  ⟨by rw [set_any h.hF v (.int .i64 x), ints_set], h.bel.trans ((Only.set F v _ W).below h.hle), h.hle⟩
theorem LSt.drewN {w W : World} {F : Nat} {l : List Int} (h : LSt w W F l) (q : Nat) : LSt w (W.drewN q) F l := ⟨h.hF, below_drewN h.bel q, h.hle⟩
theorem LSt.drew {w W : World} {F : Nat} {l : List Int} (h : LSt w W F l) : LSt w W.drew F l := ⟨h.hF, h.bel.drew, h.hle⟩
theorem LSt.row {w W : World} {F n : Nat} {l : List Int} (h : LSt w W F l) (hl : l.length = n) : RowAt W (.slice (some ⟨F, 0, none⟩) n n) l.length 1 (ints l) := rowAt_ints h.hF hl
theorem LSt.up {w W : World} {F : Nat} {l : List Int} (h : LSt w W F l) {a : Addr} {u : Value} (hc : w.cell? a = some u) : W.cell? a = some u := (h.bel.cell (World.block_lt_of_cell? w _ hc)).trans hc
theorem leastK_sum {us : List UnitM} (on : List Bool) (hm : MayUs us) : ∀ k, k ≤ us.length → 0 ≤ (leastK us on k).sum ∧ (leastK us on k).sum ≤ 100000 * k
  | 0, _ => by
    have : ∀ n, (List.replicate n (0 : Int)).sum = 0 := fun n => by induction n with
      | zero => rfl
      | succ n ih => rw [List.replicate_succ, List.sum_cons, ih]; rfl
    rw [leastK, this]
    omega
  | k + 1, h => by
    have ih := leastK_sum on hm k (by omega)
    rw [leastK]
    split
    · obtain ⟨u, hu⟩ := unit_in (us := us) (i := k) (by omega)
      have := hm k u hu
      have h1 := this.a
      have h2 := this.b
      have h3 := this.c
      rw [sum_set _ _ _ (by rw [leastK_len]; omega), leastK_later us on k k (Nat.le_refl _), hu]
      simp only [Option.map_some, Option.getD_some]
      omega
    · omega
/-- What meritOf answers. -/
def MeritOut (us : List UnitM) (on : List Bool) (need : Int) (w : World) (e : Ending) (w' : World) : Prop :=
  (∃ out v, Merit us on need out ∧ e = .returned (.tuple #[v, .bool true]) ∧ RowAt w' v out.length 1 (ints out) ∧ Below w.heap.size w w') ∨
  ((∀ out, ¬ Merit us on need out) ∧ e = .returned (.tuple #[.slice none 0 0, .bool false]) ∧ Below w.heap.size w w')
set_option maxRecDepth 100000 in
set_option maxHeartbeats 4000000 in
theorem meritOf_any (us : List UnitM) (on : List Bool) (need : Int) (lv ov : Value) (w : World) (hx : UnitsAt w lv us) (ho : RowAt w ov us.length 1 (on.map Value.bool)) (hl : on.length = us.length) (h4 : us.length ≤ 4) (hm : MayUs us) (h0 : 0 ≤ need) (h1 : need ≤ 400000) :
    Calls Try.prog 30 #[lv, ov, .int .i64 need] w (MeritOut us on need w) := by
  obtain ⟨i0, hi0, hzz0, hzz1, hzz2⟩ := info_parts Try.info3
  have HG := hide' hx
  have HO := hide' ho
  have HL := hide' hl
  have HM := hide' hm
  obtain ⟨ag, cg, rfl⟩ := rowAt_slice hx
  obtain ⟨ao, co, rfl⟩ := rowAt_slice ho
  clear hx ho hl hm
  go_enter Try.func30, Try.ntmps30
  go_wp2_with (at_make; refine wpList_make_full _ rfl _ _ 24 rfl w.heap.size 3 i0 (.int .i64 0) 1 Try.underlying24 hi0 hzz0 hzz1 .i64 .i64 _ _ us.length rfl rfl rfl rfl (by rw [hzz2]; omega) (by unfold maxLen; omega) (Nat.le_refl _) ?_; intro w2 hown1 hgr; refine Still.go ?_)
  unfold Still
  obtain ⟨F, hFe⟩ : ∃ F, F = w.heap.size := ⟨_, rfl⟩
  have HST : Hid (LSt w w2 F (leastK us on 0)) := by
    have h1 := row_of_own hown1
    rw [made_zero] at h1
    rw [hFe]
    exact ⟨by rw [h1, leastK, ints, List.map_replicate], (Below.refl _ w).grown hgr (Nat.le_refl _) (fun k e => by cases e), Nat.le_refl _⟩
  rw [← hFe]
  clear hown1 hgr hFe
  go_wp2_with fail
  go_loopw [9, 10] (fun lv i wr => ∃ (k : Nat), i = .int .i64 k ∧ k ≤ us.length ∧ lv = .int .i64 (need - (leastK us on k).sum) ∧ Hid (LSt w wr F (leastK us on k))) (fun _ i _ => us.length - (intOf i).toNat)
  case atStart => exact ⟨0, rfl, Nat.zero_le _, by have := leastK_sum on HM.out 0 (Nat.zero_le _); rw [show (leastK us on 0).sum = 0 by omega, Int.sub_zero], HST⟩
  case round =>
    clear HST
    obtain ⟨k, rfl, hk, rfl, HST⟩ := hrel
    by_cases hlt : k < us.length
    · obtain ⟨bt, ot, ct', ex, hbt, hct⟩ := row_elem (f := UnitM.cells) (fun _ => rfl) HG.out k hlt (by decide)
      cases ex
      obtain ⟨bp, op, cp', exp, hbp, hcp⟩ := Row1.cell HO.out k (by rw [HL.out]; exact hlt)
      cases exp
      obtain ⟨u, hu⟩ : ∃ u, u = us[k] := ⟨_, rfl⟩
      rw [← hu] at hct
      have HK : Hid (us[k]? = some u) := by show _ = _; rw [hu]; exact List.getElem?_eq_getElem hlt
      have d0 := HST.out.up (hct 0 _ rfl)
      have e0 := (HST.out.set k u.least).up (hct 0 _ rfl)
      rw [Nat.add_zero] at d0 e0
      have d5 := HST.out.up hcp
      obtain ⟨b, hb⟩ : ∃ b, b = on.getD k false := ⟨_, rfl⟩
      rw [← hb] at d5
      obtain ⟨x0, hx0⟩ : ∃ x, x = u.least := ⟨_, rfl⟩
      rw [← hx0] at d0 e0
      obtain ⟨cW, fW⟩ := intsCell HST.out.hF (j := k) (by rw [leastK_len]; exact hlt)
      rw [leastK_later us on k k (Nat.le_refl _)] at cW
      have hs := leastK_sum on HM.out k hk
      have hmu := HM.out k u HK.out
      have hxa : 0 ≤ x0 ∧ x0 ≤ 100000 := by have h1 := hmu.a; have h2 := hmu.b; have h3 := hmu.c; omega
      obtain ⟨sk, hsk⟩ : ∃ s, s = (leastK us on k).sum := ⟨_, rfl⟩
      rw [← hsk] at hs ⊢
      have HLK : Hid (b = true → leastK us on (k + 1) = (leastK us on k).set k x0 ∧ (leastK us on (k + 1)).sum = sk + x0) := fun h => by
        have e1 : leastK us on (k + 1) = (leastK us on k).set k x0 := by rw [leastK, ← hb, h, HK.out, hx0]; rfl
        refine ⟨e1, ?_⟩
        rw [e1, sum_set _ _ _ (by rw [leastK_len]; exact hlt), leastK_later us on k k (Nat.le_refl _), hsk]
        omega
      have HLN : Hid (b = false → leastK us on (k + 1) = leastK us on k) := fun h => by rw [leastK, ← hb, h]; rfl
      have HSK := hide' hsk
      clear hct hu hbt hbp hcp hb hx0 hmu hsk HK
      cases b with
      | false =>
        have HE := hide' (HLN.out rfl)
        clear HLN HLK e0
        go_wp2
        go_roundw
        case rel => exact ⟨k + 1, by go_num, by omega, by rw [HE.out, ← HSK.out], by rw [HE.out]; exact HST⟩
        case measure => simp [intOf]; omega
      | true =>
        have HE := hide' (HLK.out rfl)
        clear HLN HLK
        go_wp2
        go_roundw
        case rel => exact ⟨k + 1, by go_num, by omega, by rw [HE.out.2, show need - (sk + x0) = need - sk - x0 by omega], by rw [HE.out.1]; exact HST.out.set k x0⟩
        case measure => simp [intOf]; omega
    · have hke : k = us.length := by omega
      subst hke
      have hs := leastK_sum on HM.out us.length (Nat.le_refl _)
      have HFS := hide' (fill_start (on := on) HM.out need)
      have HOV : Hid (need - (leastK us on us.length).sum < 0 → ∀ out, ¬ Merit us on need out) := fun h out => fill_over (by omega) out
      obtain ⟨L0, hL0⟩ : ∃ l, l = leastK us on us.length := ⟨_, rfl⟩
      rw [← hL0] at hs HFS HST HOV ⊢
      clear hL0
      obtain ⟨l0, hl0⟩ : ∃ l, l = need - L0.sum := ⟨_, rfl⟩
      rw [← hl0] at HFS HOV ⊢
      have hlb : l0 ≤ 400000 := by omega
      clear hl0 hs
      by_cases hneg : l0 < 0
      · have HNO := hide' (HOV.out hneg)
        clear HOV HFS
        go_wp2
        refine bodyPost_ret (results_tmp2 rfl _ _ _) rfl ?_
        exact .inr ⟨HNO.out, rfl, HST.out.bel⟩
      · clear HOV
        go_wp2_with fail
        go_loopw [9] (fun lv wr => ∃ (left : Int) (cur : List Int), lv = .int .i64 left ∧ 0 ≤ left ∧ left ≤ 400000 ∧ Hid (Fill us on need left cur) ∧ Hid (LSt w wr F cur)) (fun lv _ => (intOf lv).toNat)
        case atStart => exact ⟨l0, L0, rfl, by omega, hlb, HFS, HST⟩
        case round =>
          clear HFS HST hlb hneg
          obtain ⟨left, cur, rfl, hp0, hp1, HFS, HST⟩ := hrel
          by_cases hpos : 0 < left
          · go_wp2_with fail
            go_loopw [11, 12] (fun kv iv W => ∃ (i : Nat) (kk : Int), kv = .int .i64 kk ∧ iv = .int .i64 i ∧ i ≤ us.length ∧ Hid (Pick us on cur i kk) ∧ ∃ q, W = wr.drewN q) (fun _ iv _ => us.length - (intOf iv).toNat)
            case atStart => exact ⟨0, -1, rfl, rfl, Nat.zero_le _, .inl ⟨rfl, fun j h => absurd h (Nat.not_lt_zero j)⟩, 0, rfl⟩
            case round =>
              obtain ⟨i, kk, rfl, rfl, hi, HP, q, rfl⟩ := hrel
              by_cases hlt : i < us.length
              · obtain ⟨bt, ot, ct', ex, hbt, hct⟩ := row_elem (f := UnitM.cells) (fun _ => rfl) HG.out i hlt (by decide)
                cases ex
                obtain ⟨bp, op, cp', exp, hbp, hcp⟩ := Row1.cell HO.out i (by rw [HL.out]; exact hlt)
                cases exp
                obtain ⟨u, hu⟩ : ∃ u, u = us[i] := ⟨_, rfl⟩
                rw [← hu] at hct
                have HK : Hid (us[i]? = some u) := by show _ = _; rw [hu]; exact List.getElem?_eq_getElem hlt
                have d1 := HST.out.up (hct 1 _ rfl)
                have d2 := HST.out.up (hct 2 _ rfl)
                have d5 := HST.out.up hcp
                obtain ⟨b, hb⟩ : ∃ b, b = on.getD i false := ⟨_, rfl⟩
                rw [← hb] at d5
                obtain ⟨cW, fW⟩ := intsCell HST.out.hF (j := i) (by rw [HFS.out.len]; exact hlt)
                obtain ⟨y, hy⟩ : ∃ y, y = cur.getD i 0 := ⟨_, rfl⟩
                rw [← hy] at cW
                have HRM : Hid (Room us on cur i ↔ b = true ∧ y < u.most) := ⟨fun ⟨u', hu', ho, hr⟩ => by rw [HK.out] at hu'; cases hu'; exact ⟨hb.trans ho, by rw [hy]; exact hr⟩, fun h => ⟨u, HK.out, by rw [← hb]; exact h.1, by rw [← hy]; exact h.2⟩⟩
                obtain ⟨x1, hx1⟩ : ∃ x, x = u.most := ⟨_, rfl⟩
                rw [← hx1] at d1 HRM
                obtain ⟨x2, hx2⟩ : ∃ x, x = u.cost := ⟨_, rfl⟩
                rw [← hx2] at d2
                have HX2 := hide' hx2
                clear hu hbt hbp hcp hb hx1 hx2 hy
                cases b with
                | false =>
                  have HNR : Hid (Pick us on cur (i + 1) kk) := HP.out.skip (fun h => by have := (HRM.out.1 h).1; cases this)
                  clear hct
                  go_wp2_with fail
                  go_quiet (fail)
                  go_wp2
                  go_roundw
                  case rel => exact ⟨i + 1, kk, rfl, by go_num, by omega, HNR, _, rfl⟩
                  case measure => simp [intOf]; omega
                | true =>
                  by_cases hroom : y < x1
                  · have HR : Hid (Room us on cur i) := HRM.out.2 ⟨rfl, hroom⟩
                    rcases HP.out with ⟨hkk, hno⟩ | ⟨m, hkk, hmi, hrm, hah⟩
                    · subst hkk
                      have HNX : Hid (Pick us on cur (i + 1) i) := HP.out.start HR.out
                      clear hct hno
                      go_wp2_with fail
                      go_quiet (fail)
                      go_wp2
                      go_roundw
                      case rel => exact ⟨i + 1, i, rfl, by go_num, by omega, HNX, _, rfl⟩
                      case measure => simp [intOf]; omega
                    · subst hkk
                      obtain ⟨b2, o2, c2, ex2, hb2, hct2⟩ := row_elem (f := UnitM.cells) (fun _ => rfl) HG.out m (by omega) (by decide)
                      cases ex2
                      obtain ⟨v, hv⟩ : ∃ v, v = us[m] := ⟨_, rfl⟩
                      rw [← hv] at hct2
                      have HKM : Hid (us[m]? = some v) := by show _ = _; rw [hv]; exact List.getElem?_eq_getElem (by omega)
                      have d3 := HST.out.up (hct2 2 _ rfl)
                      obtain ⟨x3, hx3⟩ : ∃ x, x = v.cost := ⟨_, rfl⟩
                      rw [← hx3] at d3
                      have hml : m < us.length := by omega
                      by_cases hcc : x2 < x3
                      · have HNX : Hid (Pick us on cur (i + 1) i) := HP.out.new HR.out HK.out HKM.out (by rw [← HX2.out, ← hx3]; exact hcc)
                        clear hct hct2 hv hx3 hb2 hrm hah
                        go_wp2_with fail
                        go_quiet (fail)
                        go_wp2
                        go_roundw
                        case rel => exact ⟨i + 1, i, rfl, by go_num, by omega, HNX, _, rfl⟩
                        case measure => simp [intOf]; omega
                      · have HNX : Hid (Pick us on cur (i + 1) m) := HP.out.keep HK.out HKM.out (by rw [← HX2.out, ← hx3]; exact hcc)
                        clear hct hct2 hv hx3 hb2 hrm hah
                        go_wp2_with fail
                        go_quiet (fail)
                        go_wp2
                        go_roundw
                        case rel => exact ⟨i + 1, m, rfl, by go_num, by omega, HNX, _, rfl⟩
                        case measure => simp [intOf]; omega
                  · have HNR : Hid (Pick us on cur (i + 1) kk) := HP.out.skip (fun h => hroom (HRM.out.1 h).2)
                    have hle : (decide (y < x1)) = false := decide_eq_false hroom
                    clear hct
                    go_wp2_with fail
                    go_quiet (fail)
                    go_wp2
                    go_roundw
                    case rel => exact ⟨i + 1, kk, rfl, by go_num, by omega, HNR, _, rfl⟩
                    case measure => simp [intOf]; omega
              · have hie : i = us.length := by omega
                subst hie
                have HST2 := hide' (HST.out.drewN q)
                rcases HP.out with ⟨hkk, hno⟩ | ⟨m, hkk, hmi, hrm, hah⟩
                · subst hkk
                  have HNO : Hid (∀ out, ¬ Merit us on need out) := fill_short HFS.out hpos HP.out.none
                  clear hno
                  go_wp2
                  refine bodyPost_ret (results_tmp2 rfl _ _ _) rfl ?_
                  exact .inr ⟨HNO.out, rfl, HST2.out.bel⟩
                · subst hkk
                  obtain ⟨b2, o2, c2, ex2, hb2, hct2⟩ := row_elem (f := UnitM.cells) (fun _ => rfl) HG.out m hmi (by decide)
                  cases ex2
                  obtain ⟨v, hv⟩ : ∃ v, v = us[m] := ⟨_, rfl⟩
                  rw [← hv] at hct2
                  have HKM : Hid (us[m]? = some v) := by show _ = _; rw [hv]; exact List.getElem?_eq_getElem hmi
                  have d3 := HST.out.up (hct2 1 _ rfl)
                  obtain ⟨cW, fW⟩ := intsCell HST.out.hF (j := m) (by rw [HFS.out.len]; exact hmi)
                  have HPF := hide' HP.out.first
                  obtain ⟨vv, hvv, honm, hroom⟩ := hrm
                  rw [HKM.out] at hvv
                  cases hvv
                  have hlo := (HFS.out.lo m v HKM.out honm)
                  have hmu := HM.out m v HKM.out
                  have h5 : 0 ≤ v.least := hmu.a
                  have h6 : v.most ≤ 100000 := hmu.c
                  have HMORE : Hid (∀ x : Int, 0 ≤ x → x ≤ v.most - cur.getD m 0 → Fill us on need (left - x) (cur.set m (cur.getD m 0 + x))) := fun x hx hxm => fill_more HFS.out HKM.out honm hroom hx hxm HPF.out.2
                  obtain ⟨y, hy⟩ : ∃ y, y = cur.getD m 0 := ⟨_, rfl⟩
                  rw [← hy] at cW hroom hlo HMORE
                  obtain ⟨x1, hx1⟩ : ∃ x, x = v.most := ⟨_, rfl⟩
                  rw [← hx1] at d3 hroom hlo HMORE h6
                  have HSET : Hid (∀ (q : Nat) (x : Int), LSt w ((wr.drewN q).setCell ⟨F, m, none⟩ (.int .i64 x)) F (cur.set m x)) := fun q x => (HST.out.drewN q).set m x
                  have hyy : 0 ≤ y := by omega
                  clear hct2 hv hb2 hah hy hx1 honm hmu hlo h5 HPF HP HKM
                  go_wp2_with fail
                  go_quiet (fail)
                  by_cases hgt : left < x1 - y
                  · have HN : Hid (Fill us on need 0 (cur.set m (y + left))) := by have := HMORE.out left (by omega) (by omega); rwa [Int.sub_self] at this
                    clear HMORE
                    go_wp2
                    go_roundw
                    case rel => exact ⟨0, _, by simp, by omega, by omega, HN, HSET.out _ _⟩
                    case measure => simp [intOf]; omega
                  · have HN : Hid (Fill us on need (left - (x1 - y)) (cur.set m (y + (x1 - y)))) := HMORE.out _ (by omega) (by omega)
                    clear HMORE
                    go_wp2
                    go_roundw
                    case rel => exact ⟨left - (x1 - y), _, rfl, by omega, by omega, HN, HSET.out _ _⟩
                    case measure => simp [intOf]; omega
          · have hz : left = 0 := by omega
            subst hz
            go_wp2
            refine bodyPost_ret (results_tmp2 rfl _ _ _) rfl ?_
            exact .inl ⟨cur, _, HFS.out, rfl, HST.out.row HFS.out.len, HST.out.bel⟩
end Go.Proofs.Ytlbeecjkfakkpag
