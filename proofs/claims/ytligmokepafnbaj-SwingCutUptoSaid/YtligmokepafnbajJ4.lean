/- SwingStill. -/
import Derived.Test.YtligmokepafnbajJ3
import Derived.Test.YtligmokepafnbajH8
namespace Go.Proofs.Ytligmokepafnbaj
open Go.RowKit Go.Shelf

/-- a limit that 0 is not below -/
def Low (x : Nat) : Prop := flt (some 0) (nm x) = false
theorem low_eighth (p : Nat) (hp : p < 400) : ∃ x, floatBits .quo .f64 (FloatKind.f64.nearest (-(p : Int))) 4620693217682128896 = some x ∧ Low x := by
  have hall : ∀ k : Fin 400, flt (some 0) (fop .quo (nm (FloatKind.f64.nearest (-(k.1 : Int)))) (some 4620693217682128896)) = false := by decide +kernel
  have h := hall ⟨p, hp⟩
  obtain ⟨x, hx, _, hx2⟩ := eighth_num (-(p : Int)) (by omega)
  refine ⟨x, hx, ?_⟩
  have h2 : fop .quo (nm (FloatKind.f64.nearest (-(p : Int)))) (some 4620693217682128896) = some x := by
    rw [← hx, floatBits_fop]; rfl
  unfold Low
  rw [nm_num hx2, ← h2]
  exact h
theorem watch_low {S : List StM} (h : ∀ s ∈ S, Low s.lim) : watchS S (some 0) = S := by
  unfold watchS
  have : ∀ s ∈ S, s.see (some 0) = s := fun s hs => see_on (h s hs)
  rw [List.map_congr_left this, List.map_id']
theorem shed_none {S : List StM} (h : ∀ s ∈ S, s.gone = false) : shedO S = some 0 := by
  unfold shedO
  have : ∀ (l : List StM) (a : Option Nat), (∀ s ∈ l, s.gone = false) → l.foldl (fun a s => if s.gone then fop .add a (nm s.part) else a) a = a := by
    intro l
    induction l with
    | nil => intro a _; rfl
    | cons x r ih =>
      intro a hl
      rw [List.foldl_cons, hl x List.mem_cons_self]
      exact ih a fun s hs => hl s (List.mem_cons_of_mem _ hs)
  exact this S _ h
set_option maxRecDepth 100000 in
theorem kept_one : fop .sub (some 4607182418800017408) (some 0) = some 4607182418800017408 := by decide
theorem run_still {S : List StM} {m : List Nat} (h1 : ∀ s ∈ S, Low s.lim) (h2 : ∀ s ∈ S, s.gone = false) (hm : ∀ x ∈ m, x < 2 ^ 64 ∧ rng x < 9218868437227405312) : ∀ k, k ≤ m.length → runS (some 4611686018427387904) (some 4617315517961601024) (some 4598175219545276416) S (some 0) (m.zip m) k = (S, some 0)
  | 0, _ => rfl
  | k + 1, hk => by
    have hlt : k < m.length := by omega
    rw [runS_next hlt rfl, run_still h1 h2 hm k (by omega)]
    obtain ⟨a, b⟩ := hm (m.getD k 0) (by rw [List.getD_eq_getElem?_getD, List.getElem?_eq_getElem hlt]; exact List.getElem_mem hlt)
    unfold stepS
    simp only
    rw [watch_low h1]
    unfold keptO
    rw [shed_none h2, kept_one, step_still a b]
theorem told_still {S : List StM} {m : List Nat} (h1 : ∀ s ∈ S, Low s.lim) (h2 : ∀ s ∈ S, s.gone = false) (hm : ∀ x ∈ m, x < 2 ^ 64 ∧ rng x < 9218868437227405312) (tl : List Nat) (ht : tl.map nm = toldS (some 4611686018427387904) (some 4617315517961601024) (some 4598175219545276416) S (some 0) (m.zip m) m.length) : ∀ k, k < m.length → tl.getD k 0 = 0 := by
  intro k hk
  have hl : tl.length = m.length := by have := congrArg List.length ht; rw [List.length_map, told_len] at this; exact this
  have h3 : (tl.map nm)[k]? = some (some 0) := by
    rw [ht]
    unfold toldS
    rw [List.getElem?_map, List.getElem?_range hk, Option.map_some, run_still h1 h2 hm (k + 1) hk]
  rw [List.getElem?_map, List.getElem?_eq_getElem (by omega), Option.map_some] at h3
  rw [List.getD_eq_getElem?_getD, List.getElem?_eq_getElem (by omega)]
  exact (nm_eq (Option.some.inj h3)).1
theorem work_still {l : List (Nat × Nat)} (h : ∀ s ∈ l, Low s.1) : (∀ s ∈ atWorkS l (List.replicate l.length false), Low s.lim) ∧ ∀ s ∈ atWorkS l (List.replicate l.length false), s.gone = false := by
  constructor
  · intro s hs
    obtain ⟨p, hp, rfl⟩ := List.mem_map.1 hs
    exact h p.1 (List.of_mem_zip hp).1
  · intro s hs
    obtain ⟨p, hp, rfl⟩ := List.mem_map.1 hs
    exact List.eq_of_mem_replicate (List.of_mem_zip hp).2

set_option maxRecDepth 100000 in
theorem step_mark : stepO (nm 13830554455654793216) (nm 4621819117588971520) (nm 4626322717216342016) (nm 4607182418800017408) (nm 4617315517961601024) (nm 4602678819172646912) = some 13834607695319426662 := by decide +kernel
/-- a pair of numbers -/
def prc (p : Int × Int) : List Value := [.int .i64 p.1, .int .i64 p.2]
theorem prc_len (p : Int × Int) : (prc p).length = 2 := rfl
theorem sg_one (s : Nat × Nat) : ∀ u ∈ sgc s, u.oneCell' = true := fun u hu => by
  unfold sgc at hu
  simp only [List.mem_cons, List.not_mem_nil, or_false] at hu
  rcases hu with rfl | rfl <;> rfl
theorem flat_snoc (l : List (Nat × Nat)) (s : Nat × Nat) : l.flatMap sgc ++ sgc s = (l ++ [s]).flatMap sgc := by simp
theorem Try.info46 : (Try.prog.info? 46).map (fun i => (i.zero, i.size, i.bytes)) = some (some (.agg #[.float .f64 0, .float .f64 0]), 2, 16) := by kernel_rfl

attribute [local go_sem] run_fadd run_fsub run_fmul run_fquo run_store_float

set_option maxRecDepth 100000 in
set_option maxHeartbeats 4000000 in
theorem SwingStill_any (raw : List Int) (ps : List (Int × Int)) (v u : Value) (w : World) (hr : RowAt w v raw.length 1 (ints raw)) (hp : RowAt w u ps.length 2 (ps.flatMap prc)) (hI : ∀ p ∈ ps, I6 p.1) (hn : raw.length ≤ 2000000) (_hpn : ps.length ≤ 2000000) :
    Calls Try.prog 6 #[v, u] w fun e w' => e = .returned (.bool true) ∧ Below w.heap.size w w' := by
  obtain ⟨i46, hi46, h460, h461, h462⟩ := info_parts Try.info46
  obtain ⟨i4, hi4, h40, h41, h42⟩ := info_parts Try.info4
  have HP := hide' hp
  have HII := hide' hI
  have HWV := hide' (wave_any raw v w hr hn)
  obtain ⟨a, cap, rfl⟩ := rowAt_slice hr
  obtain ⟨b, cb, rfl⟩ := rowAt_slice hp
  clear hr hp hI
  go_enter Try.func6, Try.ntmps6
  go_wp2_with (go_at_call 16; refine HWV.out.mono ?_; refine Still.go ?_)
  unfold Still
  rintro e w1 ⟨v1, m, rfl, ho1, hm50, hm1, hb1⟩
  obtain ⟨am, cm, ex1⟩ := own_slice ho1
  subst ex1
  have HM := hide' hm1
  have HO1 := hide' ho1
  have HB1 := hide' hb1
  clear hm1 ho1 hb1 HWV
  go_wp2_with fail
  go_loopw [6, 7] (fun o i wr => ∃ (k : Nat) (l : List (Nat × Nat)), i = .int .i64 k ∧ k ≤ ps.length ∧ k ≤ 6 ∧ Hid (l.length = k ∧ (∀ s ∈ l, Low s.1) ∧ wr.ownsRow w1.heap.size 46 2 o l.length (l.flatMap sgc)) ∧ Hid (Below w1.heap.size w1 wr)) (fun _ i _ => ps.length - (intOf i).toNat)
  case atStart => exact ⟨0, [], rfl, Nat.zero_le _, Nat.zero_le _, ⟨rfl, (fun x hx => by cases hx), World.ownsRow_nil _ _ _ _⟩, Below.refl _ w1⟩
  case round =>
    obtain ⟨k, l, rfl, hk, hk6, HL, HBE⟩ := hrel
    obtain ⟨oa, oc, hov⟩ := own_slice HL.out.2.2
    subst hov
    by_cases hlt : k < ps.length ∧ k < 6
    · obtain ⟨hkr, hk2⟩ := hlt
      have HBW : Hid (Below w.heap.size w wr) := HB1.out.trans (HBE.out.mono HB1.out.size)
      obtain ⟨bt, ot, ct', ex, _, hct⟩ := row_elem prc_len HP.out k hkr (by decide)
      cases ex
      have d0 : wr.cell? ⟨bt, ot + k * 2, none⟩ = some (.int .i64 ps[k].1) := up_cell HBW.out (hct 0 _ rfl)
      obtain ⟨p, hp4, hpc⟩ := picked_is ps[k].1 400 (HII.out _ (List.getElem_mem hkr)) (by decide) (by decide)
      have HPC := hide' hpc
      obtain ⟨q, hq, hql⟩ := low_eighth p hp4
      have q0 : IntKind.i64.wrap (-(p : Int)) = -(p : Int) := Go.IntWalk.i64_in _ (by omega)
      have q1 : fdr .quo (floatOfInt .f64 (-(p : Int))) 4620693217682128896 = 0 := by
        have : floatBits .quo .f64 (floatOfInt .f64 (-(p : Int))) 4620693217682128896 = some q := hq
        unfold fdr; rw [this]; rfl
      have q2 : ∀ w, fres .quo w (floatOfInt .f64 (-(p : Int))) 4620693217682128896 = q := fun w => by
        have : floatBits .quo .f64 (floatOfInt .f64 (-(p : Int))) 4620693217682128896 = some q := hq
        unfold fres; rw [this]
      have HQ := hide' hql
      have HLK := hide' HL.out.1
      obtain ⟨x, hx⟩ : ∃ x, x = ps[k].1 := ⟨_, rfl⟩
      rw [← hx] at d0 HPC
      clear hct hx hq hql hpc HBW
      go_wp2_with fail
      refine (HPC.out _).mono ?_
      rintro e w' ⟨rfl, rfl⟩
      go_wp2_with (at_builtin; refine wpList_append_own _ rfl _ _ 27 rfl w1.heap.size 46 i46 _ 2 16 Try.underlying27 hi46 h460 h461 h462 rfl (by decide) _ _ _ rfl (HL.out.2.2.alloc _) ⟨w'.heap.size, 0, none⟩ 1 1 (sgc (q, 4598175219545276416)) rfl rfl (cell_news _ (sgc (q, 4598175219545276416)) 46) (sg_one _) (by have := HLK.out; unfold maxLen; omega) (by have := HLK.out; omega) (by have := HBE.out.size; simp; omega) ?_; intro v' w2 hown' hgrow _; refine Still.go ?_)
      unfold Still
      have HL2 : Hid ((l ++ [(q, 4598175219545276416)]).length = k + 1 ∧ (∀ s ∈ l ++ [(q, 4598175219545276416)], Low s.1) ∧ w2.ownsRow w1.heap.size 46 2 v' (l ++ [(q, 4598175219545276416)]).length ((l ++ [(q, 4598175219545276416)]).flatMap sgc)) := by
        refine ⟨by rw [List.length_append, HLK.out]; rfl, fun s hs => ?_, ?_⟩
        · rcases List.mem_append.1 hs with h | h
          · exact HL.out.2.1 s h
          · rw [List.mem_singleton.1 h]; exact HQ.out
        · rw [flat_snoc] at hown'
          rw [List.length_append]
          exact hown'
      have HB2 := hide' (below_app HBE.out HL.out.2.2 (Nat.le_refl _) HBE.out.size hgrow)
      clear hown' hgrow HL HBE
      go_wp2
      go_roundw
      case rel => exact ⟨k + 1, _, by go_num, by omega, by omega, HL2, HB2⟩
      case measure => simp [intOf]; omega
    · have hl6 : l.length ≤ 6 := by have := HL.out.1; omega
      have HLO := hide' HL.out.2.1
      have HOL := hide' HL.out.2.2
      by_cases h20 : k < ps.length
      all_goals
        clear HL
        go_wp2_with (at_make; refine wpList_make_full _ rfl _ _ 23 rfl wr.heap.size 4 i4 (.bool false) 1 Try.underlying23 hi4 h40 h41 .i64 .i64 _ _ l.length rfl rfl rfl rfl (by rw [h42]; omega) (by unfold maxLen; omega) (Nat.le_refl _) ?_; intro w3 hown3 hgr3; refine Still.go ?_)
        unfold Still
        have HB3 : Hid (Below wr.heap.size wr w3) := (Below.refl _ wr).grown hgr3 (Nat.le_refl _) (fun k e => by cases e)
        have HG3 : Hid (w3.ownsRow wr.heap.size 4 1 (.slice (some ⟨wr.heap.size, 0, none⟩) l.length l.length) l.length ((List.replicate l.length false).map Value.bool)) := by
          have h1 := hown3
          rw [made_bool] at h1
          rw [List.map_replicate]
          exact h1
        have HB13 : Hid (Below w1.heap.size w1 w3) := HBE.out.trans (HB3.out.mono HBE.out.size)
        have HRN : Hid (Calls Try.prog 8 #[.agg #[.float .f64 0, .slice (some ⟨wr.heap.size, 0, none⟩) l.length l.length], .float .f64 4611686018427387904, .float .f64 4617315517961601024, .float .f64 4598175219545276416, .slice am m.length cm, .slice am m.length cm, .slice oa l.length oc] w3 (RunO 0 4611686018427387904 4617315517961601024 4598175219545276416 m m l (List.replicate l.length false) w3)) := by
          refine Run_any 0 4611686018427387904 4617315517961601024 4598175219545276416 m m l (List.replicate l.length false) _ _ _ _ w3 ((rowAt_of_own HO1.out).below HB13.out (Nat.le_refl _)) ((rowAt_of_own HO1.out).below HB13.out (Nat.le_refl _)) ((rowAt_of_own HOL.out).below HB3.out (Nat.le_refl _)) ?_
          rw [List.length_replicate]
          exact rowAt_of_own HG3.out
        clear hown3 hgr3
        go_wp2_with (go_at_call 8; refine HRN.out.mono ?_; refine Still.go ?_)
        unfold Still
        intro e w4 hro
        obtain ⟨hro, hb4⟩ := hro
        obtain ⟨vg, vt, tl, rfl, hvg, hvt, htl⟩ : ∃ (vg vt : Value) (tl : List Nat), e = .returned (.tuple #[.agg #[.float .f64 0, vg], vt, .int .i64 0]) ∧ w4.ownsRow w3.heap.size 4 1 vg l.length ((List.replicate l.length false).map Value.bool) ∧ w4.ownsRow w3.heap.size 22 1 vt m.length (fls tl) ∧ ∀ k, k < m.length → tl.getD k 0 = 0 := by
          have ws := work_still HLO.out
          have e1 : nm 4611686018427387904 = some 4611686018427387904 := by decide
          have e2 : nm 4617315517961601024 = some 4617315517961601024 := by decide
          have e3 : nm 4598175219545276416 = some 4598175219545276416 := by decide
          have e0 : nm 0 = some 0 := by decide
          rcases hro with ⟨h, _⟩ | ⟨_, r, vg, vt, tl, rfl, h1, h2, h3, h4⟩
          · exact absurd ⟨rfl, hm50, hl6, List.length_replicate⟩ h
          · rw [e1, e2, e3, e0] at h1 h2 h4
            rw [run_still ws.1 ws.2 HM.out m.length (Nat.le_refl _)] at h1 h2
            have hr0 : r = 0 := (nm_eq h1).1
            subst hr0
            refine ⟨vg, vt, tl, rfl, ?_, h3, told_still ws.1 ws.2 HM.out tl h4⟩
            rw [atWork_gone l _ List.length_replicate] at h2
            exact h2
        obtain ⟨ga, gc, exg⟩ := own_slice hvg
        subst exg
        obtain ⟨ta, tc, ext⟩ := own_slice hvt
        subst ext
        have HB4 : Hid (Below w.heap.size w w4) := HB1.out.trans ((HB13.out.trans (hb4.mono HB13.out.size)).mono HB1.out.size)
        have HVG := hide' hvg
        have HVT := hide' hvt
        have HTL := hide' htl
        have HST := hide' (Step_any 13830554455654793216 4621819117588971520 4626322717216342016 4607182418800017408 4617315517961601024 4602678819172646912)
        have HTN : Hid (tl.length = m.length) := by show _ = _; have := hvt.1; rw [fls_len] at this; omega
        clear hro hb4 hvg hvt htl HRN HB3 HG3 HB13 HOL HLO
        have o0 : FloatKind.f64.format.order 0 0 = some .eq := by decide
        go_wp2_with fail
        have hE := alloc_new w4 (.cells #[.float .f64 0, .slice ga l.length gc] 25)
        have hbE := below_al w4 (.cells #[.float .f64 0, .slice ga l.length gc] 25)
        obtain ⟨D, hDq⟩ : ∃ E, E = w4.heap.size := ⟨_, rfl⟩
        obtain ⟨wA, hwA⟩ : ∃ W, W = w4.alloc (.cells #[.float .f64 0, .slice ga l.length gc] 25) := ⟨_, rfl⟩
        rw [← hwA] at hE hbE ⊢
        rw [← hDq] at hE
        rw [show (Value.pointer (some { block := w4.heap.size, off := 0 })) = Value.pointer (some { block := D, off := 0 }) by rw [hDq]]
        have HBA := hide' hbE
        have HDC := hide' hE
        clear hE hbE hDq hwA
        refine (HST.out wA).mono ?_
        rintro e w5 ⟨r5, n5, rfl, hr5, hw5⟩
        have hr6 : r5 = 13834607695319426662 := (nm_eq (hr5.trans step_mark)).1
        subst hr6
        have HB5 : Hid (Below w4.heap.size w4 w5) := by show Below _ _ _; rw [hw5]; exact below_drewN HBA.out n5
        have v1 : w5.cell? ⟨D, 1, none⟩ = some (.slice ga l.length gc) := by rw [hw5]; exact (cells_at HDC.out 1).trans rfl
        have o1 : FloatKind.f64.format.order 13834607695319426662 13834607695319426662 = some .eq := order_self (by decide)
        clear hr5 hw5 HBA HDC HST
        go_wp2_with fail
        go_loopw [11] (fun i wr => ∃ (k : Nat), i = .int .i64 k ∧ k ≤ m.length ∧ Hid (Below w5.heap.size w5 wr)) (fun i _ => m.length - (intOf i).toNat)
        case atStart => exact ⟨0, rfl, Nat.zero_le _, Below.refl _ w5⟩
        case round =>
          obtain ⟨kk, rfl, hkk, HW⟩ := hrel
          have HB6 : Hid (Below w4.heap.size w4 wr) := HB5.out.trans (HW.out.mono HB5.out.size)
          by_cases hlm : kk < m.length
          · obtain ⟨b1, o1', c1, ex1, hc1⟩ := fl_cell (rowAt_of_own HVT.out) kk (by rw [HTN.out]; exact hlm)
            cases ex1
            rw [HTL.out kk hlm] at hc1
            have e1 := up_cell HB6.out hc1
            clear hc1
            go_wp2
            go_roundw
            case rel => exact ⟨kk + 1, by go_num, by omega, HW.out⟩
            case measure => simp [intOf]; omega
          · go_wp2_with fail
            go_loopw [12] (fun i wr => ∃ (k : Nat), i = .int .i64 k ∧ k ≤ l.length ∧ Hid (Below w5.heap.size w5 wr)) (fun i _ => l.length - (intOf i).toNat)
            case atStart => exact ⟨0, rfl, Nat.zero_le _, HW.out⟩
            case round =>
              obtain ⟨k3, rfl, hk3, HW3⟩ := hrel
              have HB7 : Hid (Below w4.heap.size w4 wr) := HB5.out.trans (HW3.out.mono HB5.out.size)
              have v2 := up_cell HW3.out v1
              by_cases hl3 : k3 < l.length
              · obtain ⟨b2, o2', c2, ex2, hc2⟩ := bool_cell2 (rowAt_of_own HVG.out) k3 hl3
                cases ex2
                have hf : (List.replicate l.length false).getD k3 false = false := by rw [List.getD_eq_getElem?_getD, List.getElem?_replicate]; split <;> rfl
                rw [hf] at hc2
                have e2 := up_cell HB7.out hc2
                clear hc2 hf
                go_wp2
                go_roundw
                case rel => exact ⟨k3 + 1, by go_num, by omega, HW3.out⟩
                case measure => simp [intOf]; omega
              · have HBF : Hid (Below w.heap.size w wr) := HB4.out.trans (HB7.out.mono HB4.out.size)
                go_wp2
                go_ret
                exact ⟨rfl, HBF.out⟩
end Go.Proofs.Ytligmokepafnbaj
