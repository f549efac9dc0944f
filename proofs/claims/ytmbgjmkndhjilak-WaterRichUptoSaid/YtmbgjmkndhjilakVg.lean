/- WaterRich. -/
import Derived.Test.YtmbgjmkndhjilakVf
namespace Go.Proofs.Ytmbgjmkndhjilak
open Go.RowKit Go.Shelf

theorem own_apart {w : World} {B e sz n G : Nat} {v : Value} {xs : List Value} (h : w.ownsRow B e sz v n xs) (hne : v.ownBlock ≠ some G) (j : Nat) (x : Value) : (w.setCell ⟨G, j, none⟩ x).ownsRow B e sz v n xs := by
  refine ⟨h.1, ?_⟩
  rcases h.2 with h1 | ⟨g, cap, cur, rfl, h1, h2, h3⟩
  · exact .inl h1
  · refine .inr ⟨g, cap, cur, rfl, h1, ?_, h3⟩
    have hg : g ≠ G := fun e => hne (by rw [← e]; rfl)
    exact (Below.heap_setCell _ _ _ _ hg).trans h2
/-- Prices, and what water is worth at the end, in rows of their own. -/
structure RK (w3 W : World) (G H : Nat) (pr en : List Int) (ap : Option Addr) (cp : Nat) : Prop where
  b : Below w3.heap.size w3 W
  g : w3.heap.size ≤ G
  p : W.ownsRow w3.heap.size 3 1 (.slice ap H cp) H (ints pr)
  n : (Value.slice ap H cp).ownBlock ≠ some G
  e : W.heap[G]? = some (.cells (ints en).toArray 3 (0, 0))
theorem RK.set {w3 W : World} {G H : Nat} {pr en : List Int} {ap : Option Addr} {cp : Nat} (h : RK w3 W G H pr en ap cp) (j : Nat) (y : Int) : RK w3 (W.setCell ⟨G, j, none⟩ (.int .i64 y)) G H pr (en.set j y) ap cp :=
  ⟨h.b.setCell (p := ⟨G, j, none⟩) h.g _, h.g, own_apart h.p h.n j _, h.n, by rw [set_any h.e j (.int .i64 y), ints_set']⟩
/-- All that is read while the releases are told of. -/
structure RW (w W : World) (ls : List LakeM) (L H : Nat) (ti : List (List Int)) (pr en : List Int) (al ai ap : Option Addr) (cl ci cp G : Nat) : Prop where
  l : RowAt W (.slice al L cl) ls.length 5 (ls.flatMap LakeM.cells)
  t : TabAt W (.slice ai H ci) ti
  p : RowAt W (.slice ap H cp) H 1 (ints pr)
  e : RowAt W (.slice (some ⟨G, 0, none⟩) L L) L 1 (ints en)
  b : Below w.heap.size w W
theorem RW.more {w W W' : World} {ls : List LakeM} {L H : Nat} {ti : List (List Int)} {pr en : List Int} {al ai ap : Option Addr} {cl ci cp G : Nat} (h : RW w W ls L H ti pr en al ai ap cl ci cp G) (hb : Below W.heap.size W W') : RW w W' ls L H ti pr en al ai ap cl ci cp G :=
  ⟨h.l.below hb (Nat.le_refl _), h.t.below hb (Nat.le_refl _), h.p.below hb (Nat.le_refl _), h.e.below hb (Nat.le_refl _), h.b.trans (hb.mono h.b.size)⟩
set_option maxRecDepth 100000 in
set_option maxHeartbeats 8000000 in
theorem WaterRich_any (raw : List RawL) (hours : Int) (ri ro rp : List Int) (vr vi vo vp : Value) (w : World) (hx : RowAt w vr raw.length 5 (raw.flatMap RawL.cells)) (hI : ∀ d ∈ raw, I6 d.least ∧ I6 d.start ∧ I6 d.most ∧ I6 d.turb ∧ I6 d.worth) (hh : I6 hours) (hri : RowAt w vi ri.length 1 (ints ri)) (hii : ∀ x ∈ ri, I6 x) (hro : RowAt w vo ro.length 1 (ints ro)) (hoi : ∀ x ∈ ro, I6 x) (hrp : RowAt w vp rp.length 1 (ints rp)) (hpi : ∀ x ∈ rp, I6 x) (b1 : raw.length ≤ 9000000000000000000) (b2 : ri.length ≤ 9000000000000000000) (b3 : ro.length ≤ 9000000000000000000) (b4 : rp.length ≤ 9000000000000000000) :
    Calls Try.prog 3 #[vr, .int .i64 hours, vi, vo, vp] w fun e w' => e = .returned (.bool true) ∧ Below w.heap.size w w' := by
  obtain ⟨i3, hi3, h30, h31, h32⟩ := info_parts Try.info3'
  obtain ⟨H, hH, hpk⟩ := picked_is hours 6 hh (by decide) (by decide)
  have HPK : Hid (∀ w : World, Calls Try.prog 8 #[.int .i64 hours, .int .i64 6] w fun e w' => e = .returned (.int .i64 (H : Int)) ∧ w' = w) := hpk
  have HLF := hide' (lakesFrom_any raw vr w hx hI b1)
  have HTI : Hid (∀ (W : World) (L : Nat), Below w.heap.size w W → L ≤ 2 → Calls Try.prog 9 #[vi, .int .i64 (H : Int), .int .i64 (L : Int), .int .i64 5] W fun e w' => ∃ (t : List (List Int)) (v' : Value), e = .returned v' ∧ t.length = H ∧ (∀ l ∈ t, l.length = L ∧ ∀ x ∈ l, 0 ≤ x ∧ x < (5 : Nat)) ∧ StepsAt w' W.heap.size v' t ∧ Below W.heap.size W w') := fun W L hb hL => tableFrom_any ri vi H L 5 W (hri.below hb (Nat.le_refl _)) hii b2 (by omega) hL (by decide) (by decide)
  have HTO : Hid (∀ (W : World) (L : Nat), Below w.heap.size w W → L ≤ 2 → Calls Try.prog 9 #[vo, .int .i64 (H : Int), .int .i64 (L : Int), .int .i64 5] W fun e w' => ∃ (t : List (List Int)) (v' : Value), e = .returned v' ∧ t.length = H ∧ (∀ l ∈ t, l.length = L ∧ ∀ x ∈ l, 0 ≤ x ∧ x < (5 : Nat)) ∧ StepsAt w' W.heap.size v' t ∧ Below W.heap.size W w') := fun W L hb hL => tableFrom_any ro vo H L 5 W (hro.below hb (Nat.le_refl _)) hoi b3 (by omega) hL (by decide) (by decide)
  have HHP : Hid (∀ (W : World), Below w.heap.size w W → Calls Try.prog 10 #[vp, .int .i64 (H : Int), .int .i64 9] W fun e w' => ∃ (l : List Int) (v' : Value), e = .returned v' ∧ l.length = H ∧ (∀ x ∈ l, 0 ≤ x ∧ x < (9 : Nat)) ∧ w'.ownsRow W.heap.size 3 1 v' l.length (ints l) ∧ Below W.heap.size W w') := fun W hb => hoursFrom_any rp vp H 9 W (hrp.below hb (Nat.le_refl _)) hpi (by omega) (by decide) (by decide)
  have HX := hide' hrp
  have HI : Hid (∀ k, k < rp.length → I6 (rp.getD k 0)) := fun k hk => hpi _ (getD_mem hk)
  obtain ⟨ar, cr, rfl⟩ := rowAt_slice hrp
  clear hpk hx hI hri hii hro hoi b1 b2 b3 hh hrp hpi
  go_enter Try.func3, Try.ntmps3
  go_wp2_with fail
  refine HLF.out.mono ?_
  rintro e w1 ⟨ls, v1, rfl, hl2, hok, hown, hb1⟩
  obtain ⟨al, cl, hal⟩ := own_slice hown
  subst hal
  obtain ⟨L, hL⟩ : ∃ x, x = ls.length := ⟨_, rfl⟩
  have HLL := hide' hL.symm
  have HOK := hide' hok
  have HR1 : Hid (RowAt w1 (.slice al L cl) ls.length 5 (ls.flatMap LakeM.cells)) := by rw [hL]; exact rowAt_of_own hown
  have HB1 := hide' hb1
  rw [← hL] at hl2 ⊢
  clear hown hb1 hok hL HLF
  go_wp2_with fail
  refine (HPK.out _).mono ?_
  rintro e w2 ⟨rfl, hw2⟩
  obtain rfl := hw2.symm
  have HT1 := hide' (HTI.out w1 L HB1.out hl2)
  clear hw2 HPK HTI
  go_wp2_with fail
  refine HT1.out.mono ?_
  rintro e w3 ⟨ti, v3, rfl, hti, hiL, hst, hb3⟩
  obtain ⟨ai, ci, hai⟩ := hst.slice
  subst hai
  rw [hti] at hst ⊢
  have HI3 := hide' hst.tab
  have HIL := hide' (And.intro hti hiL)
  have HB3 : Hid (Below w.heap.size w w3) := HB1.out.trans (hb3.mono HB1.out.size)
  have HR3 := hide' (HR1.out.below hb3 (Nat.le_refl _))
  have HHF : Hid (∀ (W : World), Below w3.heap.size w3 W → Calls Try.prog 10 #[.slice ar rp.length cr, .int .i64 (H : Int), .int .i64 9] W fun e w' => ∃ (l : List Int) (v' : Value), e = .returned v' ∧ l.length = H ∧ (∀ x ∈ l, 0 ≤ x ∧ x < (9 : Nat)) ∧ w'.ownsRow W.heap.size 3 1 v' l.length (ints l) ∧ Below W.heap.size W w') := fun W hb => HHP.out W (HB3.out.trans (hb.mono HB3.out.size))
  clear hti hiL hst hb3 HT1 HR1 HB1 HHP
  go_upto_region 4 with fail
  go_cut [14, 15] from 33 to 39 (fun pv ev wc => ∃ (ap : Option Addr) (cp G : Nat) (pr : List Int), pv = .slice ap H cp ∧ ev = .slice (some ⟨G, 0, none⟩) L L ∧ Hid (pr.length = H ∧ ∀ x ∈ pr, 0 ≤ x ∧ x < (9 : Nat)) ∧ Hid (RK w3 wc G H pr (List.replicate L 0) ap cp))
  case first =>
    as_aux_lemma =>
      refine wp_region_tail (fun _ => True) 7 (by kernel_rfl) ?_
      refine wpAnyT_letter (fun W => Below w3.heap.size w3 W) (Below.refl _ w3).drew ?_
      rintro y0 hbz
      refine wpAnyD_takeAt 0 (some 33) (v := ?_) rfl (by kernel_rfl) (by kernel_rfl) (by kernel_rfl) (by kernel_rfl) (by kernel_rfl) (fun _ _ _ h => h) (by exact trivial) (fun o hop => ?_) ?_
      rotate_left
      · injection hop with hop
        subst hop
        refine ⟨rfl, fun W hW => ?_⟩
        obtain ⟨⟩ := hW
        go_simp
        first
        | rfl
        | (constructor <;> rfl)
        | rw [if_neg (by omega)]
      try simp only [Act.put, List.setIfInBounds_toArray, List.set_cons_zero, List.set_cons_succ]
      refine wpAnyD_takeAt 1 (some 34) (v := ?_) rfl (by kernel_rfl) (by kernel_rfl) (by kernel_rfl) (by kernel_rfl) (by kernel_rfl) (fun _ _ _ h => h) (by exact trivial) (fun o hop => ?_) ?_
      rotate_left
      · injection hop with hop
        subst hop
        refine ⟨rfl, fun W hW => ?_⟩
        obtain ⟨⟩ := hW
        go_simp
        first
        | rfl
        | (constructor <;> rfl)
        | rw [if_neg (by omega)]
      try simp only [Act.put, List.setIfInBounds_toArray, List.set_cons_zero, List.set_cons_succ]
      refine wpAnyD_takeAt 3 (some 36) (v := ?_) rfl (by kernel_rfl) (by kernel_rfl) (by kernel_rfl) (by kernel_rfl) (by kernel_rfl) (fun _ _ _ h => h) (by exact trivial) (fun o hop => ?_) ?_
      rotate_left
      · injection hop with hop
        subst hop
        refine ⟨rfl, fun W hW => ?_⟩
        obtain ⟨⟩ := hW
        go_simp
        first
        | rfl
        | (constructor <;> rfl)
        | rw [if_neg (by omega)]
      try simp only [Act.put, List.setIfInBounds_toArray, List.set_cons_zero, List.set_cons_succ]
      refine wpAnyD_takeAt 4 (some 37) (v := ?_) rfl (by kernel_rfl) (by kernel_rfl) (by kernel_rfl) (by kernel_rfl) (by kernel_rfl) (fun _ _ _ h => h) (by exact trivial) (fun o hop => ?_) ?_
      rotate_left
      · injection hop with hop
        subst hop
        refine ⟨rfl, fun W hW => ?_⟩
        obtain ⟨⟩ := hW
        go_simp
        first
        | rfl
        | (constructor <;> rfl)
        | rw [if_neg (by omega)]
      try simp only [Act.put, List.setIfInBounds_toArray, List.set_cons_zero, List.set_cons_succ]
      refine wpAnyT_two (i := 2) (j := 5) (by kernel_rfl) rfl rfl rfl rfl (fun K' hK => ?_) (fun K' hK => ?_)
      · -- the prices first
        go_simp
        go_at_call 10
        refine (HHF.out _ (hbz)).mono ?_
        rintro e y1 ⟨pr, v', rfl, hpl, hpb, hown, hbh⟩
        obtain ⟨ap, cp, hap⟩ := own_slice hown
        subst hap
        rw [hpl] at hown ⊢
        have HPB := hide' (And.intro hpl hpb)
        clear hpl hpb
        refine hK.out _ _ (fun _ => trivial) ?_
        clear hK K'
        refine wpAnyT_two (i := 5) (j := 6) (by kernel_rfl) rfl rfl rfl rfl (fun K' hK => ?_) (fun K' hK => ?_)
        · refine step_make_full rfl _ _ 23 rfl y1.heap.size 3 i3 (.int .i64 0) 1 Try.underlying23 hi3 h30 h31 .i64 .i64 _ _ L rfl rfl rfl rfl (by rw [h32]; omega) (by unfold maxLen; omega) (Nat.le_refl _) ?_
          intro y2 hown2 hgr2
          rw [made_int] at hown2
          have HB2 : Hid (Below y1.heap.size y1 y2) := (Below.refl _ y1).grown hgr2 (Nat.le_refl _) (fun k e => by cases e)
          have HB1 : Hid (Below w3.heap.size w3 y1) := hbz.trans (hbh.mono hbz.size)
          have HRK : Hid (RK w3 y2 y1.heap.size H pr (List.replicate L 0) ap cp) := ⟨HB1.out.trans (HB2.out.mono HB1.out.size), HB1.out.size, own_mono (own_below hown HB2.out (Nat.le_refl _)) hbz.size, fun e => by have := own_lt hown e; omega, row_cells hown2⟩
          refine hK.out _ _ (fun _ => trivial) ?_
          clear hK K'
          refine wpAnyT_one (i := 6) (by kernel_rfl) rfl rfl (fun K' hK => ?_)
          go_simp
          refine hK.out _ _ (fun _ => trivial) ?_
          clear hK K'
          refine wpAnyT_one (i := 7) (by kernel_rfl) rfl rfl (fun K' hK => ?_)
          go_simp
          refine hK.out _ _ (fun _ => trivial) ?_
          clear hK K'
          refine wpAnyT_done (by kernel_rfl) ?_ _
          go_wp2_with fail
          go_meet
          case rel => exact ⟨ap, cp, _, pr, rfl, rfl, HPB, HRK⟩
        · go_simp
          refine hK.out _ _ (fun _ => trivial) ?_
          clear hK K'
          refine wpAnyT_one (i := 5) (by kernel_rfl) rfl rfl (fun K' hK => ?_)
          refine step_make_full rfl _ _ 23 rfl y1.heap.size 3 i3 (.int .i64 0) 1 Try.underlying23 hi3 h30 h31 .i64 .i64 _ _ L rfl rfl rfl rfl (by rw [h32]; omega) (by unfold maxLen; omega) (Nat.le_refl _) ?_
          intro y2 hown2 hgr2
          rw [made_int] at hown2
          have HB2 : Hid (Below y1.heap.size y1 y2) := (Below.refl _ y1).grown hgr2 (Nat.le_refl _) (fun k e => by cases e)
          have HB1 : Hid (Below w3.heap.size w3 y1) := hbz.trans (hbh.mono hbz.size)
          have HRK : Hid (RK w3 y2 y1.heap.size H pr (List.replicate L 0) ap cp) := ⟨HB1.out.trans (HB2.out.mono HB1.out.size), HB1.out.size, own_mono (own_below hown HB2.out (Nat.le_refl _)) hbz.size, fun e => by have := own_lt hown e; omega, row_cells hown2⟩
          refine hK.out _ _ (fun _ => trivial) ?_
          clear hK K'
          refine wpAnyT_one (i := 7) (by kernel_rfl) rfl rfl (fun K' hK => ?_)
          go_simp
          refine hK.out _ _ (fun _ => trivial) ?_
          clear hK K'
          refine wpAnyT_done (by kernel_rfl) ?_ _
          go_wp2_with fail
          go_meet
          case rel => exact ⟨ap, cp, _, pr, rfl, rfl, HPB, HRK⟩
      · refine step_make_full rfl _ _ 23 rfl y0.heap.size 3 i3 (.int .i64 0) 1 Try.underlying23 hi3 h30 h31 .i64 .i64 _ _ L rfl rfl rfl rfl (by rw [h32]; omega) (by unfold maxLen; omega) (Nat.le_refl _) ?_
        intro y1 hown2 hgr2
        rw [made_int] at hown2
        have HB1 : Hid (Below y0.heap.size y0 y1) := (Below.refl _ y0).grown hgr2 (Nat.le_refl _) (fun k e => by cases e)
        have HC1 := hide' (row_cells hown2)
        refine hK.out _ _ (fun _ => trivial) ?_
        clear hK K' hown2 hgr2
        refine wpAnyT_one (i := 2) (by kernel_rfl) rfl rfl (fun K' hK => ?_)
        go_simp
        go_at_call 10
        refine (HHF.out _ (hbz.trans (HB1.out.mono hbz.size))).mono ?_
        rintro e y2 ⟨pr, v', rfl, hpl, hpb, hown, hbh⟩
        obtain ⟨ap, cp, hap⟩ := own_slice hown
        subst hap
        rw [hpl] at hown ⊢
        have HPB := hide' (And.intro hpl hpb)
        clear hpl hpb
        refine hK.out _ _ (fun _ => trivial) ?_
        have HRK : Hid (RK w3 y2 y0.heap.size H pr (List.replicate L 0) ap cp) := ⟨(hbz.trans (HB1.out.mono hbz.size)).trans (hbh.mono (Nat.le_trans hbz.size HB1.out.size)), hbz.size, own_mono hown (Nat.le_trans hbz.size HB1.out.size), fun e => by have h1 := own_at hown _ e; have h2 := lt_heap HC1.out; omega, (hbh.block _ (lt_heap HC1.out)).trans HC1.out⟩
        clear hK K'
        refine wpAnyT_one (i := 6) (by kernel_rfl) rfl rfl (fun K' hK => ?_)
        go_simp
        refine hK.out _ _ (fun _ => trivial) ?_
        clear hK K'
        refine wpAnyT_one (i := 7) (by kernel_rfl) rfl rfl (fun K' hK => ?_)
        go_simp
        refine hK.out _ _ (fun _ => trivial) ?_
        clear hK K'
        refine wpAnyT_done (by kernel_rfl) ?_ _
        go_wp2_with fail
        go_meet
        case rel => exact ⟨ap, cp, _, pr, rfl, rfl, HPB, HRK⟩
  case rest =>
    obtain ⟨ap, cp, G, pr, rfl, rfl, HPB, HRK⟩ := hcut
    clear HHF
    go_upto_block 0 with fail
    go_cut [16] from 39 to 59 (fun _ wc => ∃ en : List Int, Hid (en.length = L ∧ ∀ x ∈ en, 0 ≤ x ∧ x < (7 : Nat)) ∧ Hid (RK w3 wc G H pr en ap cp))
    case first =>
      as_aux_lemma =>
        go_wp2_with fail
        go_loopw [16] (fun iv wr => ∃ (k : Nat) (en : List Int), iv = .int .i64 k ∧ k ≤ L ∧ Hid (en.length = L ∧ ∀ x ∈ en, 0 ≤ x ∧ x < (7 : Nat)) ∧ Hid (RK w3 wr G H pr en ap cp)) (fun iv _ => L - (intOf iv).toNat)
        case atStart => exact ⟨0, List.replicate L 0, rfl, Nat.zero_le _, ⟨List.length_replicate, fun x hx => by rw [(List.mem_replicate.1 hx).2]; omega⟩, HRK⟩
        case round =>
          obtain ⟨k, en, rfl, hk, HE, HW⟩ := hrel
          by_cases hlt : k < L
          · by_cases hkr : k < rp.length
            · obtain ⟨bt, ot, ct, ex, hct⟩ := ints_cell HX.out k hkr
              cases ex
              obtain ⟨q, hq, hpc⟩ := picked_is (rp.getD k 0) 7 (HI.out k hkr) (by decide) (by decide)
              obtain ⟨x, hx⟩ : ∃ x, x = rp.getD k 0 := ⟨_, rfl⟩
              rw [← hx] at hct hpc
              have HPC : Hid (∀ w : World, Calls Try.prog 8 #[.int .i64 x, .int .i64 7] w fun e w' => e = .returned (.int .i64 (q : Int)) ∧ w' = w) := hpc
              have hc1 := up_cell (HB3.out.trans (HW.out.b.mono HB3.out.size)) hct
              have hlj : k < (ints en).length := by unfold ints; rw [List.length_map, HE.out.1]; exact hlt
              have g0 : wr.cell? ⟨G, k, none⟩ = some ((ints en)[k]'hlj) := (cells_at HW.out.e k).trans (by rw [List.getElem?_toArray, List.getElem?_eq_getElem hlj])
              obtain ⟨gv, hgv⟩ : ∃ x, x = (ints en)[k]'hlj := ⟨_, rfl⟩
              rw [← hgv] at g0
              have t0 := frozen_no HW.out.e k
              have HN := hide' (HW.out.set k (q : Int))
              have HLS : Hid ((en.set k (q : Int)).length = L ∧ ∀ x ∈ en.set k (q : Int), 0 ≤ x ∧ x < (7 : Nat)) := ⟨by rw [List.length_set]; exact HE.out.1, fun y hy => by
                rcases List.mem_or_eq_of_mem_set hy with h | h
                · exact HE.out.2 y h
                · rw [h]; omega⟩
              clear hct hpc hx hgv hlj HW HE
              go_wp2_with fail
              refine (HPC.out _).mono ?_
              rintro e zz ⟨rfl, hzz⟩
              obtain rfl := hzz.symm
              go_wp2_with fail
              go_roundw
              case rel => exact ⟨k + 1, en.set k (q : Int), by go_num, by omega, HLS, HN⟩
              case measure => simp [intOf]; omega
            · go_wp2_with fail
              go_meet
              case rel => exact ⟨en, HE, HW⟩
          · obtain rfl : k = L := by omega
            go_wp2_with fail
            go_meet
            case rel => exact ⟨en, HE, HW⟩
    case rest =>
      obtain ⟨en, HE, HK⟩ := hcut
      have HP : Hid (PlanOk ls L H ti pr en) := ⟨HOK.out, HLL.out, hl2, by omega, HIL.out.1, fun l hl => (HIL.out.2 l hl).1, fun l hl x hx => by have := (HIL.out.2 l hl).2 x hx; omega, HPB.out.1, fun x hx => by have := HPB.out.2 x hx; omega, HE.out.1, fun x hx => by have := HE.out.2 x hx; omega⟩
      have HW : Hid (RW w wc ls L H ti pr en al ai ap cl ci cp G) := ⟨HR3.out.below HK.out.b (Nat.le_refl _), HI3.out.below HK.out.b (Nat.le_refl _), rowAt_of_own HK.out.p, rowAt_of_own (ints_own (B := 0) HK.out.e (Nat.zero_le _) HE.out.1 (by omega)), HB3.out.trans (HK.out.b.mono HB3.out.size)⟩
      clear HRK HK HE HPB HR3 HI3 HB3 HIL HOK HX HI
      have HBE := hide' (Best_ok HP.out wc HW.out.l HW.out.t HW.out.p HW.out.e)
      obtain ⟨X, hX⟩ : ∃ x, x = (lookD ls L ti pr en H 0 (startS ls L)).1 := ⟨_, rfl⟩
      have hXb : -1 ≤ X ∧ X ≤ 100000000 := by
        have h := look_bd HP.out H 0 (startS ls L) (by omega) (good_start HP.out.ok HP.out.l)
        omega
      have HPW : Hid (∀ r : RunR, runK ls L ti (planK ls L H ti pr en H).2 H = some r → earnT ls L pr (planK ls L H ti pr en H).2 H + keptK en r.s.l0 r.s.l1 L = X) := fun r hr => by
        obtain ⟨q, h1, h2⟩ := plan_run HP.out H (Nat.le_refl _)
        rw [hr] at h1
        cases h1
        have h := plan_worth HP.out H 0 (by omega)
        rw [← h2] at h
        rw [h, hX]
        show (0 : Int) + _ = _
        rw [Int.zero_add]
        rfl
      have HPL : Hid (∀ (tr : List (List Int)) (r : RunR), runK ls L ti tr H = some r → earnT ls L pr tr H + keptK en r.s.l0 r.s.l1 L ≤ X) := fun tr r hr => by
        have h := run_le HP.out hr H 0 _ (by omega) rfl
        rw [hX]
        refine Int.le_trans h ?_
        show (0 : Int) + _ ≤ _
        rw [Int.zero_add]
        exact Int.le_refl _
      have HRN : Hid (∃ r, runK ls L ti (planK ls L H ti pr en H).2 H = some r) := by
        obtain ⟨q, h1, _⟩ := plan_run HP.out H (Nat.le_refl _)
        exact ⟨q, h1⟩
      have HTP := hide' (plan_tab HP.out)
      unfold BestG at HBE
      rw [← hX] at HBE
      clear hX
      obtain ⟨tp, htp⟩ : ∃ x, x = (planK ls L H ti pr en H).2 := ⟨_, rfl⟩
      rw [← htp] at HBE HPW HRN HTP
      clear htp
      go_wp2_with fail
      refine HBE.out.mono ?_
      rintro e w6 ⟨v6, rfl, hst, hb6⟩
      obtain ⟨at6, ct6, hat⟩ := hst.slice
      subst hat
      rw [HTP.out.n] at hst ⊢
      have HT6 := hide' hst.tab
      have HW6 := hide' (HW.out.more hb6)
      have HR6 := hide' (Run_ok HP.out HTP.out HW6.out.l HW6.out.t HT6.out)
      clear hst hb6 HBE HW
      go_wp2_with fail
      refine HR6.out.mono ?_
      rintro e w7 ⟨hcase, hb7⟩
      rcases hcase with ⟨hn, _⟩ | ⟨r, a1, c1, v2, hrun, rfl, hv1⟩
      · obtain ⟨r, hr⟩ := HRN.out
        rw [hn] at hr
        cases hr
      · have HW7 := hide' (HW6.out.more hb7)
        have HT7 := hide' (HT6.out.below hb7 (Nat.le_refl _))
        have HV7 := hide' hv1
        have HWR : Hid (Calls Try.prog 13 #[.slice al L cl, .slice at6 H ct6, .slice a1 H c1, .slice ap H cp, .slice (some ⟨G, 0, none⟩) L L] w7 fun e w' => e = .returned (.int .i64 X) ∧ Below w7.heap.size w7 w') := by
          have h := worth_run HP.out HTP.out hrun HW7.out.l HT7.out HV7.out HW7.out.p HW7.out.e
          rw [HPW.out r hrun] at h
          exact h
        clear hrun hv1 hb7 HR6 HW6 HT6 HPW HRN
        go_wp2_with fail
        refine HWR.out.mono ?_
        rintro e w8 ⟨rfl, hb8⟩
        have HW8 := hide' (HW7.out.more hb8)
        have HT8 := hide' (HTO.out w8 L HW8.out.b hl2)
        clear hb8 HW7 HT7 HV7 HTO HWR
        go_wp2_with fail
        refine HT8.out.mono ?_
        rintro e w9 ⟨tr, v9, rfl, htr, hrL, hst, hb9⟩
        obtain ⟨ao, co, hao⟩ := hst.slice
        subst hao
        rw [htr] at hst ⊢
        have HO9 := hide' hst.tab
        have HTR : Hid (TabOk L H tr) := ⟨htr, fun l hl => (hrL l hl).1, fun l hl x hx => by have := (hrL l hl).2 x hx; omega⟩
        have HW9 := hide' (HW8.out.more hb9)
        have HR9 := hide' (Run_ok HP.out HTR.out HW9.out.l HW9.out.t HO9.out)
        clear htr hrL hst hb9 HT8 HW8
        go_wp2_with fail
        refine HR9.out.mono ?_
        rintro e wa ⟨hcase, hba⟩
        have HWA := hide' (HW9.out.more hba)
        rcases hcase with ⟨_, rfl⟩ | ⟨r2, a2, c2, v4, hrun2, rfl, hv2⟩
        · have HBA := hide' HWA.out.b
          clear hba HR9 HW9 HWA HO9
          go_wp2
          go_ret
          exact ⟨rfl, HBA.out⟩
        · have HO10 := hide' (HO9.out.below hba (Nat.le_refl _))
          have HV10 := hide' hv2
          obtain ⟨Y, hY⟩ : ∃ x, x = earnT ls L pr tr H + keptK en r2.s.l0 r2.s.l1 L := ⟨_, rfl⟩
          have hYX : Y ≤ X := by rw [hY]; exact HPL.out tr r2 hrun2
          have HWS := hide' (worth_run HP.out HTR.out hrun2 HWA.out.l HO10.out HV10.out HWA.out.p HWA.out.e)
          rw [← hY] at HWS
          clear hY hrun2 hv2 hba HR9 HW9 HO9 HPL
          go_wp2_with fail
          refine HWS.out.mono ?_
          rintro e wb ⟨rfl, hbb⟩
          have HBB := hide' (HWA.out.b.trans (hbb.mono HWA.out.b.size))
          clear hbb HWA HO10 HV10 HWS
          go_wp2
          go_ret
          exact ⟨rfl, HBB.out⟩
end Go.Proofs.Ytmbgjmkndhjilak
