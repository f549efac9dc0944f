/- The document's search, hour by hour. -/
import Derived.Test.YtnhddmcdmcpkeajGC
import Derived.Test.YtnhddmcdmcpkeajGF
import Derived.Test.YtnhddmcdmcpkeajX7
namespace Go.Proofs.Ytnhddmcdmcpkeaj
open Go.RowKit Go.Shelf

theorem wets_first {W z : World} {L : Nat} {ls : List LakeM} {sa : Option Addr} {sc : Nat} {G : Nat} (h1 : z.ownsRow 0 3 1 (.slice sa L sc) L (ints (listOf (startS ls L).l0 (startS ls L).l1 L))) (h2 : z.ownsRow 0 3 1 (.slice (some ⟨G, 0, none⟩) L L) L (ints (listOf 0 0 L))) (hb : Below W.heap.size W z) :
    Hid (WetsAt (z.alloc (.cells #[.slice sa L sc, .slice (some ⟨G, 0, none⟩) L L, .int .i64 0, .slice none 0 0] 93)) W.heap.size (.slice (some ⟨z.heap.size, 0, none⟩) 1 1) L [⟨startS ls L, 0, []⟩] ∧ Below W.heap.size W (z.alloc (.cells #[.slice sa L sc, .slice (some ⟨G, 0, none⟩) L L, .int .i64 0, .slice none 0 0] 93))) := by
  have hba := below_al z (.cells #[.slice sa L sc, .slice (some ⟨G, 0, none⟩) L L, .int .i64 0, .slice none 0 0] 93)
  refine ⟨⟨[[.slice sa L sc, .slice (some ⟨G, 0, none⟩) L L, .int .i64 0, .slice none 0 0]], rfl, fun c hc => by rw [List.mem_singleton.1 hc]; rfl, ⟨rfl, .inr ⟨_, _, _, rfl, hb.size, alloc_new z _, Nat.le_refl _, by unfold maxLen; omega, rfl, rfl⟩⟩, fun j x c hx hc => ?_⟩, hb.trans (hba.mono hb.size)⟩
  match j with
  | 0 =>
    simp at hx hc
    subst hx hc
    refine ⟨sa, sc, _, _, none, 0, rfl, own_below h1 hba (Nat.le_refl _), ?_, StepsAt.nil _ _⟩
    exact own_below h2 hba (Nat.le_refl _)
  | j + 1 => simp at hx
/-- No panic. -/
def calmQ (Q : Exit → Act → World → Prop) : Exit → Act → World → Prop
  | .panic _, _, _ => False
  | e, a, w => Q e a w
theorem calm_le {Q : Exit → Act → World → Prop} {e : Exit} {a : Act} {w : World} (h : calmQ Q e a w) : Q e a w := by
  cases e <;> first | exact h | exact h.elim
theorem calm_exit {Q : Exit → Act → World → Prop} {n : Nat} {a : Act} {w : World} (h : Q (.exit n) a w) : calmQ Q (.exit n) a w := h
/-- What the document's search answers. -/
def RicG (ls : List LakeM) (L H : Nat) (ti : List (List Int)) (pr en : List Int) (W : World) (e : Ending) (w' : World) : Prop := ∃ v, e = .returned (.tuple #[v, .int .i64 (lookD ls L ti pr en H 0 (startS ls L)).1, .int .i64 0]) ∧ StepsAt w' 0 v (planK ls L H ti pr en H).2 ∧ Below W.heap.size W w'
theorem now_some {ls : List LakeM} {L H : Nat} {ti : List (List Int)} {pr en : List Int} (hp : PlanOk ls L H ti pr en) : 0 < (nowL ls L ti pr (relN ls L) H).length := by
  have ha := rel_all hp.ok hp.l hp.L2
  obtain ⟨q', p1, _⟩ := plan_run hp H (Nat.le_refl _)
  have prow : ∀ l ∈ (planK ls L H ti pr en H).2, l ∈ relN ls L := fun l hl => by
    obtain ⟨k, hk, rfl⟩ := List.mem_iff_getElem.1 hl
    have hk' : k < H := by rw [plan_len] at hk; exact hk
    rw [← getD_at hk, planR_row hk']
    have hf := planR_fit hp hk'
    have ht := free_turb (ls := ls) (L := L) (f := fullH L ti k (planK ls L H ti pr en k).1)
    have f0 := hf.a0; have f1 := hf.a1; have f2 := hf.b0; have f3 := hf.b1
    exact ha.full _ _ ⟨f0, fun h => Int.le_trans f1 (ht.1 h)⟩ ⟨f2, fun h => Int.le_trans f3 (ht.2 h)⟩
  obtain ⟨w, hw, _⟩ := now_all (pr := pr) ha.len H (planK ls L H ti pr en H).2 q' (plan_len H) prow p1
  exact List.length_pos_of_mem hw
section
variable {ls : List LakeM} {L H : Nat} {ti : List (List Int)} {pr en : List Int} {al ai ap ae : Option Addr} {cl ci cp ce : Nat}
set_option maxRecDepth 100000 in
set_option maxHeartbeats 8000000 in
theorem Ric_ok (hp : PlanOk ls L H ti pr en) (W : World) (hA : BA ls L H H L ti pr en al ai ap ae cl ci cp ce W) (hm : mayE ls ti = 0) : Calls Try.prog 29 #[.slice al L cl, .slice ai H ci, .slice ap H cp, .slice ae L ce] W (RicG ls L H ti pr en W) := by
  obtain ⟨i3, hi3, h30, h31, h32⟩ := info_parts Try.info3'
  have HM := hide' (may_call W hA)
  rw [hm] at HM
  have HX := hide' hA.h1
  have HTI := hide' hA.h2
  have HP := hide' hA.h3
  have HE := hide' hA.h4
  have HPL := hide' hA.hP
  have HEL := hide' hA.hE
  have hL2 := hp.L2
  have hH8 := hp.H8
  have HPO := hide' hp
  have wi : ∀ {l : List Int}, (∀ x ∈ l, 0 ≤ x ∧ x ≤ 1000) → (l.all fun x => withinB x 0 1000) = true := fun {l} h => List.all_eq_true.2 fun x hx => by
    unfold withinB
    have := h x hx
    simp only [Bool.and_eq_true, decide_eq_true_eq]
    exact this
  have HALL := hide' (wi hp.pb)
  have HALE := hide' (wi hp.eb)
  have HSO := hide' (fun w' (hb : Below W.heap.size W w') => startsOf_any ls (.slice al ls.length cl) w' (by rw [hp.l]; have h := hA.h1.below hb (Nat.le_refl _); rw [hp.l] at h; exact h) (by rw [hp.l]; omega))
  rw [hp.l, doc_starts hp.l hL2] at HSO
  have HRO := hide' (fun w' (hb : Below W.heap.size W w') => releasesOf_any ls hp.ok al L cl w' (hA.h1.below hb (Nat.le_refl _)) hp.l hL2)
  obtain ⟨PQ, hPQ⟩ : ∃ P, P = RicG ls L H ti pr en W := ⟨_, rfl⟩
  rw [← hPQ]
  have HPQ : Hid (∀ e w', RicG ls L H ti pr en W e w' → PQ e w') := fun e w' h => by rw [hPQ]; exact h
  clear hm hA hp wi hPQ
  go_enter Try.func29, Try.ntmps29
  go_wp2_with fail
  refine HM.out.mono ?_
  rintro e w1 ⟨rfl, hb⟩
  have HB := hide' hb
  clear hb HM
  go_wp2_with fail
  go_loopw [12] (fun i wr => ∃ (k : Nat), i = .int .i64 k ∧ k ≤ H ∧ Hid (∀ j, j < k → withinB (pr.getD j 0) 0 1000 = true) ∧ Hid (Below W.heap.size W wr)) (fun i _ => H - (intOf i).toNat)
  case atStart => exact ⟨0, rfl, Nat.zero_le _, (fun j h => absurd h (Nat.not_lt_zero j)), HB.out⟩
  case round =>
    obtain ⟨k, rfl, hk, HOK, HBE⟩ := hrel
    by_cases hlt : k < H
    · obtain ⟨b1, o1, c1, ex1, hc1⟩ := ints_cell2 HP.out k (by rw [HPL.out]; exact hlt)
      cases ex1
      have d1 := up_cell HBE.out hc1
      have HI := hide' (inBounds_any (pr.getD k 0) 0 1000)
      obtain ⟨x, hx⟩ : ∃ x, x = pr.getD k 0 := ⟨_, rfl⟩
      rw [← hx] at d1 HI
      cases hq : withinB x 0 1000 with
      | false =>
        exfalso
        have h := List.all_eq_true.1 HALL.out (pr.getD k 0) (by rw [List.getD_eq_getElem?_getD, List.getElem?_eq_getElem (by rw [HPL.out]; exact hlt)]; exact List.getElem_mem _)
        rw [← hx, hq] at h
        cases h
      | true =>
        rw [hq] at HI
        have HOK2 : Hid (∀ j, j < k + 1 → withinB (pr.getD j 0) 0 1000 = true) := fun j hj => by
          by_cases e : j = k
          · rw [e, ← hx]; exact hq
          · exact HOK.out j (by omega)
        clear hc1 hx hq HOK
        go_wp2_with fail
        refine (HI.out _).mono ?_
        rintro e w2 ⟨rfl, rfl⟩
        go_wp2_with fail
        go_roundw
        case rel => exact ⟨k + 1, by go_num, by omega, HOK2.out, HBE.out⟩
        case measure => simp [intOf]; omega
    · have HB2 := hide' HBE.out
      clear HOK HBE
      go_wp2_with fail
      go_loopw [13] (fun i wr => ∃ (k : Nat), i = .int .i64 k ∧ k ≤ L ∧ Hid (∀ j, j < k → withinB (en.getD j 0) 0 1000 = true) ∧ Hid (Below W.heap.size W wr)) (fun i _ => L - (intOf i).toNat)
      case atStart => exact ⟨0, rfl, Nat.zero_le _, (fun j h => absurd h (Nat.not_lt_zero j)), HB2.out⟩
      case round =>
        obtain ⟨k, rfl, hk, HOK, HBE⟩ := hrel
        by_cases hlt : k < L
        · obtain ⟨b1, o1, c1, ex1, hc1⟩ := ints_cell2 HE.out k (by rw [HEL.out]; exact hlt)
          cases ex1
          have d1 := up_cell HBE.out hc1
          have HI := hide' (inBounds_any (en.getD k 0) 0 1000)
          obtain ⟨x, hx⟩ : ∃ x, x = en.getD k 0 := ⟨_, rfl⟩
          rw [← hx] at d1 HI
          cases hq : withinB x 0 1000 with
          | false =>
            exfalso
            have h := List.all_eq_true.1 HALE.out (en.getD k 0) (by rw [List.getD_eq_getElem?_getD, List.getElem?_eq_getElem (by rw [HEL.out]; exact hlt)]; exact List.getElem_mem _)
            rw [← hx, hq] at h
            cases h
          | true =>
            rw [hq] at HI
            have HOK2 : Hid (∀ j, j < k + 1 → withinB (en.getD j 0) 0 1000 = true) := fun j hj => by
              by_cases e : j = k
              · rw [e, ← hx]; exact hq
              · exact HOK.out j (by omega)
            clear hc1 hx hq HOK
            go_wp2_with fail
            refine (HI.out _).mono ?_
            rintro e w2 ⟨rfl, rfl⟩
            go_wp2_with fail
            go_roundw
            case rel => exact ⟨k + 1, by go_num, by omega, HOK2.out, HBE.out⟩
            case measure => simp [intOf]; omega
        · have HB3 := hide' HBE.out
          clear HOK HBE HB2
          go_upto_region 16 with fail
          go_cut [14] from 77 to 83 (fun p14 wc => ∃ (an : Option Addr) (cn : Nat), p14 = .slice an 1 cn ∧ Hid (WetsAt wc W.heap.size (.slice an 1 cn) L [⟨startS ls L, 0, []⟩] ∧ Below W.heap.size W wc))
          case first =>
            refine wp_region_tail (fun _ => True) 7 (by kernel_rfl) ?_
            refine wpAnyT_letter (fun z => Below W.heap.size W z) HB3.out.drew ?_
            rintro z hbz
            refine wpAnyD_takeAt 0 (some 77) (v := ?_) rfl (by kernel_rfl) (by kernel_rfl) (by kernel_rfl) (by kernel_rfl) (by kernel_rfl) (fun _ _ _ h => h) (by exact trivial) (fun o hop => ?_) ?_
            rotate_left
            · injection hop with hop
              subst hop
              refine ⟨rfl, fun W hW => ?_⟩
              clear hW
              go_simp
              first
              | rfl
              | (constructor <;> rfl)
            try simp only [Act.put, List.setIfInBounds_toArray, List.set_cons_zero, List.set_cons_succ]
            refine wpAnyD_takeAt 2 (some 79) (v := ?_) rfl (by kernel_rfl) (by kernel_rfl) (by kernel_rfl) (by kernel_rfl) (by kernel_rfl) (fun _ _ _ h => h) (by exact trivial) (fun o hop => ?_) ?_
            rotate_left
            · injection hop with hop
              subst hop
              refine ⟨rfl, fun W hW => ?_⟩
              clear hW
              go_simp
              first
              | rfl
              | (constructor <;> rfl)
            try simp only [Act.put, List.setIfInBounds_toArray, List.set_cons_zero, List.set_cons_succ]
            refine wpAnyD_takeAt 3 (some 80) (v := ?_) rfl (by kernel_rfl) (by kernel_rfl) (by kernel_rfl) (by kernel_rfl) (by kernel_rfl) (fun _ _ _ h => h) (by exact trivial) (fun o hop => ?_) ?_
            rotate_left
            · injection hop with hop
              subst hop
              refine ⟨rfl, fun W hW => ?_⟩
              clear hW
              go_simp
              first
              | rfl
              | (constructor <;> rfl)
            try simp only [Act.put, List.setIfInBounds_toArray, List.set_cons_zero, List.set_cons_succ]
            refine wpAnyT_two (i := 1) (j := 4) (by kernel_rfl) rfl rfl rfl rfl (fun K' hK => ?_) (fun K' hK => ?_)
            · go_simp
              go_at_call 43
              refine (HSO.out z hbz).mono ?_
              rintro e z2 ⟨sv, rfl, hsv, hb2⟩
              replace hbz := hbz.trans (hb2.mono hbz.size)
              replace hsv := own_mono hsv (Nat.zero_le _)
              clear hb2
              refine hK.out _ _ (fun _ => trivial) ?_
              clear hK K'
              try simp only [Act.put, List.setIfInBounds_toArray]
              refine wpAnyT_one (i := 4) (by kernel_rfl) rfl rfl (fun K' hK => ?_)
              refine step_make_full rfl _ _ 39 rfl W.heap.size 3 i3 (.int .i64 0) 1 Try.underlying39 hi3 h30 h31 .i64 .i64 _ _ L rfl rfl rfl rfl (by rw [h32]; omega) (by unfold maxLen; omega) hbz.size ?_
              intro z3 hmk hgr
              rw [made_int, zeros_list L hL2] at hmk
              have hbm : Below z2.heap.size z2 z3 := (Below.refl _ z2).grown hgr (Nat.le_refl _) (fun k e => by cases e)
              replace hsv := own_below hsv hbm (Nat.le_refl _)
              replace hbz := hbz.trans (hbm.mono hbz.size)
              replace hmk := own_mono hmk (Nat.zero_le _)
              clear hbm hgr
              refine hK.out _ _ (fun _ => trivial) ?_
              clear hK K'
              try simp only [Act.put, List.setIfInBounds_toArray]
              obtain ⟨sa, sc, hse⟩ := own_slice hsv
              subst hse
              have HFIN := hide' (And.intro hsv (And.intro hmk hbz))
              clear hsv hmk hbz
              refine wpAnyD_takeAt 5 (some 82) (v := ?_) rfl (by kernel_rfl) (by kernel_rfl) (by kernel_rfl) (by kernel_rfl) (by kernel_rfl) (fun _ _ _ h => h) (by exact trivial) (fun o hop => ?_) ?_
              rotate_left
              · injection hop with hop
                subst hop
                refine ⟨rfl, fun W hW => ?_⟩
                clear hW
                go_simp
                first
                | rfl
                | (constructor <;> rfl)
              try simp only [Act.put]
              refine wpAnyT_one (i := 6) (by kernel_rfl) rfl rfl (fun K' hK => ?_)
              go_simp
              refine hK.out _ _ (fun _ => trivial) ?_
              clear hK K'
              try simp only [Act.put, List.setIfInBounds_toArray]
              refine wpAnyT_one (i := 7) (by kernel_rfl) rfl rfl (fun K' hK => ?_)
              go_simp
              refine hK.out _ _ (fun h => absurd rfl h) ?_
              clear hK K'
              refine wpAnyT_done (by kernel_rfl) ?_ _
              go_wp2_with fail
              go_meet
              case rel => exact ⟨_, _, rfl, wets_first HFIN.out.1 HFIN.out.2.1 HFIN.out.2.2⟩
            · refine step_make_full rfl _ _ 39 rfl W.heap.size 3 i3 (.int .i64 0) 1 Try.underlying39 hi3 h30 h31 .i64 .i64 _ _ L rfl rfl rfl rfl (by rw [h32]; omega) (by unfold maxLen; omega) hbz.size ?_
              intro z2 hmk hgr
              rw [made_int, zeros_list L hL2] at hmk
              have hbm : Below z.heap.size z z2 := (Below.refl _ z).grown hgr (Nat.le_refl _) (fun k e => by cases e)
              replace hbz := hbz.trans (hbm.mono hbz.size)
              clear hbm hgr
              refine hK.out _ _ (fun _ => trivial) ?_
              clear hK K'
              try simp only [Act.put, List.setIfInBounds_toArray]
              refine wpAnyT_one (i := 1) (by kernel_rfl) rfl rfl (fun K' hK => ?_)
              go_simp
              go_at_call 43
              refine (HSO.out z2 hbz).mono ?_
              rintro e z3 ⟨sv, rfl, hsv, hb2⟩
              replace hmk := own_mono (own_below hmk hb2 (Nat.le_refl _)) (Nat.zero_le _)
              replace hbz := hbz.trans (hb2.mono hbz.size)
              replace hsv := own_mono hsv (Nat.zero_le _)
              clear hb2
              refine hK.out _ _ (fun _ => trivial) ?_
              clear hK K'
              try simp only [Act.put, List.setIfInBounds_toArray]
              obtain ⟨sa, sc, hse⟩ := own_slice hsv
              subst hse
              have HFIN := hide' (And.intro hsv (And.intro hmk hbz))
              clear hsv hmk hbz
              refine wpAnyD_takeAt 5 (some 82) (v := ?_) rfl (by kernel_rfl) (by kernel_rfl) (by kernel_rfl) (by kernel_rfl) (by kernel_rfl) (fun _ _ _ h => h) (by exact trivial) (fun o hop => ?_) ?_
              rotate_left
              · injection hop with hop
                subst hop
                refine ⟨rfl, fun W hW => ?_⟩
                clear hW
                go_simp
                first
                | rfl
                | (constructor <;> rfl)
              try simp only [Act.put, List.setIfInBounds_toArray, List.set_cons_zero, List.set_cons_succ]
              refine wpAnyT_one (i := 6) (by kernel_rfl) rfl rfl (fun K' hK => ?_)
              go_simp
              refine hK.out _ _ (fun _ => trivial) ?_
              clear hK K'
              try simp only [Act.put, List.setIfInBounds_toArray]
              refine wpAnyT_one (i := 7) (by kernel_rfl) rfl rfl (fun K' hK => ?_)
              go_simp
              refine hK.out _ _ (fun h => absurd rfl h) ?_
              clear hK K'
              refine wpAnyT_done (by kernel_rfl) ?_ _
              go_wp2_with fail
              go_meet
              case rel => exact ⟨_, _, rfl, wets_first HFIN.out.1 HFIN.out.2.1 HFIN.out.2.2⟩
          case rest =>
            obtain ⟨an, cn, rfl, HN⟩ := hcut
            go_wp2_with fail
            refine (HRO.out _ HN.out.2).mono ?_
            rintro e w5 ⟨av, rfl, hst, hb5⟩
            obtain ⟨aa, ac, rfl⟩ := hst.slice
            obtain ⟨all, HAR⟩ : ∃ a, Hid (a = relN ls L) := ⟨_, rfl⟩
            rw [← HAR.out] at hst ⊢
            have HN5 : Hid (HourS ls L ti pr all W ac aa (.slice an 1 cn) 0 w5) := ⟨HN.out.1.below hb5, hst.mono (Nat.zero_le _), HN.out.2.trans (hb5.mono HN.out.2.size)⟩
            clear hst hb5 HN HRO HSO HB3
            go_wp2_with fail
            refine wp_mono (loopH HPO.out W HX.out HTI.out HP.out HAR.out _ _ _ _ _ _ _ _ _ _ _ _ _ _ _ _ _ _ _ _ _ _ _ _ _ _ _ _ _ _ _ _ _ _ _ _ _ _ _ _ _ _ _ _ _ _ _ _ _ _ _ _ _ _ _ _ _ _ _ _ _ _ _ _ _ _ _ _ _ _ _ _ _ _ _ _ _ _ _ _ _ _ _ _ _ _ _ _ _ _ _ _ _ _ _ _ _ _ _ _ _ _ _ _ _ _ _ _ _ _ _ _ _ _ _ _ _ _ _ _ _ _ _ _ _ _ _ _ _ _ _ _ _ _ _ _ _ _ _ _ _ _ _ _ _ _ _ _ _ _ _ _ _ _ _ _ _ _ _ _ _ _ _ _ _ _ _ _ _ _ _ _ _ _ _ _ _ _ _ _ _ _ _ _ _ _ _ _ _ _ _ _ _ _ _ _ _ _ _ _ _ _ _ _ _ _ _ _ _ _ _ _ _ _ _ _ _ _ _ _ _ _ _ _ _ _ _ _ _ _ _ _ _ _ _ _ _ _ _ _ _ _ _ _ _ _ _ _ _ _ _ _ _ _ _ _ _ _ _ _ _ _ _ _ _ _ _ _ _ _ _ _ _ _ _ _ _ _ _ _ _ _ _ _ _ _ _ _ _ _ _ _ _ _ _ _ _ _ _ _ _ _ _ _ _ _ _ _ _ _ _ _ _ HN5.out (calmQ _) (fun _ _ _ _ h => h) ?_) (fun e a w h => calm_le h)
            intro f w6 hS
            refine calm_exit ?_
            obtain ⟨now, HNW⟩ : ∃ a, Hid (a = nowL ls L ti pr all H) := ⟨_, rfl⟩
            have hne : 0 < now.length := by rw [HNW.out, HAR.out]; exact now_some HPO.out
            have hw6 := hS.nw
            rw [← HNW.out] at hw6
            obtain ⟨G, cg, _, _, _, _, _, _, hve, hG, _⟩ := hw6.cell (k := 0) (List.getElem?_eq_getElem hne)
            rw [hve] at hw6 ⊢
            have HW6 : Hid (WetsAt w6 W.heap.size (.slice (some ⟨G, 0, none⟩) now.length cg) L (doneL en L 0 now) ∧ Below W.heap.size W w6 ∧ BestI en L now 0 (.int .i64 (-1))) := ⟨by rw [done_zero]; exact hw6, hS.bel, .inl ⟨rfl, rfl⟩⟩
            have HNOK : Hid (∀ y ∈ now, NowOk ls L H y) := by rw [HNW.out, HAR.out]; exact now_ok HPO.out H (Nat.le_refl _)
            have hnb : now.length ≤ 152587890625 := by
              rw [HNW.out]
              exact Nat.le_trans (now_len (by rw [HAR.out]; exact rel_25 HPO.out.ok (by rw [HPO.out.l]; exact hL2) (by rw [HPO.out.l]; exact Nat.le_refl _)) H) (pow_small hH8)
            clear hw6 hS hve hG HN5
            go_wp2_with fail
            refine wp_mono (loopB (ls := ls) hL2 W HE.out HEL.out HPO.out.eb rfl rfl hnb hH8 HNOK.out (fun y hy => (good_bounds HPO.out.ok HPO.out.l (HNOK.out y hy).g).1) _ _ _ _ _ _ _ _ _ _ _ _ _ _ _ _ _ _ _ _ _ _ _ _ _ _ _ _ _ _ _ _ _ _ _ _ _ _ _ _ _ _ _ _ _ _ _ _ _ _ _ _ _ _ _ _ _ _ _ _ _ _ _ _ _ _ _ _ _ _ _ _ _ _ _ _ _ _ _ _ _ _ _ _ _ _ _ _ _ _ _ _ _ _ _ _ _ _ _ _ _ _ _ _ _ _ _ _ _ _ _ _ _ _ _ _ _ _ _ _ _ _ _ _ _ _ _ _ _ _ _ _ _ _ _ _ _ _ _ _ _ _ _ _ _ _ _ _ _ _ _ _ _ _ _ _ _ _ _ _ _ _ _ _ _ _ _ _ _ _ _ _ _ _ _ _ _ _ _ _ _ _ _ _ _ _ _ _ _ _ _ _ _ _ _ _ _ _ _ _ _ _ _ _ _ _ _ _ _ _ _ _ _ _ _ _ _ _ _ _ _ _ _ _ _ _ _ _ _ _ _ _ _ _ _ _ _ _ _ _ _ _ _ _ _ _ _ _ _ _ _ _ _ _ _ _ _ _ _ _ _ _ _ _ _ _ _ _ _ _ _ _ _ _ _ _ _ _ _ _ _ _ _ _ _ _ _ _ _ _ _ _ _ _ _ _ _ _ _ _ _ _ _ _ _ _ _ _ _ _ _ _ _ _ HW6.out (calmQ _) (fun _ _ _ _ h => h) ?_) (fun e a w h => calm_le h)
            intro f2 w7 hB7
            refine calm_exit ?_
            rcases hB7.2.2 with ⟨hn0, _⟩ | ⟨b, y, hbv, hb, hy, hby⟩
            · omega
            · obtain ⟨G1, c1, yl, ylc, yc, ycc, yr, yrc, en1, hG1, ⟨y0, y1, y2, y3⟩, _, _, os1, _⟩ := hB7.1.cell (k := b) (x := y.fin en L) (by rw [done_at hy, if_pos hb])
              simp only [Value.slice.injEq, Option.some.injEq, Addr.mk.injEq] at en1
              obtain ⟨⟨rfl, hz1, hz2⟩, hz3, rfl⟩ := en1
              clear hz1 hz2 hz3
              have hdp := dp_plan (all := all) (w := y) HPO.out (by rw [HAR.out]; exact rel_all HPO.out.ok HPO.out.l hL2) (by rw [← HNW.out]; exact List.mem_of_getElem? hy) (fun z hz => by
                rw [← HNW.out] at hz
                obtain ⟨i, hi⟩ := List.mem_iff_getElem?.1 hz
                exact hby i z (List.getElem?_eq_some_iff.1 hi).1 hi)
              rw [show (y.fin en L).t = y.t from rfl, hdp.1] at y3 os1
              rw [hdp.2] at y2
              rw [hbv]
              have HFI := hide' (And.intro os1 hB7.2.1)
              have hbz : (0 : Int) ≤ (b : Int) ∧ (b : Int) < (now.length : Int) := by omega
              obtain ⟨pl, hpl⟩ : ∃ q, q = (planK ls L H ti pr en H).2 := ⟨_, rfl⟩
              obtain ⟨lk, hlk⟩ : ∃ q, q = (lookD ls L ti pr en H 0 (startS ls L)).1 := ⟨_, rfl⟩
              rw [← hpl] at y3 HFI
              rw [← hlk] at y2
              have HPQ2 : Hid (∀ w' v, StepsAt w' 0 v pl → Below W.heap.size W w' → PQ (.returned (.tuple #[v, .int .i64 lk, .int .i64 0])) w') := fun w' v q1 q2 => HPQ.out _ _ ⟨v, by rw [← hlk], by rw [← hpl]; exact q1, q2⟩
              clear hdp hB7 hbv hby hy y0 y1 os1 hG1 hpl hlk HPQ HW6 HNOK
              go_wp2_with fail
              go_upto_region 53 with fail
              go_quiet (fail)
              go_wp2_with fail
              first
              | exact HPQ2.out _ _ (HFI.out.1.below (below_drewN (Below.refl _ w7) _)) (below_drewN HFI.out.2 _)
              | (go_ret3
                 exact HPQ2.out _ _ (HFI.out.1.below (below_drewN (Below.refl _ w7) _)) (below_drewN HFI.out.2 _))
end
end Go.Proofs.Ytnhddmcdmcpkeaj
