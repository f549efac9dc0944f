/- Value, in the document's answer. -/
import Derived.Test.YtlbeecjkfakkpagC8
namespace Go.Proofs.Ytlbeecjkfakkpag
open Go.RowKit Go.Shelf

/-- A list of lists of signs. -/
def SignsAt (w : World) (v : Value) (l : List (List Bool)) : Prop := ∃ vs : List Value, vs.length = l.length ∧ RowAt w v l.length 1 vs ∧ ∀ (i : Nat) (b : List Bool), l[i]? = some b → ∃ x, vs[i]? = some x ∧ RowAt w x b.length 1 (b.map Value.bool)
theorem SignsAt.slice {w : World} {v : Value} {l : List (List Bool)} (h : SignsAt w v l) : ∃ a c, v = .slice a l.length c := by
  obtain ⟨vs, _, h, _⟩ := h
  exact rowAt_slice h
theorem SignsAt.cell {w : World} {v : Value} {l : List (List Bool)} (h : SignsAt w v l) (k : Nat) (hk : k < l.length) : ∃ b off c a' c', v = .slice (some ⟨b, off, none⟩) l.length c ∧ w.cell? ⟨b, off + k, none⟩ = some (.slice a' l[k].length c') ∧ RowAt w (.slice a' l[k].length c') l[k].length 1 (l[k].map Value.bool) := by
  obtain ⟨vs, _, ⟨-, a, c, rfl, hc⟩, hr⟩ := h
  obtain ⟨x, hx, hb⟩ := hr k l[k] (List.getElem?_eq_getElem hk)
  obtain ⟨b, off, rfl, hcell⟩ := hc k x hx
  obtain ⟨a', c', rfl⟩ := rowAt_slice hb
  exact ⟨b, off, c, a', c', rfl, hcell, hb⟩
theorem valued_size {us : List UnitM} {need spare : List Int} {on : List (List Bool)} (h : ¬ (SizeOk us need spare ∧ on.length = need.length ∧ RowsOk us on)) : valued us need spare on = (0, 2) := by unfold valued; exact if_pos (fun x => h ⟨x.1, x.2.1, (rowsB_iff us on).1 x.2.2⟩)
theorem valued_fault {us : List UnitM} {need spare : List Int} {on : List (List Bool)} (h : SizeOk us need spare ∧ on.length = need.length ∧ RowsOk us on) (h2 : schedC us need spare ≠ 0) : valued us need spare on = (0, schedC us need spare) := by
  have h' : (us.length ≤ 4 ∧ need.length ≤ 8 ∧ spare.length = need.length) ∧ on.length = need.length ∧ (on.all fun r => r.length == us.length) = true := ⟨h.1, h.2.1, (rowsB_iff us on).2 h.2.2⟩
  unfold valued
  rw [if_neg (fun x => x h'), if_pos h2]
theorem valued_none {us : List UnitM} {need spare : List Int} {on : List (List Bool)} {e : Int} (h : SizeOk us need spare ∧ on.length = need.length ∧ RowsOk us on) (h2 : schedC us need spare = 0) (h3 : valK us need spare on on.length = .error e) : valued us need spare on = (0, e) := by
  have h' : (us.length ≤ 4 ∧ need.length ≤ 8 ∧ spare.length = need.length) ∧ on.length = need.length ∧ (on.all fun r => r.length == us.length) = true := ⟨h.1, h.2.1, (rowsB_iff us on).2 h.2.2⟩
  unfold valued
  rw [if_neg (fun x => x h'), if_neg (fun x => x h2), h3]
theorem valued_some {us : List UnitM} {need spare : List Int} {on : List (List Bool)} {t : List Int} {c : Int} (h : SizeOk us need spare ∧ on.length = need.length ∧ RowsOk us on) (h2 : schedC us need spare = 0) (h3 : valK us need spare on on.length = .ok (t, c)) : valued us need spare on = (c, 0) := by
  have h' : (us.length ≤ 4 ∧ need.length ≤ 8 ∧ spare.length = need.length) ∧ on.length = need.length ∧ (on.all fun r => r.length == us.length) = true := ⟨h.1, h.2.1, (rowsB_iff us on).2 h.2.2⟩
  unfold valued
  rw [if_neg (fun x => x h'), if_neg (fun x => x h2), h3]
def ValueOut (us : List UnitM) (need spare : List Int) (on : List (List Bool)) (w : World) (e : Ending) (w' : World) : Prop :=
  e = .returned (.tuple #[.int .i64 (valued us need spare on).1, .int .i64 (valued us need spare on).2]) ∧ Below w.heap.size w w'
theorem ValueOut.of {us : List UnitM} {need spare : List Int} {on : List (List Bool)} {w w' : World} {a b : Int} (h : valued us need spare on = (a, b)) (hb : Below w.heap.size w w') : ValueOut us need spare on w (.returned (.tuple #[.int .i64 a, .int .i64 b])) w' := by
  rw [ValueOut, h]
  exact ⟨rfl, hb⟩
set_option maxRecDepth 100000 in
set_option maxHeartbeats 4000000 in
theorem Valued_any (us : List UnitM) (need spare : List Int) (on : List (List Bool)) (lv nv sv ov : Value) (w : World) (hx : UnitsAt w lv us) (hn : RowAt w nv need.length 1 (ints need)) (hs : RowAt w sv spare.length 1 (ints spare)) (ho : SignsAt w ov on) (hol : on.length ≤ 1000000) :
    Calls Try.prog 16 #[lv, nv, sv, ov] w (ValueOut us need spare on w) := by
  have HC := hide' (scheduleMay_any us need spare lv nv sv w hx hn hs)
  have HG := hide' hx
  have HN := hide' hn
  have HS := hide' hs
  have HO := hide' ho
  obtain ⟨ag, cg, rfl⟩ := rowAt_slice hx
  obtain ⟨an, cn, rfl⟩ := rowAt_slice hn
  obtain ⟨as', cs, rfl⟩ := rowAt_slice hs
  obtain ⟨ao, co, rfl⟩ := ho.slice
  clear hx hn hs ho
  go_enter Try.func16, Try.ntmps16
  go_wp2_with fail
  refine HC.out.mono ?_
  rintro e w1 ⟨rfl, hb1⟩
  have HB1 := hide' hb1
  clear hb1 HC
  by_cases hsz : SizeOk us need spare
  · obtain ⟨c0, hc0⟩ : ∃ c, c = schedC us need spare := ⟨_, rfl⟩
    have hc2 : (c0 == 2) = false := by
      rw [hc0]
      by_cases h2 : MayUs us
      · by_cases h3 : InR need ∧ InR spare
        · rw [schedC_ok hsz h2 h3]; rfl
        · rw [schedC_range hsz h2 h3]; rfl
      · rw [schedC_state hsz h2]; rfl
    have HC0 := hide' hc0
    have HSZ := hide' hsz
    have h4 := hsz.1
    have h8 := hsz.2.1
    have HLS := hide' hsz.2.2
    rw [← hc0]
    clear hc0 hsz
    by_cases hon : on.length = need.length
    · have HON := hide' hon
      have hon' : ((on.length : Int) != (need.length : Int)) = false := by rw [hon]; simp
      clear hon
      go_wp2_with fail
      go_loopw [11] (fun i wr => ∃ (k : Nat), i = .int .i64 k ∧ k ≤ on.length ∧ Hid (∀ (j : Nat) (b : List Bool), j < k → on[j]? = some b → b.length = us.length) ∧ Hid (wr = w1)) (fun i _ => on.length - (intOf i).toNat)
      case atStart => exact ⟨0, rfl, Nat.zero_le _, fun j _ h => absurd h (Nat.not_lt_zero j), rfl⟩
      case round =>
        obtain ⟨k, rfl, hk, HOK, HW⟩ := hrel
        obtain rfl := HW.out
        clear HW
        by_cases hlt : k < on.length
        · obtain ⟨bo, oo, co', a', c', ex, hcell, hrow⟩ := HO.out.cell k hlt
          cases ex
          obtain ⟨r, hr⟩ : ∃ r, r = on[k] := ⟨_, rfl⟩
          rw [← hr] at hcell hrow
          have HK : Hid (on[k]? = some r) := by show _ = _; rw [hr]; exact List.getElem?_eq_getElem hlt
          have d0 := (HB1.out.cell (World.block_lt_of_cell? w _ hcell)).trans hcell
          clear hcell hrow hr
          by_cases hrl : r.length = us.length
          · have HNX : Hid (∀ (j : Nat) (b : List Bool), j < k + 1 → on[j]? = some b → b.length = us.length) := fun j b hj hb => by
              by_cases e : j = k
              · rw [e, HK.out] at hb
                cases hb
                exact hrl
              · exact HOK.out j b (by omega) hb
            rw [hrl] at d0
            clear hrl
            go_wp2
            go_roundw
            case rel => exact ⟨k + 1, by go_num, by omega, HNX, by first | rfl | trivial⟩
            case measure => simp [intOf]; omega
          · have HE : Hid (valued us need spare on = (0, 2)) := valued_size (fun h => hrl (h.2.2 k r HK.out))
            have hrl' : ((r.length : Int) != (us.length : Int)) = true := bne_iff_ne.2 (by omega)
            clear hrl
            go_wp2
            refine bodyPost_ret (results_tmp2 rfl _ _ _) rfl ?_
            exact ValueOut.of HE.out HB1.out
        · have HRO : Hid (RowsOk us on) := fun i b hb => HOK.out i b (by have := (List.getElem?_eq_some_iff.1 hb).1; omega) hb
          have HALL : Hid (SizeOk us need spare ∧ on.length = need.length ∧ RowsOk us on) := ⟨HSZ.out, HON.out, HRO.out⟩
          by_cases hc : c0 = 0
          · have HZ : Hid (schedC us need spare = 0) := HC0.out.symm.trans hc
            subst hc
            obtain ⟨-, hmay, hrn, hrs⟩ := schedC_zero HZ.out
            have HM := hide' hmay
            have HRN := hide' hrn
            have HRS := hide' hrs
            have HST := hide' (staysOf_any us (.slice ag us.length cg) wr (HG.out.below HB1.out (Nat.le_refl _)) h4)
            clear hmay hrn hrs HOK hc2
            go_wp2_with fail
            refine HST.out.mono ?_
            rintro e w2 ⟨tv, rfl, hown, hb2⟩
            have HT := hide' (rowAt_of_own hown)
            have HB2 := hide' (HB1.out.trans (hb2.mono HB1.out.size))
            obtain ⟨at', ct', rfl⟩ := own_slice hown
            clear hown hb2 HST
            go_wp2_with fail
            go_loopw [12, 13, 14] (fun tv cv iv W => ∃ (k : Nat) (t : List Int) (c : Int), cv = .int .i64 c ∧ iv = .int .i64 k ∧ k ≤ on.length ∧ 0 ≤ c ∧ c ≤ 50000000000 * k ∧ Hid (valK us need spare on k = .ok (t, c)) ∧ Hid (RowAt W tv us.length 1 (ints t)) ∧ Hid (Below w.heap.size w W)) (fun _ _ iv _ => on.length - (intOf iv).toNat)
            case atStart => exact ⟨0, staysL us, 0, rfl, rfl, Nat.zero_le _, by omega, by omega, rfl, HT, HB2⟩
            case round =>
              clear HT HB2 HB1 hlt hk
              obtain ⟨k, t, c, rfl, rfl, hk, hc0, hc1, HV, HT, HBW⟩ := hrel
              by_cases hlt : k < on.length
              · obtain ⟨bo, oo, co', a', c', ex, hcell, hrow⟩ := HO.out.cell k hlt
                cases ex
                obtain ⟨r, hr⟩ : ∃ r, r = on[k] := ⟨_, rfl⟩
                rw [← hr] at hcell hrow
                have HK : Hid (on[k]? = some r) := by show _ = _; rw [hr]; exact List.getElem?_eq_getElem hlt
                have HRL : Hid (r.length = us.length) := HRO.out k r HK.out
                rw [HRL.out] at hcell hrow
                have HROW := hide' hrow
                obtain ⟨bn, on', cn', exn, hcn⟩ := ints_cell2 HN.out k (by rw [← HON.out]; exact hlt)
                cases exn
                obtain ⟨bs, os', cs', exs, hcs⟩ := ints_cell2 HS.out k (by rw [HLS.out, ← HON.out]; exact hlt)
                cases exs
                have hvs := valK_spec HM.out h4 k t c HV.out
                obtain ⟨at2, ct2, rfl⟩ := rowAt_slice HT.out
                have up : ∀ (b j : Nat) (u : Value), w.cell? ⟨b, j, none⟩ = some u → wr.cell? ⟨b, j, none⟩ = some u := fun b j u h => (HBW.out.cell (World.block_lt_of_cell? w _ h)).trans h
                have d0 := up _ _ _ hcell
                have HCELL := hide' hcell
                have HCN := hide' hcn
                have HCS := hide' hcs
                have hnk := HRN.out k (by rw [← HON.out]; exact hlt)
                have hsk := HRS.out k (by rw [HLS.out, ← HON.out]; exact hlt)
                have HVK : Hid (valK us need spare on (k + 1) = stepV us (need.getD k 0) (spare.getD k 0) t c r) := by show _ = _; rw [valK, HV.out]; simp only [List.getD_eq_getElem?_getD (l := on), HK.out, Option.getD_some]
                obtain ⟨nk, hnk'⟩ : ∃ x, x = need.getD k 0 := ⟨_, rfl⟩
                obtain ⟨sk, hsk'⟩ : ∃ x, x = spare.getD k 0 := ⟨_, rfl⟩
                rw [← hnk'] at HCN hnk HVK
                rw [← hsk'] at HCS hsk HVK
                have HNO := hide' (nextOf_any us t r (.slice ag us.length cg) (.slice at2 us.length ct2) (.slice a' us.length c') wr (HG.out.below HBW.out (Nat.le_refl _)) HT.out hvs.1 hvs.2.1 (HROW.out.below HBW.out (Nat.le_refl _)) HRL.out h4 HM.out)
                clear hcell hrow hr up hcn hcs hvs hnk' hsk' HV HT
                go_wp2_with fail
                refine HNO.out.mono ?_
                rintro e w3 (⟨l, s, nv, hnl, rfl, hown, hb3⟩ | ⟨hnl, rfl, hb3⟩)
                · have HNL := hide' hnl
                  have HT3 := hide' (rowAt_of_own hown)
                  have HB3 := hide' (HBW.out.trans (hb3.mono HBW.out.size))
                  have hns := nextK_spec HM.out us.length (Nat.le_refl _) l s hnl
                  have HLL := hide' hns.1
                  have hs0 := hns.2.2.1
                  have hs1 : s ≤ 4000000 := by have := hns.2.2.2; omega
                  rw [hns.1] at HT3
                  have d1 := (HB3.out.cell (World.block_lt_of_cell? w _ HCELL.out)).trans HCELL.out
                  have d2 := (HB3.out.cell (World.block_lt_of_cell? w _ HCN.out)).trans HCN.out
                  have d3 := (HB3.out.cell (World.block_lt_of_cell? w _ HCS.out)).trans HCS.out
                  have hnn : k < need.length := by rw [← HON.out]; exact hlt
                  have hss : k < spare.length := by rw [HLS.out]; exact hnn
                  clear hnl hown hb3 hns HNO d0 HBW
                  go_wp2_with fail
                  refine wp_region_tail (fun W => W.cell? ⟨bo, oo + k, none⟩ = some (.slice a' us.length c') ∧ W.cell? ⟨bn, on' + k, none⟩ = some (.int .i64 nk) ∧ W.cell? ⟨bs, os' + k, none⟩ = some (.int .i64 sk)) 18 (by kernel_rfl) ?_
                  refine wpAnyD_takeAt 0 (some 71) (v := ?_) rfl (by kernel_rfl) (by kernel_rfl) (by kernel_rfl) (by kernel_rfl) (by kernel_rfl) (fun _ _ _ h => h) (by exact ⟨d1, d2, d3⟩) (fun o hop => ?_) ?_
                  rotate_left
                  · injection hop with hop
                    subst hop
                    refine ⟨rfl, fun W hW => ?_⟩
                    obtain ⟨s0, s1, s2⟩ := hW
                    go_simp
                    first
                    | rfl
                    | rw [if_neg (by omega)]
                  try simp only [Act.put, List.setIfInBounds_toArray, List.set_cons_zero, List.set_cons_succ]
                  refine wpAnyD_takeAt 1 (some 72) (v := ?_) rfl (by kernel_rfl) (by kernel_rfl) (by kernel_rfl) (by kernel_rfl) (by kernel_rfl) (fun _ _ _ h => h) (by exact ⟨d1, d2, d3⟩) (fun o hop => ?_) ?_
                  rotate_left
                  · injection hop with hop
                    subst hop
                    refine ⟨rfl, fun W hW => ?_⟩
                    obtain ⟨s0, s1, s2⟩ := hW
                    go_simp
                    first
                    | rfl
                    | rw [if_neg (by omega)]
                  try simp only [Act.put, List.setIfInBounds_toArray, List.set_cons_zero, List.set_cons_succ]
                  refine wpAnyD_takeAt 2 (some 73) (v := ?_) rfl (by kernel_rfl) (by kernel_rfl) (by kernel_rfl) (by kernel_rfl) (by kernel_rfl) (fun _ _ _ h => h) (by exact ⟨d1, d2, d3⟩) (fun o hop => ?_) ?_
                  rotate_left
                  · injection hop with hop
                    subst hop
                    refine ⟨rfl, fun W hW => ?_⟩
                    obtain ⟨s0, s1, s2⟩ := hW
                    go_simp
                    first
                    | rfl
                    | rw [if_neg (by omega)]
                  try simp only [Act.put, List.setIfInBounds_toArray, List.set_cons_zero, List.set_cons_succ]
                  refine wpAnyD_takeAt 3 (some 74) (v := ?_) rfl (by kernel_rfl) (by kernel_rfl) (by kernel_rfl) (by kernel_rfl) (by kernel_rfl) (fun _ _ _ h => h) (by exact ⟨d1, d2, d3⟩) (fun o hop => ?_) ?_
                  rotate_left
                  · injection hop with hop
                    subst hop
                    refine ⟨rfl, fun W hW => ?_⟩
                    obtain ⟨s0, s1, s2⟩ := hW
                    go_simp
                    first
                    | rfl
                    | rw [if_neg (by omega)]
                  try simp only [Act.put, List.setIfInBounds_toArray, List.set_cons_zero, List.set_cons_succ]
                  refine wpAnyD_takeAt 4 (some 75) (v := ?_) rfl (by kernel_rfl) (by kernel_rfl) (by kernel_rfl) (by kernel_rfl) (by kernel_rfl) (fun _ _ _ h => h) (by exact ⟨d1, d2, d3⟩) (fun o hop => ?_) ?_
                  rotate_left
                  · injection hop with hop
                    subst hop
                    refine ⟨rfl, fun W hW => ?_⟩
                    obtain ⟨s0, s1, s2⟩ := hW
                    go_simp
                    first
                    | rfl
                    | rw [if_neg (by omega)]
                  try simp only [Act.put, List.setIfInBounds_toArray, List.set_cons_zero, List.set_cons_succ]
                  refine wpAnyD_takeAt 5 (some 76) (v := ?_) rfl (by kernel_rfl) (by kernel_rfl) (by kernel_rfl) (by kernel_rfl) (by kernel_rfl) (fun _ _ _ h => h) (by exact ⟨d1, d2, d3⟩) (fun o hop => ?_) ?_
                  rotate_left
                  · injection hop with hop
                    subst hop
                    refine ⟨rfl, fun W hW => ?_⟩
                    obtain ⟨s0, s1, s2⟩ := hW
                    go_simp
                    first
                    | rfl
                    | rw [if_neg (by omega)]
                  try simp only [Act.put, List.setIfInBounds_toArray, List.set_cons_zero, List.set_cons_succ]
                  refine wpAnyD_takeAt 6 (some 77) (v := ?_) rfl (by kernel_rfl) (by kernel_rfl) (by kernel_rfl) (by kernel_rfl) (by kernel_rfl) (fun _ _ _ h => h) (by exact ⟨d1, d2, d3⟩) (fun o hop => ?_) ?_
                  rotate_left
                  · injection hop with hop
                    subst hop
                    refine ⟨rfl, fun W hW => ?_⟩
                    obtain ⟨s0, s1, s2⟩ := hW
                    go_simp
                    first
                    | rfl
                    | rw [if_neg (by omega)]
                  try simp only [Act.put, List.setIfInBounds_toArray, List.set_cons_zero, List.set_cons_succ]
                  refine wpAnyD_takeAt 7 (some 78) (v := ?_) rfl (by kernel_rfl) (by kernel_rfl) (by kernel_rfl) (by kernel_rfl) (by kernel_rfl) (fun _ _ _ h => h) (by exact ⟨d1, d2, d3⟩) (fun o hop => ?_) ?_
                  rotate_left
                  · injection hop with hop
                    subst hop
                    refine ⟨rfl, fun W hW => ?_⟩
                    obtain ⟨s0, s1, s2⟩ := hW
                    go_simp
                    first
                    | rfl
                    | rw [if_neg (by omega)]
                  try simp only [Act.put, List.setIfInBounds_toArray, List.set_cons_zero, List.set_cons_succ]
                  refine wpAnyD_takeAt 8 (some 79) (v := ?_) rfl (by kernel_rfl) (by kernel_rfl) (by kernel_rfl) (by kernel_rfl) (by kernel_rfl) (fun _ _ _ h => h) (by exact ⟨d1, d2, d3⟩) (fun o hop => ?_) ?_
                  rotate_left
                  · injection hop with hop
                    subst hop
                    refine ⟨rfl, fun W hW => ?_⟩
                    obtain ⟨s0, s1, s2⟩ := hW
                    go_simp
                    first
                    | rfl
                    | rw [if_neg (by omega)]
                  try simp only [Act.put, List.setIfInBounds_toArray, List.set_cons_zero, List.set_cons_succ]
                  refine wpAnyD_takeAt 9 (some 80) (v := ?_) rfl (by kernel_rfl) (by kernel_rfl) (by kernel_rfl) (by kernel_rfl) (by kernel_rfl) (fun _ _ _ h => h) (by exact ⟨d1, d2, d3⟩) (fun o hop => ?_) ?_
                  rotate_left
                  · injection hop with hop
                    subst hop
                    refine ⟨rfl, fun W hW => ?_⟩
                    obtain ⟨s0, s1, s2⟩ := hW
                    go_simp
                    first
                    | rfl
                    | rw [if_neg (by omega)]
                  try simp only [Act.put, List.setIfInBounds_toArray, List.set_cons_zero, List.set_cons_succ]
                  refine wpAnyD_takeAt 10 (some 81) (v := ?_) rfl (by kernel_rfl) (by kernel_rfl) (by kernel_rfl) (by kernel_rfl) (by kernel_rfl) (fun _ _ _ h => h) (by exact ⟨d1, d2, d3⟩) (fun o hop => ?_) ?_
                  rotate_left
                  · injection hop with hop
                    subst hop
                    refine ⟨rfl, fun W hW => ?_⟩
                    obtain ⟨s0, s1, s2⟩ := hW
                    go_simp
                    first
                    | rfl
                    | rw [if_neg (by omega)]
                  try simp only [Act.put, List.setIfInBounds_toArray, List.set_cons_zero, List.set_cons_succ]
                  refine wpAnyD_takeAt 11 (some 82) (v := ?_) rfl (by kernel_rfl) (by kernel_rfl) (by kernel_rfl) (by kernel_rfl) (by kernel_rfl) (fun _ _ _ h => h) (by exact ⟨d1, d2, d3⟩) (fun o hop => ?_) ?_
                  rotate_left
                  · injection hop with hop
                    subst hop
                    refine ⟨rfl, fun W hW => ?_⟩
                    obtain ⟨s0, s1, s2⟩ := hW
                    go_simp
                    first
                    | rfl
                    | rw [if_neg (by omega)]
                  try simp only [Act.put, List.setIfInBounds_toArray, List.set_cons_zero, List.set_cons_succ]
                  refine wpAnyD_takeAt 12 (some 83) (v := ?_) rfl (by kernel_rfl) (by kernel_rfl) (by kernel_rfl) (by kernel_rfl) (by kernel_rfl) (fun _ _ _ h => h) (by exact ⟨d1, d2, d3⟩) (fun o hop => ?_) ?_
                  rotate_left
                  · injection hop with hop
                    subst hop
                    refine ⟨rfl, fun W hW => ?_⟩
                    obtain ⟨s0, s1, s2⟩ := hW
                    go_simp
                    first
                    | rfl
                    | rw [if_neg (by omega)]
                  try simp only [Act.put, List.setIfInBounds_toArray, List.set_cons_zero, List.set_cons_succ]
                  refine wpAnyT_one (i := 13) (by kernel_rfl) rfl rfl (fun K' hK => ?_)
                  go_simp
                  go_at_call 39
                  refine (hourOf_any us r nk sk (.slice ag us.length cg) (.slice a' us.length c') w3.drew (HG.out.below HB3.out.drew (Nat.le_refl _)) (HROW.out.below HB3.out.drew (Nat.le_refl _)) HRL.out h4 HM.out hnk.1 hnk.2 hsk.1 hsk.2).mono ?_
                  rintro e w4 ⟨hres, hb4⟩
                  have HB4 := hide' (HB3.out.drew.trans (hb4.mono HB3.out.drew.size))
                  have HT4 := hide' (HT3.out.below ((Below.refl _ w3).drew.trans hb4) (Nat.le_refl _))
                  have f1 := (HB4.out.cell (World.block_lt_of_cell? w _ HCELL.out)).trans HCELL.out
                  have f2 := (HB4.out.cell (World.block_lt_of_cell? w _ HCN.out)).trans HCN.out
                  have f3 := (HB4.out.cell (World.block_lt_of_cell? w _ HCS.out)).trans HCS.out
                  clear hb4 d1 d2 d3 HB3 HT3
                  obtain ⟨x, b, rfl, hxb⟩ : ∃ (x : Int) (b : Bool), e = .returned (.tuple #[.int .i64 x, .bool b]) ∧ ((b = true ∧ hourC us r nk sk = some x) ∨ (b = false ∧ hourC us r nk sk = none)) := by
                    rcases hres with ⟨c, hc, rfl⟩ | ⟨hno, x, rfl⟩
                    · exact ⟨c, true, rfl, .inl ⟨rfl, hourC_some HM.out hc⟩⟩
                    · exact ⟨x, false, rfl, .inr ⟨rfl, hourC_none HM.out hno⟩⟩
                  have HXB := hide' hxb
                  clear hres hxb
                  refine hK.out _ _ (fun _ => by exact ⟨f1, f2, f3⟩) ?_
                  clear hK K'
                  refine wpAnyT_one (i := 14) (by kernel_rfl) rfl rfl (fun K' hK => ?_)
                  go_simp
                  refine hK.out _ _ (fun _ => by exact ⟨f1, f2, f3⟩) ?_
                  clear hK K'
                  refine wpAnyD_takeAt 15 (some 85) (v := ?_) rfl (by kernel_rfl) (by kernel_rfl) (by kernel_rfl) (by kernel_rfl) (by kernel_rfl) (fun _ _ _ h => h) (by exact ⟨f1, f2, f3⟩) (fun o hop => ?_) ?_
                  rotate_left
                  · injection hop with hop
                    subst hop
                    refine ⟨rfl, fun W hW => ?_⟩
                    obtain ⟨s0, s1, s2⟩ := hW
                    go_simp
                    first
                    | rfl
                    | rw [if_neg (by omega)]
                  try simp only [Act.put, List.setIfInBounds_toArray, List.set_cons_zero, List.set_cons_succ]
                  refine wpAnyD_takeAt 16 (some 86) (v := ?_) rfl (by kernel_rfl) (by kernel_rfl) (by kernel_rfl) (by kernel_rfl) (by kernel_rfl) (fun _ _ _ h => h) (by exact ⟨f1, f2, f3⟩) (fun o hop => ?_) ?_
                  rotate_left
                  · injection hop with hop
                    subst hop
                    refine ⟨rfl, fun W hW => ?_⟩
                    obtain ⟨s0, s1, s2⟩ := hW
                    go_simp
                    first
                    | rfl
                    | rw [if_neg (by omega)]
                  try simp only [Act.put, List.setIfInBounds_toArray, List.set_cons_zero, List.set_cons_succ]
                  refine wpAnyT_one (i := 17) (by kernel_rfl) rfl rfl (fun K' hK => ?_)
                  go_simp
                  refine hK.out _ _ (fun _ => by exact ⟨f1, f2, f3⟩) ?_
                  clear hK K'
                  refine wpAnyT_one (i := 18) (by kernel_rfl) rfl rfl (fun K' hK => ?_)
                  go_simp
                  refine hK.out _ _ (fun h => absurd rfl h) ?_
                  clear hK K' f1 f2 f3
                  refine wpAnyT_done (by kernel_rfl) ?_ _
                  cases b with
                  | false =>
                    have HER : Hid (valued us need spare on = (0, 8)) := valued_none HALL.out HZ.out (valK_error (by
                      rw [HVK.out, stepV, HNL.out]
                      rcases HXB.out with ⟨h, _⟩ | ⟨_, h⟩
                      · cases h
                      · simp only [h]) on.length (by omega))
                    go_wp2
                    refine bodyPost_ret (results_tmp2 rfl _ _ _) rfl ?_
                    exact ValueOut.of HER.out HB4.out
                  | true =>
                    have HXC : Hid (hourC us r nk sk = some x) := by
                      rcases HXB.out with ⟨_, h⟩ | ⟨h, _⟩
                      · exact h
                      · cases h
                    have hxx := hour_bound HM.out h4 HXC.out
                    have HNX : Hid (valK us need spare on (k + 1) = .ok (l, c + (s + x))) := by
                      show _ = _
                      rw [HVK.out, stepV, HNL.out]
                      simp only [HXC.out]
                    clear HXB HXC HVK HNL
                    have hk8 : on.length ≤ 8 := by rw [HON.out]; exact h8
                    go_wp2
                    go_roundw
                    case rel => exact ⟨k + 1, l, _, rfl, by go_num, by omega, by omega, by omega, HNX, HT4, HB4⟩
                    case measure => simp [intOf]; omega
                · have HER : Hid (valued us need spare on = (0, 15)) := valued_none HALL.out HZ.out (valK_error (by rw [HVK.out, stepV, hnl]) on.length (by omega))
                  have HB3 := hide' (HBW.out.trans (hb3.mono HBW.out.size))
                  clear hnl hb3 HNO d0 HVK
                  go_wp2
                  refine bodyPost_ret (results_tmp2 rfl _ _ _) rfl ?_
                  exact ValueOut.of HER.out HB3.out
              · have hke : k = on.length := by omega
                have HER : Hid (valued us need spare on = (c, 0)) := valued_some HALL.out HZ.out (by rw [← hke]; exact HV.out)
                go_wp2
                refine bodyPost_ret (results_tmp2 rfl _ _ _) rfl ?_
                exact ValueOut.of HER.out HBW.out
          · have HE : Hid (valued us need spare on = (0, c0)) := by rw [HC0.out]; exact valued_fault HALL.out (by rw [← HC0.out]; exact hc)
            have hcn' : (c0 != 0) = true := bne_iff_ne.2 hc
            clear hc HOK
            go_wp2
            refine bodyPost_ret (results_tmp2 rfl _ _ _) rfl ?_
            exact ValueOut.of HE.out HB1.out
    · have HE : Hid (valued us need spare on = (0, 2)) := valued_size (fun h => hon h.2.1)
      have hon' : ((on.length : Int) != (need.length : Int)) = true := bne_iff_ne.2 (by omega)
      clear hon
      go_wp2
      refine bodyPost_ret (results_tmp2 rfl _ _ _) rfl ?_
      exact ValueOut.of HE.out HB1.out
  · have HE : Hid (valued us need spare on = (0, 2)) := valued_size (fun h => hsz h.1)
    rw [schedC_size hsz]
    clear hsz
    go_wp2
    refine bodyPost_ret (results_tmp2 rfl _ _ _) rfl ?_
    exact ValueOut.of HE.out HB1.out
end Go.Proofs.Ytlbeecjkfakkpag
