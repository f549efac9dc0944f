/- Through a choice, in the program. -/
import Derived.Test.YtlbeecjkfakkpagEi
namespace Go.Proofs.Ytlbeecjkfakkpag
open Go.RowKit Go.Shelf Go.ChangeMaps

theorem field99 (x y : Int) (w : World) : (Instr.field 99 (.agg #[.int .i64 x, .int .i64 y]) 0).run Try.prog w = .ok (.int .i64 x) w := by
  simp [Instr.field, run_underlying Try.underlying99, asAgg, part, Try.isAgg3, Result.andThen]
theorem field99' (x y : Int) (w : World) : (Instr.field 99 (.agg #[.int .i64 x, .int .i64 y]) 1).run Try.prog w = .ok (.int .i64 y) w := by
  simp [Instr.field, run_underlying Try.underlying99, asAgg, part, Try.isAgg3, Result.andThen]
/-- Through's own blocks: the search and the moment. -/
structure TBox (W : World) (A B : Nat) (av bv : Array Value) : Prop where
  a : W.heap[A]? = some (.cells av 94 (0, 0))
  b : W.heap[B]? = some (.cells bv 97 (0, 0))
theorem TBox.below {W W' : World} {A B : Nat} {av bv : Array Value} (h : TBox W A B av bv) (hb : Below W.heap.size W W') : TBox W' A B av bv :=
  ⟨(hb.block A (Array.getElem?_eq_some_iff.1 h.a).1).trans h.a, (hb.block B (Array.getElem?_eq_some_iff.1 h.b).1).trans h.b⟩
/-- What through answers. -/
def ThruO (us : List UnitM) (need spare : List Int) (d h : Nat) (t : List Int) (k : Nat) (lv cv uv : Value) (M : Nat) (W : World) (e : Ending) (W' : World) : Prop :=
  e = .returned (.int .i64 ((thruL us need spare d h t k).getD never)) ∧ But M W W' ∧ Srch W' us need spare lv cv uv M
theorem ThruO.of {us : List UnitM} {need spare : List Int} {d h : Nat} {t : List Int} {k : Nat} {lv cv uv : Value} {M : Nat} {W W' : World} {x : Int} (hx : (thruL us need spare d h t k).getD never = x) (hb : But M W W') (hs : Srch W' us need spare lv cv uv M) : ThruO us need spare d h t k lv cv uv M W (.returned (.int .i64 x)) W' := by
  subst hx; exact ⟨rfl, hb, hs⟩
theorem thru_run {us : List UnitM} {need spare : List Int} {d h : Nat} {t : List Int} {k : Nat} (h1 : hourC us (bits us.length k) (need.getD h 0) (spare.getD h 0) = none) : thruL us need spare d h t k = none := by unfold thruL; rw [h1]
theorem thru_next {us : List UnitM} {need spare : List Int} {d h : Nat} {t : List Int} {k : Nat} (h1 : nextL us t (bits us.length k) = none) : thruL us need spare d h t k = none := by
  unfold thruL; rw [h1]; cases hourC us (bits us.length k) (need.getD h 0) (spare.getD h 0) <;> rfl
theorem thru_is {us : List UnitM} {need spare : List Int} {d h : Nat} {t l : List Int} {k : Nat} {c s : Int} (h1 : hourC us (bits us.length k) (need.getD h 0) (spare.getD h 0) = some c) (h2 : nextL us t (bits us.length k) = some (l, s)) : thruL us need spare d h t k = (look us need spare d (h + 1) l).map fun o => c + s + o.1 := by
  unfold thruL; rw [h1, h2]
set_option maxRecDepth 100000 in
set_option maxHeartbeats 800000 in
theorem through_any (us : List UnitM) (need spare : List Int) (d : Nat) (HAG : AheadGood us need spare d) (hp : Plan us need spare) (h k : Nat) (t : List Int) (lv cv uv : Value) (ar an as' : Option Addr) (nr cr cn ns cs M : Nat) (W : World) (hh : h + 1 + d = need.length) (hk : k < 2 ^ us.length) (htl : t.length = us.length) (hok : StayOk t) (hs : Srch W us need spare lv cv uv M) :
    Calls Try.prog 61 #[.agg #[lv, .slice ar nr cr, .slice an need.length cn, .slice as' ns cs, cv, uv, .map (some M)], momT h t, .int .i64 k] W (ThruO us need spare d h t k lv cv uv M W) := by
  have HAGD := hide' HAG
  have HP := hide' hp
  have HTL := hide' htl
  have HOK := hide' hok
  have h4 := hp.h4
  have h8 := hp.h8
  obtain ⟨ag, cg, rfl⟩ := rowAt_slice hs.units
  obtain ⟨bc, oc, cc, a', c', exc, hcc, hcrow⟩ := hs.cho.cell k (by rw [choL_len]; exact hk)
  obtain ⟨bu, ou, cu, a3, c3, exu, hcu, hurow⟩ := hs.runs.cell h (by rw [runsL_len]; omega)
  rw [choL_len] at exc
  rw [runsL_len] at exu
  subst exc
  subst exu
  have hbk : (choL us.length)[k]'(by rw [choL_len]; exact hk) = bits us.length k := by
    have := choL_get hk
    rw [List.getElem?_eq_getElem (by rw [choL_len]; exact hk)] at this
    exact Option.some.inj this
  rw [hbk, bits_len] at hcc hcrow
  have hrk : (runsL us need spare)[h]'(by rw [runsL_len]; omega) = runL us need spare h := by simp [runsL]
  rw [hrk, runL_len] at hcu hurow
  obtain ⟨bq, oq, cq, exq, hcq⟩ := ints_cell2 hurow k (by rw [runL_len]; exact hk)
  cases exq
  rw [runL_getD hk] at hcq
  have HSR := hide' hs
  have HCC := hide' hcc
  have HCU := hide' hcu
  have HCQ := hide' hcq
  have HCR := hide' hcrow
  obtain ⟨a, b, c, d', he⟩ := list4I (stand_len (t := t) (by rw [htl]; exact h4))
  have HE := hide' he
  rw [momT_is he, show momV h a b c d' = .agg #[.int .i64 h, .int .i64 a, .int .i64 b, .int .i64 c, .int .i64 d'] from rfl]
  have hpw := pow16' h4
  obtain ⟨rv0, hrv0⟩ : ∃ x, x = runV us need spare h k := ⟨_, rfl⟩
  rw [← hrv0] at hcq
  have HRV := hide' hrv0
  have HCQ2 := hide' hcq
  obtain ⟨pw, hpwe⟩ : ∃ p, p = 2 ^ us.length := ⟨_, rfl⟩
  have HPW := hide' hpwe
  rw [← hpwe] at hk hpw HSR HCU ⊢
  clear hs hcc hcrow hcu hurow hbk hrk hcq he hrv0 htl hok HAG hp HCQ hpwe
  go_enter Try.func61, Try.ntmps61
  have HBW : Hid (∀ o o2, Below W.heap.size W ((W.alloc o).alloc o2)) := fun o o2 => ((Below.refl _ W).alloc (Nat.le_refl _) o).alloc (by simp) o2
  have u0 : ∀ o o2, ((W.alloc o).alloc o2).cell? ⟨bu, ou + h, none⟩ = some (.slice (some ⟨bq, oq, none⟩) pw c3) := fun o o2 => up_cell (HBW.out o o2) HCU.out
  have u1 : ∀ o o2, ((W.alloc o).alloc o2).cell? ⟨bq, oq + k, none⟩ = some (.int .i64 rv0) := fun o o2 => up_cell (HBW.out o o2) HCQ2.out
  have hhN : h < need.length := by omega
  go_wp2_with fail
  have HSR2 : Hid (Srch ((W.alloc (.cells #[.slice ag us.length cg, .slice ar nr cr, .slice an need.length cn, .slice as' ns cs, .slice (some ⟨bc, oc, none⟩) pw cc, .slice (some ⟨bu, ou, none⟩) need.length cu, .map (some M)] 94)).alloc (.cells #[.int .i64 h, .int .i64 a, .int .i64 b, .int .i64 c, .int .i64 d'] 97)) us need spare (.slice ag us.length cg) (.slice (some ⟨bc, oc, none⟩) pw cc) (.slice (some ⟨bu, ou, none⟩) need.length cu) M) := HSR.out.below (HBW.out _ _)
  have HB2 : Hid (Below W.heap.size W ((W.alloc (.cells #[.slice ag us.length cg, .slice ar nr cr, .slice an need.length cn, .slice as' ns cs, .slice (some ⟨bc, oc, none⟩) pw cc, .slice (some ⟨bu, ou, none⟩) need.length cu, .map (some M)] 94)).alloc (.cells #[.int .i64 h, .int .i64 a, .int .i64 b, .int .i64 c, .int .i64 d'] 97))) := HBW.out _ _
  have HTB : Hid (TBox ((W.alloc (.cells #[.slice ag us.length cg, .slice ar nr cr, .slice an need.length cn, .slice as' ns cs, .slice (some ⟨bc, oc, none⟩) pw cc, .slice (some ⟨bu, ou, none⟩) need.length cu, .map (some M)] 94)).alloc (.cells #[.int .i64 h, .int .i64 a, .int .i64 b, .int .i64 c, .int .i64 d'] 97)) W.heap.size (W.heap.size + 1) #[.slice ag us.length cg, .slice ar nr cr, .slice an need.length cn, .slice as' ns cs, .slice (some ⟨bc, oc, none⟩) pw cc, .slice (some ⟨bu, ou, none⟩) need.length cu, .map (some M)] #[.int .i64 h, .int .i64 a, .int .i64 b, .int .i64 c, .int .i64 d']) := by
    have h2 := alloc_new (W.alloc (.cells #[.slice ag us.length cg, .slice ar nr cr, .slice an need.length cn, .slice as' ns cs, .slice (some ⟨bc, oc, none⟩) pw cc, .slice (some ⟨bu, ou, none⟩) need.length cu, .map (some M)] 94)) (.cells #[.int .i64 h, .int .i64 a, .int .i64 b, .int .i64 c, .int .i64 d'] 97)
    rw [World.size_alloc] at h2
    exact ⟨(alloc_old _ _ (by simp)).trans (alloc_new _ _), h2⟩
  obtain ⟨B, hB⟩ : ∃ B, B = W.heap.size + 1 := ⟨_, rfl⟩
  rw [← hB] at HTB ⊢
  obtain ⟨A, hA⟩ : ∃ A, A = W.heap.size := ⟨_, rfl⟩
  obtain ⟨W2, hW2⟩ : ∃ W2, W2 = (W.alloc (.cells #[.slice ag us.length cg, .slice ar nr cr, .slice an need.length cn, .slice as' ns cs, .slice (some ⟨bc, oc, none⟩) pw cc, .slice (some ⟨bu, ou, none⟩) need.length cu, .map (some M)] 94)).alloc (.cells #[.int .i64 h, .int .i64 a, .int .i64 b, .int .i64 c, .int .i64 d'] 97) := ⟨_, rfl⟩
  rw [← hW2] at HTB HSR2 HB2 ⊢
  rw [← hA] at HTB
  rw [show (Value.pointer (some { block := W.heap.size, off := 0 })) = Value.pointer (some { block := A, off := 0 }) by rw [hA], show (Value.pointer (some { block := W.heap.size, off := 5 })) = Value.pointer (some { block := A, off := 5 }) by rw [hA]]
  have d0 : W2.cell? ⟨A, 0, none⟩ = some (.slice ag us.length cg) := by simp [World.cell?, HTB.out.a]
  have d1 : W2.cell? ⟨A, 1, none⟩ = some (.slice ar nr cr) := by simp [World.cell?, HTB.out.a]
  have d2 : W2.cell? ⟨A, 4, none⟩ = some (.slice (some ⟨bc, oc, none⟩) pw cc) := by simp [World.cell?, HTB.out.a]
  have d3 : W2.cell? ⟨B, 1, none⟩ = some (.int .i64 a) := by simp [World.cell?, HTB.out.b]
  have d4 : W2.cell? ⟨B, 2, none⟩ = some (.int .i64 b) := by simp [World.cell?, HTB.out.b]
  have d5 : W2.cell? ⟨B, 3, none⟩ = some (.int .i64 c) := by simp [World.cell?, HTB.out.b]
  have d6 : W2.cell? ⟨B, 4, none⟩ = some (.int .i64 d') := by simp [World.cell?, HTB.out.b]
  have d7 := up_cell HB2.out HCC.out
  clear hB hA hW2 u0 u1 HBW
  have HTN : Hid (∀ w', Below W2.heap.size W2 w' → Calls Try.prog 51 #[.agg #[.slice ag us.length cg, .slice ar nr cr], .agg #[.int .i64 a, .int .i64 b, .int .i64 c, .int .i64 d'], .slice a' us.length c'] w' (TurnO us t (bits us.length k) w')) := fun w' hb => by
    have hb' := HB2.out.trans (hb.mono HB2.out.size)
    have := turn_any us (bits us.length k) t (.slice ag us.length cg) (.slice ar nr cr) (.slice a' us.length c') w' (HSR.out.units.below hb' (Nat.le_refl _)) ⟨_, _, _, rfl⟩ (HCR.out.below hb' (Nat.le_refl _)) (bits_len _ _) h4 HP.out.may HTL.out HOK.out
    rw [HE.out] at this
    exact this
  refine wp_region_tail (fun W => W.cell? ⟨A, 0, none⟩ = some (.slice ag us.length cg) ∧ W.cell? ⟨A, 1, none⟩ = some (.slice ar nr cr) ∧ W.cell? ⟨A, 4, none⟩ = some (.slice (some ⟨bc, oc, none⟩) pw cc) ∧ W.cell? ⟨B, 1, none⟩ = some (.int .i64 a) ∧ W.cell? ⟨B, 2, none⟩ = some (.int .i64 b) ∧ W.cell? ⟨B, 3, none⟩ = some (.int .i64 c) ∧ W.cell? ⟨B, 4, none⟩ = some (.int .i64 d') ∧ W.cell? ⟨bc, oc + k, none⟩ = some (.slice a' us.length c')) 18 (by kernel_rfl) ?_
  refine wpAnyD_takeAt 0 (some 22) (v := ?_) rfl (by kernel_rfl) (by kernel_rfl) (by kernel_rfl) (by kernel_rfl) (by kernel_rfl) (fun _ _ _ h => h) (by exact ⟨d0, d1, d2, d3, d4, d5, d6, d7⟩) (fun o hop => ?_) ?_
  rotate_left
  · injection hop with hop
    subst hop
    refine ⟨rfl, fun W hW => ?_⟩
    obtain ⟨s0, s1, s2, s3, s4, s5, s6, s7⟩ := hW
    go_simp
    first
    | rfl
    | rw [if_neg (by omega)]
  try simp only [Act.put, List.setIfInBounds_toArray, List.set_cons_zero, List.set_cons_succ]
  refine wpAnyD_takeAt 1 (some 23) (v := ?_) rfl (by kernel_rfl) (by kernel_rfl) (by kernel_rfl) (by kernel_rfl) (by kernel_rfl) (fun _ _ _ h => h) (by exact ⟨d0, d1, d2, d3, d4, d5, d6, d7⟩) (fun o hop => ?_) ?_
  rotate_left
  · injection hop with hop
    subst hop
    refine ⟨rfl, fun W hW => ?_⟩
    obtain ⟨s0, s1, s2, s3, s4, s5, s6, s7⟩ := hW
    go_simp
    first
    | rfl
    | rw [if_neg (by omega)]
  try simp only [Act.put, List.setIfInBounds_toArray, List.set_cons_zero, List.set_cons_succ]
  refine wpAnyD_takeAt 2 (some 24) (v := ?_) rfl (by kernel_rfl) (by kernel_rfl) (by kernel_rfl) (by kernel_rfl) (by kernel_rfl) (fun _ _ _ h => h) (by exact ⟨d0, d1, d2, d3, d4, d5, d6, d7⟩) (fun o hop => ?_) ?_
  rotate_left
  · injection hop with hop
    subst hop
    refine ⟨rfl, fun W hW => ?_⟩
    obtain ⟨s0, s1, s2, s3, s4, s5, s6, s7⟩ := hW
    go_simp
    first
    | rfl
    | rw [if_neg (by omega)]
  try simp only [Act.put, List.setIfInBounds_toArray, List.set_cons_zero, List.set_cons_succ]
  refine wpAnyD_takeAt 3 (some 25) (v := ?_) rfl (by kernel_rfl) (by kernel_rfl) (by kernel_rfl) (by kernel_rfl) (by kernel_rfl) (fun _ _ _ h => h) (by exact ⟨d0, d1, d2, d3, d4, d5, d6, d7⟩) (fun o hop => ?_) ?_
  rotate_left
  · injection hop with hop
    subst hop
    refine ⟨rfl, fun W hW => ?_⟩
    obtain ⟨s0, s1, s2, s3, s4, s5, s6, s7⟩ := hW
    go_simp
    first
    | rfl
    | rw [if_neg (by omega)]
  try simp only [Act.put, List.setIfInBounds_toArray, List.set_cons_zero, List.set_cons_succ]
  refine wpAnyD_takeAt 4 (some 26) (v := ?_) rfl (by kernel_rfl) (by kernel_rfl) (by kernel_rfl) (by kernel_rfl) (by kernel_rfl) (fun _ _ _ h => h) (by exact ⟨d0, d1, d2, d3, d4, d5, d6, d7⟩) (fun o hop => ?_) ?_
  rotate_left
  · injection hop with hop
    subst hop
    refine ⟨rfl, fun W hW => ?_⟩
    obtain ⟨s0, s1, s2, s3, s4, s5, s6, s7⟩ := hW
    go_simp
    first
    | rfl
    | rw [if_neg (by omega)]
  try simp only [Act.put, List.setIfInBounds_toArray, List.set_cons_zero, List.set_cons_succ]
  refine wpAnyD_takeAt 5 (some 27) (v := ?_) rfl (by kernel_rfl) (by kernel_rfl) (by kernel_rfl) (by kernel_rfl) (by kernel_rfl) (fun _ _ _ h => h) (by exact ⟨d0, d1, d2, d3, d4, d5, d6, d7⟩) (fun o hop => ?_) ?_
  rotate_left
  · injection hop with hop
    subst hop
    refine ⟨rfl, fun W hW => ?_⟩
    obtain ⟨s0, s1, s2, s3, s4, s5, s6, s7⟩ := hW
    go_simp
    first
    | rfl
    | rw [if_neg (by omega)]
  try simp only [Act.put, List.setIfInBounds_toArray, List.set_cons_zero, List.set_cons_succ]
  refine wpAnyD_takeAt 6 (some 28) (v := ?_) rfl (by kernel_rfl) (by kernel_rfl) (by kernel_rfl) (by kernel_rfl) (by kernel_rfl) (fun _ _ _ h => h) (by exact ⟨d0, d1, d2, d3, d4, d5, d6, d7⟩) (fun o hop => ?_) ?_
  rotate_left
  · injection hop with hop
    subst hop
    refine ⟨rfl, fun W hW => ?_⟩
    obtain ⟨s0, s1, s2, s3, s4, s5, s6, s7⟩ := hW
    go_simp
    first
    | rfl
    | rw [if_neg (by omega)]
  try simp only [Act.put, List.setIfInBounds_toArray, List.set_cons_zero, List.set_cons_succ]
  refine wpAnyD_takeAt 7 (some 29) (v := ?_) rfl (by kernel_rfl) (by kernel_rfl) (by kernel_rfl) (by kernel_rfl) (by kernel_rfl) (fun _ _ _ h => h) (by exact ⟨d0, d1, d2, d3, d4, d5, d6, d7⟩) (fun o hop => ?_) ?_
  rotate_left
  · injection hop with hop
    subst hop
    refine ⟨rfl, fun W hW => ?_⟩
    obtain ⟨s0, s1, s2, s3, s4, s5, s6, s7⟩ := hW
    go_simp
    first
    | rfl
    | rw [if_neg (by omega)]
  try simp only [Act.put, List.setIfInBounds_toArray, List.set_cons_zero, List.set_cons_succ]
  refine wpAnyD_takeAt 8 (some 30) (v := ?_) rfl (by kernel_rfl) (by kernel_rfl) (by kernel_rfl) (by kernel_rfl) (by kernel_rfl) (fun _ _ _ h => h) (by exact ⟨d0, d1, d2, d3, d4, d5, d6, d7⟩) (fun o hop => ?_) ?_
  rotate_left
  · injection hop with hop
    subst hop
    refine ⟨rfl, fun W hW => ?_⟩
    obtain ⟨s0, s1, s2, s3, s4, s5, s6, s7⟩ := hW
    go_simp
    first
    | rfl
    | rw [if_neg (by omega)]
  try simp only [Act.put, List.setIfInBounds_toArray, List.set_cons_zero, List.set_cons_succ]
  refine wpAnyD_takeAt 9 (some 31) (v := ?_) rfl (by kernel_rfl) (by kernel_rfl) (by kernel_rfl) (by kernel_rfl) (by kernel_rfl) (fun _ _ _ h => h) (by exact ⟨d0, d1, d2, d3, d4, d5, d6, d7⟩) (fun o hop => ?_) ?_
  rotate_left
  · injection hop with hop
    subst hop
    refine ⟨rfl, fun W hW => ?_⟩
    obtain ⟨s0, s1, s2, s3, s4, s5, s6, s7⟩ := hW
    go_simp
    first
    | rfl
    | rw [if_neg (by omega)]
  try simp only [Act.put, List.setIfInBounds_toArray, List.set_cons_zero, List.set_cons_succ]
  refine wpAnyT_two (i := 10) (j := 15) (by kernel_rfl) rfl rfl rfl rfl (fun K' hK => ?_) (fun K' hK => ?_)
  · go_simp
    go_at_call 51
    refine (HTN.out W2.drew (by exact (Below.refl _ W2).drew)).mono ?_
    rintro e w4 ⟨hres, hb4⟩
    obtain ⟨a2, b2, c2, d2', s, ec, rfl, hec⟩ : ∃ (a2 b2 c2 d2' s ec : Int), e = .returned (.tuple #[.agg #[.int .i64 a2, .int .i64 b2, .int .i64 c2, .int .i64 d2'], .int .i64 s, .int .i64 ec]) ∧ ((ec = 15 ∧ nextL us t (bits us.length k) = none) ∨ (ec = 0 ∧ ∃ l, nextL us t (bits us.length k) = some (l, s) ∧ stand l = [a2, b2, c2, d2'])) := by
      rcases hres with ⟨hn, rfl⟩ | ⟨l, s, hn, rfl⟩
      · exact ⟨0, 0, 0, 0, 0, 15, rfl, .inl ⟨rfl, hn⟩⟩
      · obtain ⟨a2, b2, c2, d2', he2⟩ := list4I (stand_len (t := l) (by rw [(nextK_spec HP.out.may us.length (Nat.le_refl _) l s hn).1]; exact h4))
        exact ⟨a2, b2, c2, d2', s, 0, by rw [he2]; rfl, .inr ⟨rfl, l, hn, he2⟩⟩
    have HEC := hide' hec
    clear hres hec
    have HB4 : Hid (Below W2.heap.size W2 w4) := (Below.refl _ W2).drew.trans hb4
    have HTB4 := hide' (HTB.out.below HB4.out)
    have HBW4 := hide' (HB2.out.trans (HB4.out.mono HB2.out.size))
    have f0 : w4.cell? ⟨A, 0, none⟩ = some (.slice ag us.length cg) := by simp [World.cell?, HTB4.out.a]
    have f1 : w4.cell? ⟨A, 1, none⟩ = some (.slice ar nr cr) := by simp [World.cell?, HTB4.out.a]
    have f2 : w4.cell? ⟨A, 4, none⟩ = some (.slice (some ⟨bc, oc, none⟩) pw cc) := by simp [World.cell?, HTB4.out.a]
    have f3 : w4.cell? ⟨B, 1, none⟩ = some (.int .i64 a) := by simp [World.cell?, HTB4.out.b]
    have f4 : w4.cell? ⟨B, 2, none⟩ = some (.int .i64 b) := by simp [World.cell?, HTB4.out.b]
    have f5 : w4.cell? ⟨B, 3, none⟩ = some (.int .i64 c) := by simp [World.cell?, HTB4.out.b]
    have f6 : w4.cell? ⟨B, 4, none⟩ = some (.int .i64 d') := by simp [World.cell?, HTB4.out.b]
    have f7 := up_cell HBW4.out HCC.out
    clear hb4 d0 d1 d2 d3 d4 d5 d6 d7
    refine hK.out _ _ (fun _ => by exact ⟨f0, f1, f2, f3, f4, f5, f6, f7⟩) ?_
    clear hK K'
    refine wpAnyD_takeAt 11 (some 21) (v := ?_) rfl (by kernel_rfl) (by kernel_rfl) (by kernel_rfl) (by kernel_rfl) (by kernel_rfl) (fun _ _ _ h => h) (by exact ⟨f0, f1, f2, f3, f4, f5, f6, f7⟩) (fun o hop => ?_) ?_
    rotate_left
    · injection hop with hop
      subst hop
      refine ⟨rfl, fun W hW => ?_⟩
      obtain ⟨s0, s1, s2, s3, s4, s5, s6, s7⟩ := hW
      go_simp
      first
      | rfl
      | rw [if_neg (by omega)]
    try simp only [Act.put, List.setIfInBounds_toArray, List.set_cons_zero, List.set_cons_succ]
    refine wpAnyD_takeAt 12 (some 33) (v := ?_) rfl (by kernel_rfl) (by kernel_rfl) (by kernel_rfl) (by kernel_rfl) (by kernel_rfl) (fun _ _ _ h => h) (by exact ⟨f0, f1, f2, f3, f4, f5, f6, f7⟩) (fun o hop => ?_) ?_
    rotate_left
    · injection hop with hop
      subst hop
      refine ⟨rfl, fun W hW => ?_⟩
      obtain ⟨s0, s1, s2, s3, s4, s5, s6, s7⟩ := hW
      go_simp
      first
      | rfl
      | rw [if_neg (by omega)]
    try simp only [Act.put, List.setIfInBounds_toArray, List.set_cons_zero, List.set_cons_succ]
    refine wpAnyD_takeAt 13 (some 34) (v := ?_) rfl (by kernel_rfl) (by kernel_rfl) (by kernel_rfl) (by kernel_rfl) (by kernel_rfl) (fun _ _ _ h => h) (by exact ⟨f0, f1, f2, f3, f4, f5, f6, f7⟩) (fun o hop => ?_) ?_
    rotate_left
    · injection hop with hop
      subst hop
      refine ⟨rfl, fun W hW => ?_⟩
      obtain ⟨s0, s1, s2, s3, s4, s5, s6, s7⟩ := hW
      go_simp
      first
      | rfl
      | rw [if_neg (by omega)]
    try simp only [Act.put, List.setIfInBounds_toArray, List.set_cons_zero, List.set_cons_succ]
    refine wpAnyD_takeAt 14 (some 35) (v := ?_) rfl (by kernel_rfl) (by kernel_rfl) (by kernel_rfl) (by kernel_rfl) (by kernel_rfl) (fun _ _ _ h => h) (by exact ⟨f0, f1, f2, f3, f4, f5, f6, f7⟩) (fun o hop => ?_) ?_
    rotate_left
    · injection hop with hop
      subst hop
      refine ⟨rfl, fun W hW => ?_⟩
      obtain ⟨s0, s1, s2, s3, s4, s5, s6, s7⟩ := hW
      go_simp
      first
      | rfl
      | rw [if_neg (by omega)]
    try simp only [Act.put, List.setIfInBounds_toArray, List.set_cons_zero, List.set_cons_succ]
    refine wpAnyT_one (i := 15) (by kernel_rfl) rfl rfl (fun K' hK => ?_)
    go_simp
    have g0 := later f0
    have g1 := later f1
    have g2 := later f2
    have g3 := later f3
    have g4 := later f4
    have g5 := later f5
    have g6 := later f6
    have g7 := later f7
    refine hK.out _ _ (fun _ => by exact ⟨g0 _, g1 _, g2 _, g3 _, g4 _, g5 _, g6 _, g7 _⟩) ?_
    clear hK K'
    refine wpAnyT_one (i := 16) (by kernel_rfl) rfl rfl (fun K' hK => ?_)
    go_simp
    refine hK.out _ _ (fun _ => by exact ⟨g0 _, g1 _, g2 _, g3 _, g4 _, g5 _, g6 _, g7 _⟩) ?_
    clear hK K'
    refine wpAnyT_one (i := 17) (by kernel_rfl) rfl rfl (fun K' hK => ?_)
    go_simp
    refine hK.out _ _ (fun _ => by exact ⟨g0 _, g1 _, g2 _, g3 _, g4 _, g5 _, g6 _, g7 _⟩) ?_
    clear hK K'
    refine wpAnyT_one (i := 18) (by kernel_rfl) rfl rfl (fun K' hK => ?_)
    go_simp
    refine hK.out _ _ (fun h => absurd rfl h) ?_
    clear hK K'
    refine wpAnyT_done (by kernel_rfl) ?_ _
    have HXF0 := hide' (alloc_new w4 (.cells #[.int .i64 a2, .int .i64 b2, .int .i64 c2, .int .i64 d2'] 86))
    have HBF0 : Hid (Below W2.heap.size W2 (w4.alloc (.cells #[.int .i64 a2, .int .i64 b2, .int .i64 c2, .int .i64 d2'] 86))) := HB4.out.alloc HB4.out.size _
    obtain ⟨WF, hWF⟩ : ∃ WF, WF = w4.alloc (.cells #[.int .i64 a2, .int .i64 b2, .int .i64 c2, .int .i64 d2'] 86) := ⟨_, rfl⟩
    obtain ⟨X, hX⟩ : ∃ X, X = w4.heap.size := ⟨_, rfl⟩
    have HXF : Hid (WF.heap[X]? = some (.cells #[.int .i64 a2, .int .i64 b2, .int .i64 c2, .int .i64 d2'] 86 (0, 0))) := by rw [hWF, hX]; exact HXF0.out
    have HBF : Hid (Below W2.heap.size W2 WF) := by rw [hWF]; exact HBF0.out
    have HTBF := hide' (HTB.out.below HBF.out)
    rw [← hWF, ← hX]
    clear hWF hX HXF0 HBF0 f0 f1 f2 f3 f4 f5 f6 f7 g0 g1 g2 g3 g4 g5 g6 g7 HTN
    have HSRF := hide' (HSR2.out.below HBF.out)
    have HBUT : Hid (But M W WF) := But.of (HB2.out.trans (HBF.out.mono HB2.out.size))
    have hpl := HP.out
    by_cases hrn : rv0 = 9223372036854775807
    · have HN : Hid (thruL us need spare d h t k = none) := by
        refine thru_run ?_
        cases hh : hourC us (bits us.length k) (need.getD h 0) (spare.getD h 0) with
        | none => rfl
        | some x =>
          have h1 := hour_bound hpl.may h4 hh
          have h2 := HRV.out
          rw [runV, hh] at h2
          have h3 : rv0 = x := h2
          omega
      clear HEC HRV hpl
      subst hrn
      go_wp2
      go_ret
      exact ThruO.of (by rw [HN.out]; rfl) HBUT.out HSRF.out
    · have HHC : Hid (hourC us (bits us.length k) (need.getD h 0) (spare.getD h 0) = some rv0) := by
        have h2 := HRV.out
        cases hh : hourC us (bits us.length k) (need.getD h 0) (spare.getD h 0) with
        | none => rw [runV, hh] at h2; exact absurd h2 hrn
        | some x => rw [runV, hh] at h2; have h3 : rv0 = x := h2; rw [h3]; exact (rfl : some x = some x)
      have hrb := hour_bound hpl.may h4 HHC.out
      have hrne : (rv0 == 9223372036854775807) = false := by simpa using hrn
      rcases HEC.out with ⟨hec, hnl⟩ | ⟨hec, l, hnl, hel⟩
      · subst hec
        have HN := hide' (thru_next (need := need) (spare := spare) (d := d) (h := h) hnl)
        clear HEC HRV hpl hnl
        go_wp2
        go_ret
        exact ThruO.of (by rw [HN.out]; rfl) HBUT.out HSRF.out
      · subst hec
        have hsp := nextK_spec hpl.may us.length (Nat.le_refl _) l s hnl
        have hs0 := hsp.2.2.1
        have hs1 : s ≤ 4000000 := by have := hsp.2.2.2; omega
        have HTH := hide' (thru_is (d := d) HHC.out hnl)
        have HLB : Hid (∀ c k, look us need spare d (h + 1) l = some (c, k) → 0 ≤ c ∧ c ≤ 400000000000) := fun c k hc => by
          have := look_bound hpl d (h + 1) l c k hc
          have h8' := hpl.h8
          omega
        have HAC : Hid (Calls Try.prog 54 #[.agg #[.slice ag us.length cg, .slice ar nr cr, .slice an need.length cn, .slice as' ns cs, .slice (some ⟨bc, oc, none⟩) pw cc, .slice (some ⟨bu, ou, none⟩) need.length cu, .map (some M)], .agg #[.int .i64 ((h : Int) + 1), .int .i64 a2, .int .i64 b2, .int .i64 c2, .int .i64 d2']] WF fun e W' => e = .returned (outV (look us need spare d (h + 1) l)) ∧ But M WF W' ∧ Srch W' us need spare (.slice ag us.length cg) (.slice (some ⟨bc, oc, none⟩) pw cc) (.slice (some ⟨bu, ou, none⟩) need.length cu) M) := by
          have := HAGD.out (h + 1) l _ _ _ ar an as' nr cr cn ns cs M WF (by omega) hsp.1 (nextK_ok hpl.may HOK.out (by rw [HTL.out]; exact Nat.le_refl _) us.length (Nat.le_refl _) l s hnl) HSRF.out
          rw [momT_is hel] at this
          exact this
        have pa0 : WF.cell? ⟨A, 0, none⟩ = some (.slice ag us.length cg) := by simp [World.cell?, HTBF.out.a]
        have pa1 : WF.cell? ⟨A, 1, none⟩ = some (.slice ar nr cr) := by simp [World.cell?, HTBF.out.a]
        have pa2 : WF.cell? ⟨A, 2, none⟩ = some (.slice an need.length cn) := by simp [World.cell?, HTBF.out.a]
        have pa3 : WF.cell? ⟨A, 3, none⟩ = some (.slice as' ns cs) := by simp [World.cell?, HTBF.out.a]
        have pa4 : WF.cell? ⟨A, 4, none⟩ = some (.slice (some ⟨bc, oc, none⟩) pw cc) := by simp [World.cell?, HTBF.out.a]
        have pa5 : WF.cell? ⟨A, 5, none⟩ = some (.slice (some ⟨bu, ou, none⟩) need.length cu) := by simp [World.cell?, HTBF.out.a]
        have pa6 : WF.cell? ⟨A, 6, none⟩ = some (.map (some M)) := by simp [World.cell?, HTBF.out.a]
        have pb0 : WF.cell? ⟨B, 0, none⟩ = some (.int .i64 h) := by simp [World.cell?, HTBF.out.b]
        have pb1 : WF.cell? ⟨B, 1, none⟩ = some (.int .i64 a) := by simp [World.cell?, HTBF.out.b]
        have pb2 : WF.cell? ⟨B, 2, none⟩ = some (.int .i64 b) := by simp [World.cell?, HTBF.out.b]
        have pb3 : WF.cell? ⟨B, 3, none⟩ = some (.int .i64 c) := by simp [World.cell?, HTBF.out.b]
        have pb4 : WF.cell? ⟨B, 4, none⟩ = some (.int .i64 d') := by simp [World.cell?, HTBF.out.b]
        have q0 : WF.cell? ⟨X, 0, none⟩ = some (.int .i64 a2) := by simp [World.cell?, HXF.out]
        have q1 : WF.cell? ⟨X, 1, none⟩ = some (.int .i64 b2) := by simp [World.cell?, HXF.out]
        have q2 : WF.cell? ⟨X, 2, none⟩ = some (.int .i64 c2) := by simp [World.cell?, HXF.out]
        have q3 : WF.cell? ⟨X, 3, none⟩ = some (.int .i64 d2') := by simp [World.cell?, HXF.out]
        clear HEC HRV hpl hnl hel hsp HHC
        go_wp2_with fail
        refine HAC.out.mono ?_
        rintro e W5 ⟨rfl, hb5, hs5⟩
        have HB5 := hide' (HBUT.out.trans hb5)
        have HS5 := hide' hs5
        clear hb5 hs5 HAC
        cases hlk : look us need spare d (h + 1) l with
        | none =>
          have HN : Hid (thruL us need spare d h t k = none) := by show _ = _; rw [HTH.out, hlk]; rfl
          rw [show outV (none : Option (Int × Nat)) = .agg #[.int .i64 9223372036854775807, .int .i64 0] from rfl]
          have hf0 := fun w => field99 9223372036854775807 0 w
          clear HTH hlk
          go_wp2
          go_ret
          exact ThruO.of (by rw [HN.out]; rfl) HB5.out HS5.out
        | some o =>
          obtain ⟨co, ko⟩ := o
          have hcb := HLB.out co ko hlk
          have HN : Hid (thruL us need spare d h t k = some (rv0 + s + co)) := by show _ = _; rw [HTH.out, hlk]; rfl
          rw [show outV (some (co, ko)) = .agg #[.int .i64 co, .int .i64 ko] from rfl]
          have hcne : (co == 9223372036854775807) = false := by simp; omega
          have hf0 := fun w => field99 co ko w
          clear HTH hlk HLB
          go_wp2
          go_ret
          exact ThruO.of (by rw [HN.out]; rfl) HB5.out HS5.out
  · go_simp
    have g0 := later d0
    have g1 := later d1
    have g2 := later d2
    have g3 := later d3
    have g4 := later d4
    have g5 := later d5
    have g6 := later d6
    have g7 := later d7
    refine hK.out _ _ (fun _ => by exact ⟨g0 _, g1 _, g2 _, g3 _, g4 _, g5 _, g6 _, g7 _⟩) ?_
    clear hK K'
    refine wpAnyT_one (i := 10) (by kernel_rfl) rfl rfl (fun K' hK => ?_)
    go_simp
    go_at_call 51
    refine (HTN.out (W2.drew.alloc (.cells #[.int .i64 0, .int .i64 0, .int .i64 0, .int .i64 0] 86)) (by exact (Below.refl _ W2).drew.alloc (Nat.le_refl _) _)).mono ?_
    rintro e w4 ⟨hres, hb4⟩
    obtain ⟨a2, b2, c2, d2', s, ec, rfl, hec⟩ : ∃ (a2 b2 c2 d2' s ec : Int), e = .returned (.tuple #[.agg #[.int .i64 a2, .int .i64 b2, .int .i64 c2, .int .i64 d2'], .int .i64 s, .int .i64 ec]) ∧ ((ec = 15 ∧ nextL us t (bits us.length k) = none) ∨ (ec = 0 ∧ ∃ l, nextL us t (bits us.length k) = some (l, s) ∧ stand l = [a2, b2, c2, d2'])) := by
      rcases hres with ⟨hn, rfl⟩ | ⟨l, s, hn, rfl⟩
      · exact ⟨0, 0, 0, 0, 0, 15, rfl, .inl ⟨rfl, hn⟩⟩
      · obtain ⟨a2, b2, c2, d2', he2⟩ := list4I (stand_len (t := l) (by rw [(nextK_spec HP.out.may us.length (Nat.le_refl _) l s hn).1]; exact h4))
        exact ⟨a2, b2, c2, d2', s, 0, by rw [he2]; rfl, .inr ⟨rfl, l, hn, he2⟩⟩
    have HEC := hide' hec
    clear hres hec
    have HZ : Hid (w4.heap[W2.heap.size]? = some (.cells #[.int .i64 0, .int .i64 0, .int .i64 0, .int .i64 0] 86 (0, 0))) := (hb4.block W2.heap.size (by simp)).trans (alloc_new W2.drew _)
    have HB4 : Hid (Below W2.heap.size W2 w4) := ((Below.refl _ W2).drew.alloc (Nat.le_refl _) _).trans (hb4.mono (by simp))
    have HTB4 := hide' (HTB.out.below HB4.out)
    have HBW4 := hide' (HB2.out.trans (HB4.out.mono HB2.out.size))
    obtain ⟨X, hX⟩ : ∃ X, X = W2.heap.size := ⟨_, rfl⟩
    have HXL : Hid (W2.heap.size ≤ X) := by rw [hX]; exact Nat.le_refl _
    rw [← hX] at HZ
    have f0 : w4.cell? ⟨A, 0, none⟩ = some (.slice ag us.length cg) := by simp [World.cell?, HTB4.out.a]
    have f1 : w4.cell? ⟨A, 1, none⟩ = some (.slice ar nr cr) := by simp [World.cell?, HTB4.out.a]
    have f2 : w4.cell? ⟨A, 4, none⟩ = some (.slice (some ⟨bc, oc, none⟩) pw cc) := by simp [World.cell?, HTB4.out.a]
    have f3 : w4.cell? ⟨B, 1, none⟩ = some (.int .i64 a) := by simp [World.cell?, HTB4.out.b]
    have f4 : w4.cell? ⟨B, 2, none⟩ = some (.int .i64 b) := by simp [World.cell?, HTB4.out.b]
    have f5 : w4.cell? ⟨B, 3, none⟩ = some (.int .i64 c) := by simp [World.cell?, HTB4.out.b]
    have f6 : w4.cell? ⟨B, 4, none⟩ = some (.int .i64 d') := by simp [World.cell?, HTB4.out.b]
    have f7 := up_cell HBW4.out HCC.out
    clear hb4 d0 d1 d2 d3 d4 d5 d6 d7 g0 g1 g2 g3 g4 g5 g6 g7
    refine hK.out _ _ (fun _ => by exact ⟨f0, f1, f2, f3, f4, f5, f6, f7⟩) ?_
    clear hK K'
    rw [← hX]
    clear hX
    have z0 : w4.cell? ⟨X, 0, none⟩ = some (.int .i64 0) := by simp [World.cell?, HZ.out]
    have z1 : w4.cell? ⟨X, 1, none⟩ = some (.int .i64 0) := by simp [World.cell?, HZ.out]
    have z2 : w4.cell? ⟨X, 2, none⟩ = some (.int .i64 0) := by simp [World.cell?, HZ.out]
    have z3 : w4.cell? ⟨X, 3, none⟩ = some (.int .i64 0) := by simp [World.cell?, HZ.out]
    have y0 := frozen_no HZ.out 0
    have y1 := frozen_no HZ.out 1
    have y2 := frozen_no HZ.out 2
    have y3 := frozen_no HZ.out 3
    refine wpAnyD_takeAt 11 (some 21) (v := ?_) rfl (by kernel_rfl) (by kernel_rfl) (by kernel_rfl) (by kernel_rfl) (by kernel_rfl) (fun _ _ _ h => h) (by exact ⟨f0, f1, f2, f3, f4, f5, f6, f7⟩) (fun o hop => ?_) ?_
    rotate_left
    · injection hop with hop
      subst hop
      refine ⟨rfl, fun W hW => ?_⟩
      obtain ⟨s0, s1, s2, s3, s4, s5, s6, s7⟩ := hW
      go_simp
      first
      | rfl
      | rw [if_neg (by omega)]
    try simp only [Act.put, List.setIfInBounds_toArray, List.set_cons_zero, List.set_cons_succ]
    refine wpAnyD_takeAt 12 (some 33) (v := ?_) rfl (by kernel_rfl) (by kernel_rfl) (by kernel_rfl) (by kernel_rfl) (by kernel_rfl) (fun _ _ _ h => h) (by exact ⟨f0, f1, f2, f3, f4, f5, f6, f7⟩) (fun o hop => ?_) ?_
    rotate_left
    · injection hop with hop
      subst hop
      refine ⟨rfl, fun W hW => ?_⟩
      obtain ⟨s0, s1, s2, s3, s4, s5, s6, s7⟩ := hW
      go_simp
      first
      | rfl
      | rw [if_neg (by omega)]
    try simp only [Act.put, List.setIfInBounds_toArray, List.set_cons_zero, List.set_cons_succ]
    refine wpAnyD_takeAt 13 (some 34) (v := ?_) rfl (by kernel_rfl) (by kernel_rfl) (by kernel_rfl) (by kernel_rfl) (by kernel_rfl) (fun _ _ _ h => h) (by exact ⟨f0, f1, f2, f3, f4, f5, f6, f7⟩) (fun o hop => ?_) ?_
    rotate_left
    · injection hop with hop
      subst hop
      refine ⟨rfl, fun W hW => ?_⟩
      obtain ⟨s0, s1, s2, s3, s4, s5, s6, s7⟩ := hW
      go_simp
      first
      | rfl
      | rw [if_neg (by omega)]
    try simp only [Act.put, List.setIfInBounds_toArray, List.set_cons_zero, List.set_cons_succ]
    refine wpAnyD_takeAt 14 (some 35) (v := ?_) rfl (by kernel_rfl) (by kernel_rfl) (by kernel_rfl) (by kernel_rfl) (by kernel_rfl) (fun _ _ _ h => h) (by exact ⟨f0, f1, f2, f3, f4, f5, f6, f7⟩) (fun o hop => ?_) ?_
    rotate_left
    · injection hop with hop
      subst hop
      refine ⟨rfl, fun W hW => ?_⟩
      obtain ⟨s0, s1, s2, s3, s4, s5, s6, s7⟩ := hW
      go_simp
      first
      | rfl
      | rw [if_neg (by omega)]
    try simp only [Act.put, List.setIfInBounds_toArray, List.set_cons_zero, List.set_cons_succ]
    refine wpAnyT_one (i := 16) (by kernel_rfl) rfl rfl (fun K' hK => ?_)
    go_simp
    have HBF : Hid (Below W2.heap.size W2 ((((w4.setCell ⟨X, 0, none⟩ (.int .i64 a2)).setCell ⟨X, 1, none⟩ (.int .i64 b2)).setCell ⟨X, 2, none⟩ (.int .i64 c2)).setCell ⟨X, 3, none⟩ (.int .i64 d2'))) := (((HB4.out.setCell (p := ⟨X, 0, none⟩) HXL.out _).setCell (p := ⟨X, 1, none⟩) HXL.out _).setCell (p := ⟨X, 2, none⟩) HXL.out _).setCell (p := ⟨X, 3, none⟩) HXL.out _
    have HXF : Hid (((((w4.setCell ⟨X, 0, none⟩ (.int .i64 a2)).setCell ⟨X, 1, none⟩ (.int .i64 b2)).setCell ⟨X, 2, none⟩ (.int .i64 c2)).setCell ⟨X, 3, none⟩ (.int .i64 d2')).heap[X]? = some (.cells #[.int .i64 a2, .int .i64 b2, .int .i64 c2, .int .i64 d2'] 86 (0, 0))) := (set_any (set_any (set_any (set_any HZ.out 0 _) 1 _) 2 _) 3 _).trans rfl
    obtain ⟨WF, hWF⟩ : ∃ WF, WF = (((w4.setCell ⟨X, 0, none⟩ (.int .i64 a2)).setCell ⟨X, 1, none⟩ (.int .i64 b2)).setCell ⟨X, 2, none⟩ (.int .i64 c2)).setCell ⟨X, 3, none⟩ (.int .i64 d2') := ⟨_, rfl⟩
    rw [← hWF] at HBF HXF ⊢
    have HTBF := hide' (HTB.out.below HBF.out)
    have HBWF := hide' (HB2.out.trans (HBF.out.mono HB2.out.size))
    clear hWF f0 f1 f2 f3 f4 f5 f6 f7 z0 z1 z2 z3 y0 y1 y2 y3 HTN
    have f0 : WF.cell? ⟨A, 0, none⟩ = some (.slice ag us.length cg) := by simp [World.cell?, HTBF.out.a]
    have f1 : WF.cell? ⟨A, 1, none⟩ = some (.slice ar nr cr) := by simp [World.cell?, HTBF.out.a]
    have f2 : WF.cell? ⟨A, 4, none⟩ = some (.slice (some ⟨bc, oc, none⟩) pw cc) := by simp [World.cell?, HTBF.out.a]
    have f3 : WF.cell? ⟨B, 1, none⟩ = some (.int .i64 a) := by simp [World.cell?, HTBF.out.b]
    have f4 : WF.cell? ⟨B, 2, none⟩ = some (.int .i64 b) := by simp [World.cell?, HTBF.out.b]
    have f5 : WF.cell? ⟨B, 3, none⟩ = some (.int .i64 c) := by simp [World.cell?, HTBF.out.b]
    have f6 : WF.cell? ⟨B, 4, none⟩ = some (.int .i64 d') := by simp [World.cell?, HTBF.out.b]
    have f7 := up_cell HBWF.out HCC.out
    refine hK.out _ _ (fun _ => by exact ⟨f0, f1, f2, f3, f4, f5, f6, f7⟩) ?_
    clear hK K'
    refine wpAnyT_one (i := 17) (by kernel_rfl) rfl rfl (fun K' hK => ?_)
    go_simp
    refine hK.out _ _ (fun _ => by exact ⟨f0, f1, f2, f3, f4, f5, f6, f7⟩) ?_
    clear hK K'
    refine wpAnyT_one (i := 18) (by kernel_rfl) rfl rfl (fun K' hK => ?_)
    go_simp
    refine hK.out _ _ (fun h => absurd rfl h) ?_
    clear hK K'
    refine wpAnyT_done (by kernel_rfl) ?_ _
    clear f0 f1 f2 f3 f4 f5 f6 f7
    have HSRF := hide' (HSR2.out.below HBF.out)
    have HBUT : Hid (But M W WF) := But.of (HB2.out.trans (HBF.out.mono HB2.out.size))
    have hpl := HP.out
    by_cases hrn : rv0 = 9223372036854775807
    · have HN : Hid (thruL us need spare d h t k = none) := by
        refine thru_run ?_
        cases hh : hourC us (bits us.length k) (need.getD h 0) (spare.getD h 0) with
        | none => rfl
        | some x =>
          have h1 := hour_bound hpl.may h4 hh
          have h2 := HRV.out
          rw [runV, hh] at h2
          have h3 : rv0 = x := h2
          omega
      clear HEC HRV hpl
      subst hrn
      go_wp2
      go_ret
      exact ThruO.of (by rw [HN.out]; rfl) HBUT.out HSRF.out
    · have HHC : Hid (hourC us (bits us.length k) (need.getD h 0) (spare.getD h 0) = some rv0) := by
        have h2 := HRV.out
        cases hh : hourC us (bits us.length k) (need.getD h 0) (spare.getD h 0) with
        | none => rw [runV, hh] at h2; exact absurd h2 hrn
        | some x => rw [runV, hh] at h2; have h3 : rv0 = x := h2; rw [h3]; exact (rfl : some x = some x)
      have hrb := hour_bound hpl.may h4 HHC.out
      have hrne : (rv0 == 9223372036854775807) = false := by simpa using hrn
      rcases HEC.out with ⟨hec, hnl⟩ | ⟨hec, l, hnl, hel⟩
      · subst hec
        have HN := hide' (thru_next (need := need) (spare := spare) (d := d) (h := h) hnl)
        clear HEC HRV hpl hnl
        go_wp2
        go_ret
        exact ThruO.of (by rw [HN.out]; rfl) HBUT.out HSRF.out
      · subst hec
        have hsp := nextK_spec hpl.may us.length (Nat.le_refl _) l s hnl
        have hs0 := hsp.2.2.1
        have hs1 : s ≤ 4000000 := by have := hsp.2.2.2; omega
        have HTH := hide' (thru_is (d := d) HHC.out hnl)
        have HLB : Hid (∀ c k, look us need spare d (h + 1) l = some (c, k) → 0 ≤ c ∧ c ≤ 400000000000) := fun c k hc => by
          have := look_bound hpl d (h + 1) l c k hc
          have h8' := hpl.h8
          omega
        have HAC : Hid (Calls Try.prog 54 #[.agg #[.slice ag us.length cg, .slice ar nr cr, .slice an need.length cn, .slice as' ns cs, .slice (some ⟨bc, oc, none⟩) pw cc, .slice (some ⟨bu, ou, none⟩) need.length cu, .map (some M)], .agg #[.int .i64 ((h : Int) + 1), .int .i64 a2, .int .i64 b2, .int .i64 c2, .int .i64 d2']] WF fun e W' => e = .returned (outV (look us need spare d (h + 1) l)) ∧ But M WF W' ∧ Srch W' us need spare (.slice ag us.length cg) (.slice (some ⟨bc, oc, none⟩) pw cc) (.slice (some ⟨bu, ou, none⟩) need.length cu) M) := by
          have := HAGD.out (h + 1) l _ _ _ ar an as' nr cr cn ns cs M WF (by omega) hsp.1 (nextK_ok hpl.may HOK.out (by rw [HTL.out]; exact Nat.le_refl _) us.length (Nat.le_refl _) l s hnl) HSRF.out
          rw [momT_is hel] at this
          exact this
        have pa0 : WF.cell? ⟨A, 0, none⟩ = some (.slice ag us.length cg) := by simp [World.cell?, HTBF.out.a]
        have pa1 : WF.cell? ⟨A, 1, none⟩ = some (.slice ar nr cr) := by simp [World.cell?, HTBF.out.a]
        have pa2 : WF.cell? ⟨A, 2, none⟩ = some (.slice an need.length cn) := by simp [World.cell?, HTBF.out.a]
        have pa3 : WF.cell? ⟨A, 3, none⟩ = some (.slice as' ns cs) := by simp [World.cell?, HTBF.out.a]
        have pa4 : WF.cell? ⟨A, 4, none⟩ = some (.slice (some ⟨bc, oc, none⟩) pw cc) := by simp [World.cell?, HTBF.out.a]
        have pa5 : WF.cell? ⟨A, 5, none⟩ = some (.slice (some ⟨bu, ou, none⟩) need.length cu) := by simp [World.cell?, HTBF.out.a]
        have pa6 : WF.cell? ⟨A, 6, none⟩ = some (.map (some M)) := by simp [World.cell?, HTBF.out.a]
        have pb0 : WF.cell? ⟨B, 0, none⟩ = some (.int .i64 h) := by simp [World.cell?, HTBF.out.b]
        have pb1 : WF.cell? ⟨B, 1, none⟩ = some (.int .i64 a) := by simp [World.cell?, HTBF.out.b]
        have pb2 : WF.cell? ⟨B, 2, none⟩ = some (.int .i64 b) := by simp [World.cell?, HTBF.out.b]
        have pb3 : WF.cell? ⟨B, 3, none⟩ = some (.int .i64 c) := by simp [World.cell?, HTBF.out.b]
        have pb4 : WF.cell? ⟨B, 4, none⟩ = some (.int .i64 d') := by simp [World.cell?, HTBF.out.b]
        have q0 : WF.cell? ⟨X, 0, none⟩ = some (.int .i64 a2) := by simp [World.cell?, HXF.out]
        have q1 : WF.cell? ⟨X, 1, none⟩ = some (.int .i64 b2) := by simp [World.cell?, HXF.out]
        have q2 : WF.cell? ⟨X, 2, none⟩ = some (.int .i64 c2) := by simp [World.cell?, HXF.out]
        have q3 : WF.cell? ⟨X, 3, none⟩ = some (.int .i64 d2') := by simp [World.cell?, HXF.out]
        clear HEC HRV hpl hnl hel hsp HHC
        go_wp2_with fail
        refine HAC.out.mono ?_
        rintro e W5 ⟨rfl, hb5, hs5⟩
        have HB5 := hide' (HBUT.out.trans hb5)
        have HS5 := hide' hs5
        clear hb5 hs5 HAC
        cases hlk : look us need spare d (h + 1) l with
        | none =>
          have HN : Hid (thruL us need spare d h t k = none) := by show _ = _; rw [HTH.out, hlk]; rfl
          rw [show outV (none : Option (Int × Nat)) = .agg #[.int .i64 9223372036854775807, .int .i64 0] from rfl]
          have hf0 := fun w => field99 9223372036854775807 0 w
          clear HTH hlk
          go_wp2
          go_ret
          exact ThruO.of (by rw [HN.out]; rfl) HB5.out HS5.out
        | some o =>
          obtain ⟨co, ko⟩ := o
          have hcb := HLB.out co ko hlk
          have HN : Hid (thruL us need spare d h t k = some (rv0 + s + co)) := by show _ = _; rw [HTH.out, hlk]; rfl
          rw [show outV (some (co, ko)) = .agg #[.int .i64 co, .int .i64 ko] from rfl]
          have hcne : (co == 9223372036854775807) = false := by simp; omega
          have hf0 := fun w => field99 co ko w
          clear HTH hlk HLB
          go_wp2
          go_ret
          exact ThruO.of (by rw [HN.out]; rfl) HB5.out HS5.out
end Go.Proofs.Ytlbeecjkfakkpag
