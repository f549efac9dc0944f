/- What a schedule costs, in the program. -/
import Derived.Test.YtlbeecjkfakkpagEd
namespace Go.Proofs.Ytlbeecjkfakkpag
open Go.RowKit Go.Shelf

/-- What value answers. -/
def ValO (us : List UnitM) (need spare : List Int) (on : List (List Bool)) (w : World) (e : Ending) (w' : World) : Prop :=
  ((∃ c, valK us need spare on on.length = .error c ∧ e = .returned (.tuple #[.int .i64 0, .int .i64 c])) ∨
   (∃ t c, valK us need spare on on.length = .ok (t, c) ∧ e = .returned (.tuple #[.int .i64 c, .int .i64 0]))) ∧ Below w.heap.size w w'
/-- The plan at work: its box, and how units stand. -/
structure VSt (w W : World) (P S : Nat) (pv : Array Value) (t : List Int) : Prop where
  hP : W.heap[P]? = some (.cells pv 64 (0, 0))
  hS : W.heap[S]? = some (.cells (ints (stand t)).toArray 86 (0, 0))
  ne : P ≠ S
  sP : w.heap.size ≤ P
  sS : w.heap.size ≤ S
  bel : Below w.heap.size w W
theorem VSt.more {w W W' : World} {P S : Nat} {pv : Array Value} {t : List Int} (h : VSt w W P S pv t) (hb : Below W.heap.size W W') : VSt w W' P S pv t :=
  ⟨(hb.block P (Array.getElem?_eq_some_iff.1 h.hP).1).trans h.hP, (hb.block S (Array.getElem?_eq_some_iff.1 h.hS).1).trans h.hS, h.ne, h.sP, h.sS, h.bel.trans (hb.mono h.bel.size)⟩
theorem VSt.set4 {w W : World} {P S : Nat} {pv : Array Value} {t l : List Int} {a b c d a' b' c' d' : Int} (h : VSt w W P S pv t) (ht : stand t = [a', b', c', d']) (hl : stand l = [a, b, c, d]) : VSt w (((((W).setCell ⟨S, 0, none⟩ (.int .i64 a)).setCell ⟨S, 1, none⟩ (.int .i64 b)).setCell ⟨S, 2, none⟩ (.int .i64 c)).setCell ⟨S, 3, none⟩ (.int .i64 d)) P S pv l := by
  have h0 := h.hS
  rw [ht] at h0
  refine ⟨?_, ?_, h.ne, h.sP, h.sS, (((h.bel.setCell (p := ⟨S, 0, none⟩) h.sS _).setCell (p := ⟨S, 1, none⟩) h.sS _).setCell (p := ⟨S, 2, none⟩) h.sS _).setCell (p := ⟨S, 3, none⟩) h.sS _⟩
  · rw [Below.heap_setCell _ _ _ P h.ne, Below.heap_setCell _ _ _ P h.ne, Below.heap_setCell _ _ _ P h.ne, Below.heap_setCell _ _ _ P h.ne]
    exact h.hP
  · rw [hl]
    exact (set_any (set_any (set_any (set_any h0 0 _) 1 _) 2 _) 3 _).trans rfl
set_option maxRecDepth 100000 in
set_option maxHeartbeats 4000000 in
theorem value_any (us : List UnitM) (need spare : List Int) (on : List (List Bool)) (dd : Array Nat) (lv rv nv sv ov : Value) (w : World) (hx : UnitsAt w lv us) (hr : RowAt w rv us.length 1 (ints (natsI dd))) (hd : Rk (costN us) us.length us.length dd) (hn : RowAt w nv need.length 1 (ints need)) (hs : RowAt w sv need.length 1 (ints spare)) (ho : SignsAt w ov on) (hsl : spare.length = need.length) (hol : on.length = need.length) (hrl : ∀ r ∈ on, r.length = us.length) (h4 : us.length ≤ 4) (h8 : need.length ≤ 8) (hm : MayUs us) (hrn : InR need) (hrs : InR spare) :
    Calls Try.prog 35 #[.agg #[lv, rv, nv, sv], ov] w (ValO us need spare on w) := by
  have HG := hide' hx
  have HR := hide' hr
  have HD := hide' hd
  have HN := hide' hn
  have HS := hide' hs
  have HO := hide' ho
  have HSL := hide' hsl
  have HON := hide' hol
  have HRL := hide' hrl
  have HM := hide' hm
  have HRN := hide' hrn
  have HRS := hide' hrs
  obtain ⟨ag, cg, rfl⟩ := rowAt_slice hx
  obtain ⟨ar, cr, rfl⟩ := rowAt_slice hr
  obtain ⟨an, cn, rfl⟩ := rowAt_slice hn
  obtain ⟨as', cs, rfl⟩ := rowAt_slice hs
  obtain ⟨ao, co, rfl⟩ := ho.slice
  have hol8 : on.length ≤ 8 := by omega
  clear hx hr hd hn hs ho hsl hol hrl hm hrn hrs
  have HA : Hid (∀ o, Below w.heap.size w (w.alloc o)) := fun o => (Below.refl _ w).alloc (Nat.le_refl _) o
  obtain ⟨a, b, c, d, he⟩ := list4I (stand_len (t := staysL us) (by rw [staysL, List.length_map]; exact h4))
  have HE := hide' he
  have HBF : Hid (∀ o, Calls Try.prog 50 #[.agg #[.slice ag us.length cg, .slice ar us.length cr]] (w.alloc o) fun e w' => e = .returned (.agg #[.int .i64 a, .int .i64 b, .int .i64 c, .int .i64 d]) ∧ Below (w.alloc o).heap.size (w.alloc o) w') := fun o => by
    have := before_any us (.slice ag us.length cg) (.slice ar us.length cr) (w.alloc o) (HG.out.below (HA.out o) (Nat.le_refl _)) ⟨_, _, _, rfl⟩ h4
    rw [he] at this
    exact this
  have hbx := alloc_new w (.cells #[.slice ag us.length cg, .slice ar us.length cr, .slice an need.length cn, .slice as' need.length cs] 64)
  clear he
  go_enter Try.func35, Try.ntmps35
  go_wp2_with fail
  refine (HBF.out _).mono ?_
  rintro e w1 ⟨rfl, hb1⟩
  have HB1 := hide' ((HA.out _).trans (hb1.mono (HA.out _).size))
  have HQ := hide' ((hb1.block w.heap.size (by simp)).trans hbx)
  clear hb1 hbx HBF
  go_wp2_with fail
  have HV0 : Hid (VSt w (w1.alloc (.cells #[.int .i64 a, .int .i64 b, .int .i64 c, .int .i64 d] 86)) w.heap.size w1.heap.size #[.slice ag us.length cg, .slice ar us.length cr, .slice an need.length cn, .slice as' need.length cs] (staysL us)) :=
    ⟨(alloc_old _ _ (Array.getElem?_eq_some_iff.1 HQ.out).1).trans HQ.out, by rw [HE.out]; exact alloc_new _ _, by have := (Array.getElem?_eq_some_iff.1 HQ.out).1; omega, Nat.le_refl _, HB1.out.size, HB1.out.alloc HB1.out.size _⟩
  obtain ⟨P, hP⟩ : ∃ P, P = w.heap.size := ⟨_, rfl⟩
  obtain ⟨S, hS⟩ : ∃ S, S = w1.heap.size := ⟨_, rfl⟩
  have HV1 : Hid (VSt w (w1.alloc (.cells #[.int .i64 a, .int .i64 b, .int .i64 c, .int .i64 d] 86)) P S #[.slice ag us.length cg, .slice ar us.length cr, .slice an need.length cn, .slice as' need.length cs] (staysL us)) := by rw [hP, hS]; exact HV0
  rw [← hP, ← hS]
  clear HV0 hP hS HQ HB1 HE
  go_loopw [7, 19] (fun s i wr => ∃ (k : Nat) (t : List Int) (x : Int), i = .int .i64 k ∧ k ≤ on.length ∧ s = .int .i64 x ∧ Hid (valK us need spare on k = .ok (t, x)) ∧ Hid (VSt w wr P S #[.slice ag us.length cg, .slice ar us.length cr, .slice an need.length cn, .slice as' need.length cs] t)) (fun _ i _ => on.length - (intOf i).toNat)
  case atStart => exact ⟨0, staysL us, 0, rfl, Nat.zero_le _, rfl, rfl, HV1⟩
  case round =>
    clear HV1
    obtain ⟨k, t, x, rfl, hk, rfl, HV, HST⟩ := hrel
    have hvs := valK_spec HM.out h4 k t x HV.out
    have hx0 := hvs.2.2
    by_cases hlt : k < on.length
    · obtain ⟨bo, oo, co', a', c', exo, hcell, hrow⟩ := HO.out.cell k hlt
      cases exo
      obtain ⟨r, hr⟩ : ∃ r, r = on[k] := ⟨_, rfl⟩
      rw [← hr] at hcell hrow
      have HK : Hid (on[k]? = some r) := by show _ = _; rw [hr]; exact List.getElem?_eq_getElem hlt
      have hrl : r.length = us.length := HRL.out r (by rw [hr]; exact List.getElem_mem hlt)
      rw [hrl] at hcell hrow
      have HROW := hide' hrow
      have HRLL := hide' hrl
      obtain ⟨bn, on', cn', exn, hcn⟩ := ints_cell2 HN.out k (by rw [← HON.out]; exact hlt)
      cases exn
      obtain ⟨bs, os', cs', exs, hcs⟩ := ints_cell2 HS.out k (by rw [HSL.out, ← HON.out]; exact hlt)
      cases exs
      have hnk := HRN.out k (by rw [← HON.out]; exact hlt)
      have hsk := HRS.out k (by rw [HSL.out, ← HON.out]; exact hlt)
      have HVK : Hid (valK us need spare on (k + 1) = stepV us (need.getD k 0) (spare.getD k 0) t x r) := by show _ = _; rw [valK, HV.out]; simp only [List.getD_eq_getElem?_getD (l := on), HK.out, Option.getD_some]
      obtain ⟨nk, hnk'⟩ : ∃ x, x = need.getD k 0 := ⟨_, rfl⟩
      obtain ⟨sk, hsk'⟩ : ∃ x, x = spare.getD k 0 := ⟨_, rfl⟩
      rw [← hnk'] at hcn hnk HVK
      rw [← hsk'] at hcs hsk HVK
      have HCN := hide' hcn
      have HCS := hide' hcs
      have d0 := up_cell HST.out.bel hcell
      obtain ⟨a, b, c, d, he⟩ := list4I (stand_len (t := t) (by rw [hvs.1]; exact h4))
      have HE := hide' he
      have HTN : Hid (Calls Try.prog 51 #[.agg #[.slice ag us.length cg, .slice ar us.length cr], .agg #[.int .i64 a, .int .i64 b, .int .i64 c, .int .i64 d], .slice a' us.length c'] wr (TurnO us t r wr)) := by
        have := turn_any us r t (.slice ag us.length cg) (.slice ar us.length cr) (.slice a' us.length c') wr (HG.out.below HST.out.bel (Nat.le_refl _)) ⟨_, _, _, rfl⟩ (HROW.out.below HST.out.bel (Nat.le_refl _)) HRLL.out h4 HM.out hvs.1 (valK_ok HM.out h4 k t x HV.out)
        rw [he] at this
        exact this
      have hSh := HST.out.hS
      rw [he] at hSh
      have s0 := (intsCell hSh (j := 0) (by simp)).1
      have s1 := (intsCell hSh (j := 1) (by simp)).1
      have s2 := (intsCell hSh (j := 2) (by simp)).1
      have s3 := (intsCell hSh (j := 3) (by simp)).1
      simp only [List.getD_cons_zero, List.getD_cons_succ] at s0 s1 s2 s3
      have p0 : wr.cell? ⟨P, 0, none⟩ = some (.slice ag us.length cg) := by simp [World.cell?, HST.out.hP]
      have p1 : wr.cell? ⟨P, 1, none⟩ = some (.slice ar us.length cr) := by simp [World.cell?, HST.out.hP]
      have HTE := hide' hvs.1
      have HTB := hide' (valK_ok HM.out h4 k t x HV.out)
      clear hcell hrow hr hcn hcs hnk' hsk' he hSh hvs hrl HV
      go_wp2_with fail
      refine HTN.out.mono ?_
      rintro e w3 ⟨⟨hnl, rfl⟩ | ⟨l, s, hnl, rfl⟩, hb3⟩
      · have HER : Hid (valK us need spare on on.length = .error 15) := valK_error (by rw [HVK.out, stepV, hnl]) on.length (by omega)
        have HB3 := hide' ((HST.out.more hb3).bel)
        have HAL : Hid (∀ o, Below w.heap.size w (w3.alloc o)) := fun o => HB3.out.alloc HB3.out.size o
        clear hnl hb3 HTN d0 HVK
        rw [show (ints [0, 0, 0, 0]).toArray = #[.int .i64 0, .int .i64 0, .int .i64 0, .int .i64 0] from rfl]
        go_wp2
        refine bodyPost_ret (results_tmp2 rfl _ _ _) rfl ?_
        exact ⟨.inl ⟨15, HER.out, rfl⟩, HAL.out _⟩
      · have HNL := hide' hnl
        have hns := nextK_spec HM.out us.length (Nat.le_refl _) l s hnl
        have HLL := hide' hns.1
        have hs0 := hns.2.2.1
        have hs1 : s ≤ 4000000 := by have := hns.2.2.2; omega
        have HST3 := hide' (HST.out.more hb3)
        obtain ⟨a2, b2, c2, d2, he2⟩ := list4I (stand_len (t := l) (by rw [hns.1]; exact h4))
        have HE2 := hide' he2
        rw [he2, show (ints [a2, b2, c2, d2]).toArray = #[.int .i64 a2, .int .i64 b2, .int .i64 c2, .int .i64 d2] from rfl]
        clear hnl hns hb3 HTN d0 he2 HST s0 s1 s2 s3 p0 p1
        go_wp2_with fail
        have HST4 : Hid (VSt w (w3.alloc (.cells #[.int .i64 a2, .int .i64 b2, .int .i64 c2, .int .i64 d2] 86)) P S #[.slice ag us.length cg, .slice ar us.length cr, .slice (some ⟨bn, on', none⟩) need.length cn, .slice (some ⟨bs, os', none⟩) need.length cs] t) := HST3.out.more ((Below.refl _ _).alloc (Nat.le_refl _) _)
        have HX := hide' (alloc_new w3 (.cells #[.int .i64 a2, .int .i64 b2, .int .i64 c2, .int .i64 d2] 86))
        obtain ⟨X, hX⟩ : ∃ X, X = w3.heap.size := ⟨_, rfl⟩
        obtain ⟨W3, hW3⟩ : ∃ W, W = w3.alloc (.cells #[.int .i64 a2, .int .i64 b2, .int .i64 c2, .int .i64 d2] 86) := ⟨_, rfl⟩
        rw [← hW3, ← hX] at HX
        rw [← hW3] at HST4
        rw [← hW3, ← hX]
        clear hX hW3 HST3
        have d1 : W3.cell? ⟨P, 0, none⟩ = some (.slice ag us.length cg) := by simp [World.cell?, HST4.out.hP]
        have d2 : W3.cell? ⟨P, 1, none⟩ = some (.slice ar us.length cr) := by simp [World.cell?, HST4.out.hP]
        have d3 : W3.cell? ⟨P, 2, none⟩ = some (.slice (some ⟨bn, on', none⟩) need.length cn) := by simp [World.cell?, HST4.out.hP]
        have d4 : W3.cell? ⟨P, 3, none⟩ = some (.slice (some ⟨bs, os', none⟩) need.length cs) := by simp [World.cell?, HST4.out.hP]
        have d5 := up_cell HST4.out.bel HCN.out
        have d6 := up_cell HST4.out.bel HCS.out
        have hnn : k < need.length := by rw [← HON.out]; exact hlt
        refine wp_region_tail (fun W => W.cell? ⟨P, 0, none⟩ = some (.slice ag us.length cg) ∧ W.cell? ⟨P, 1, none⟩ = some (.slice ar us.length cr) ∧ W.cell? ⟨P, 2, none⟩ = some (.slice (some ⟨bn, on', none⟩) need.length cn) ∧ W.cell? ⟨P, 3, none⟩ = some (.slice (some ⟨bs, os', none⟩) need.length cs) ∧ W.cell? ⟨bn, on' + k, none⟩ = some (.int .i64 nk) ∧ W.cell? ⟨bs, os' + k, none⟩ = some (.int .i64 sk)) 18 (by kernel_rfl) ?_
        refine wpAnyD_takeAt 0 (some 37) (v := ?_) rfl (by kernel_rfl) (by kernel_rfl) (by kernel_rfl) (by kernel_rfl) (by kernel_rfl) (fun _ _ _ h => h) (by exact ⟨d1, d2, d3, d4, d5, d6⟩) (fun o hop => ?_) ?_
        rotate_left
        · injection hop with hop
          subst hop
          refine ⟨rfl, fun W hW => ?_⟩
          obtain ⟨s0, s1, s2, s3, s4, s5⟩ := hW
          go_simp
          first
          | rfl
          | rw [if_neg (by omega)]
        try simp only [Act.put, List.setIfInBounds_toArray, List.set_cons_zero, List.set_cons_succ]
        refine wpAnyD_takeAt 1 (some 38) (v := ?_) rfl (by kernel_rfl) (by kernel_rfl) (by kernel_rfl) (by kernel_rfl) (by kernel_rfl) (fun _ _ _ h => h) (by exact ⟨d1, d2, d3, d4, d5, d6⟩) (fun o hop => ?_) ?_
        rotate_left
        · injection hop with hop
          subst hop
          refine ⟨rfl, fun W hW => ?_⟩
          obtain ⟨s0, s1, s2, s3, s4, s5⟩ := hW
          go_simp
          first
          | rfl
          | rw [if_neg (by omega)]
        try simp only [Act.put, List.setIfInBounds_toArray, List.set_cons_zero, List.set_cons_succ]
        refine wpAnyD_takeAt 2 (some 39) (v := ?_) rfl (by kernel_rfl) (by kernel_rfl) (by kernel_rfl) (by kernel_rfl) (by kernel_rfl) (fun _ _ _ h => h) (by exact ⟨d1, d2, d3, d4, d5, d6⟩) (fun o hop => ?_) ?_
        rotate_left
        · injection hop with hop
          subst hop
          refine ⟨rfl, fun W hW => ?_⟩
          obtain ⟨s0, s1, s2, s3, s4, s5⟩ := hW
          go_simp
          first
          | rfl
          | rw [if_neg (by omega)]
        try simp only [Act.put, List.setIfInBounds_toArray, List.set_cons_zero, List.set_cons_succ]
        refine wpAnyD_takeAt 3 (some 40) (v := ?_) rfl (by kernel_rfl) (by kernel_rfl) (by kernel_rfl) (by kernel_rfl) (by kernel_rfl) (fun _ _ _ h => h) (by exact ⟨d1, d2, d3, d4, d5, d6⟩) (fun o hop => ?_) ?_
        rotate_left
        · injection hop with hop
          subst hop
          refine ⟨rfl, fun W hW => ?_⟩
          obtain ⟨s0, s1, s2, s3, s4, s5⟩ := hW
          go_simp
          first
          | rfl
          | rw [if_neg (by omega)]
        try simp only [Act.put, List.setIfInBounds_toArray, List.set_cons_zero, List.set_cons_succ]
        refine wpAnyD_takeAt 4 (some 41) (v := ?_) rfl (by kernel_rfl) (by kernel_rfl) (by kernel_rfl) (by kernel_rfl) (by kernel_rfl) (fun _ _ _ h => h) (by exact ⟨d1, d2, d3, d4, d5, d6⟩) (fun o hop => ?_) ?_
        rotate_left
        · injection hop with hop
          subst hop
          refine ⟨rfl, fun W hW => ?_⟩
          obtain ⟨s0, s1, s2, s3, s4, s5⟩ := hW
          go_simp
          first
          | rfl
          | rw [if_neg (by omega)]
        try simp only [Act.put, List.setIfInBounds_toArray, List.set_cons_zero, List.set_cons_succ]
        refine wpAnyD_takeAt 5 (some 42) (v := ?_) rfl (by kernel_rfl) (by kernel_rfl) (by kernel_rfl) (by kernel_rfl) (by kernel_rfl) (fun _ _ _ h => h) (by exact ⟨d1, d2, d3, d4, d5, d6⟩) (fun o hop => ?_) ?_
        rotate_left
        · injection hop with hop
          subst hop
          refine ⟨rfl, fun W hW => ?_⟩
          obtain ⟨s0, s1, s2, s3, s4, s5⟩ := hW
          go_simp
          first
          | rfl
          | rw [if_neg (by omega)]
        try simp only [Act.put, List.setIfInBounds_toArray, List.set_cons_zero, List.set_cons_succ]
        refine wpAnyD_takeAt 6 (some 43) (v := ?_) rfl (by kernel_rfl) (by kernel_rfl) (by kernel_rfl) (by kernel_rfl) (by kernel_rfl) (fun _ _ _ h => h) (by exact ⟨d1, d2, d3, d4, d5, d6⟩) (fun o hop => ?_) ?_
        rotate_left
        · injection hop with hop
          subst hop
          refine ⟨rfl, fun W hW => ?_⟩
          obtain ⟨s0, s1, s2, s3, s4, s5⟩ := hW
          go_simp
          first
          | rfl
          | rw [if_neg (by omega)]
        try simp only [Act.put, List.setIfInBounds_toArray, List.set_cons_zero, List.set_cons_succ]
        refine wpAnyD_takeAt 7 (some 44) (v := ?_) rfl (by kernel_rfl) (by kernel_rfl) (by kernel_rfl) (by kernel_rfl) (by kernel_rfl) (fun _ _ _ h => h) (by exact ⟨d1, d2, d3, d4, d5, d6⟩) (fun o hop => ?_) ?_
        rotate_left
        · injection hop with hop
          subst hop
          refine ⟨rfl, fun W hW => ?_⟩
          obtain ⟨s0, s1, s2, s3, s4, s5⟩ := hW
          go_simp
          first
          | rfl
          | rw [if_neg (by omega)]
        try simp only [Act.put, List.setIfInBounds_toArray, List.set_cons_zero, List.set_cons_succ]
        refine wpAnyD_takeAt 8 (some 45) (v := ?_) rfl (by kernel_rfl) (by kernel_rfl) (by kernel_rfl) (by kernel_rfl) (by kernel_rfl) (fun _ _ _ h => h) (by exact ⟨d1, d2, d3, d4, d5, d6⟩) (fun o hop => ?_) ?_
        rotate_left
        · injection hop with hop
          subst hop
          refine ⟨rfl, fun W hW => ?_⟩
          obtain ⟨s0, s1, s2, s3, s4, s5⟩ := hW
          go_simp
          first
          | rfl
          | rw [if_neg (by omega)]
        try simp only [Act.put, List.setIfInBounds_toArray, List.set_cons_zero, List.set_cons_succ]
        refine wpAnyD_takeAt 9 (some 46) (v := ?_) rfl (by kernel_rfl) (by kernel_rfl) (by kernel_rfl) (by kernel_rfl) (by kernel_rfl) (fun _ _ _ h => h) (by exact ⟨d1, d2, d3, d4, d5, d6⟩) (fun o hop => ?_) ?_
        rotate_left
        · injection hop with hop
          subst hop
          refine ⟨rfl, fun W hW => ?_⟩
          obtain ⟨s0, s1, s2, s3, s4, s5⟩ := hW
          go_simp
          first
          | rfl
          | rw [if_neg (by omega)]
        try simp only [Act.put, List.setIfInBounds_toArray, List.set_cons_zero, List.set_cons_succ]
        refine wpAnyD_takeAt 10 (some 47) (v := ?_) rfl (by kernel_rfl) (by kernel_rfl) (by kernel_rfl) (by kernel_rfl) (by kernel_rfl) (fun _ _ _ h => h) (by exact ⟨d1, d2, d3, d4, d5, d6⟩) (fun o hop => ?_) ?_
        rotate_left
        · injection hop with hop
          subst hop
          refine ⟨rfl, fun W hW => ?_⟩
          obtain ⟨s0, s1, s2, s3, s4, s5⟩ := hW
          go_simp
          first
          | rfl
          | rw [if_neg (by omega)]
        try simp only [Act.put, List.setIfInBounds_toArray, List.set_cons_zero, List.set_cons_succ]
        refine wpAnyD_takeAt 11 (some 48) (v := ?_) rfl (by kernel_rfl) (by kernel_rfl) (by kernel_rfl) (by kernel_rfl) (by kernel_rfl) (fun _ _ _ h => h) (by exact ⟨d1, d2, d3, d4, d5, d6⟩) (fun o hop => ?_) ?_
        rotate_left
        · injection hop with hop
          subst hop
          refine ⟨rfl, fun W hW => ?_⟩
          obtain ⟨s0, s1, s2, s3, s4, s5⟩ := hW
          go_simp
          first
          | rfl
          | rw [if_neg (by omega)]
        try simp only [Act.put, List.setIfInBounds_toArray, List.set_cons_zero, List.set_cons_succ]
        refine wpAnyD_takeAt 12 (some 49) (v := ?_) rfl (by kernel_rfl) (by kernel_rfl) (by kernel_rfl) (by kernel_rfl) (by kernel_rfl) (fun _ _ _ h => h) (by exact ⟨d1, d2, d3, d4, d5, d6⟩) (fun o hop => ?_) ?_
        rotate_left
        · injection hop with hop
          subst hop
          refine ⟨rfl, fun W hW => ?_⟩
          obtain ⟨s0, s1, s2, s3, s4, s5⟩ := hW
          go_simp
          first
          | rfl
          | rw [if_neg (by omega)]
        try simp only [Act.put, List.setIfInBounds_toArray, List.set_cons_zero, List.set_cons_succ]
        refine wpAnyT_one (i := 13) (by kernel_rfl) rfl rfl (fun K' hK => ?_)
        go_simp
        go_at_call 52
        refine (run_any us r nk sk dd (.slice ag us.length cg) (.slice ar us.length cr) (.slice a' us.length c') W3.drew (HG.out.below HST4.out.bel.drew (Nat.le_refl _)) (HR.out.below HST4.out.bel.drew (Nat.le_refl _)) HD.out (HROW.out.below HST4.out.bel.drew (Nat.le_refl _)) HRLL.out h4 HM.out hnk.1 hnk.2 hsk.1 hsk.2).mono ?_
        rintro e w4 ⟨hres, hb4⟩
        have HBB : Hid (Below W3.heap.size W3 w4) := (Below.refl _ W3).drew.trans hb4
        have HST5 := hide' (HST4.out.more HBB.out)
        have HX5 := hide' ((HBB.out.block X (Array.getElem?_eq_some_iff.1 HX.out).1).trans HX.out)
        have f1 : w4.cell? ⟨P, 0, none⟩ = some (.slice ag us.length cg) := by simp [World.cell?, HST5.out.hP]
        have f2 : w4.cell? ⟨P, 1, none⟩ = some (.slice ar us.length cr) := by simp [World.cell?, HST5.out.hP]
        have f3 : w4.cell? ⟨P, 2, none⟩ = some (.slice (some ⟨bn, on', none⟩) need.length cn) := by simp [World.cell?, HST5.out.hP]
        have f4 : w4.cell? ⟨P, 3, none⟩ = some (.slice (some ⟨bs, os', none⟩) need.length cs) := by simp [World.cell?, HST5.out.hP]
        have f5 := up_cell HST5.out.bel HCN.out
        have f6 := up_cell HST5.out.bel HCS.out
        clear hb4 d1 d2 d3 d4 d5 d6 HST4 HX HBB
        obtain ⟨y, z, rfl, hyz⟩ : ∃ (y z : Int), e = .returned (.tuple #[.int .i64 y, .int .i64 z]) ∧ ((z = 0 ∧ hourC us r nk sk = some y) ∨ (z = 8 ∧ hourC us r nk sk = none)) := by
          cases hh : hourC us r nk sk with
          | none => exact ⟨0, 8, by rw [hres, hh]; rfl, .inr ⟨rfl, rfl⟩⟩
          | some y => exact ⟨y, 0, by rw [hres, hh]; rfl, .inl ⟨rfl, rfl⟩⟩
        have HYZ := hide' hyz
        clear hres hyz
        refine hK.out _ _ (fun _ => by exact ⟨f1, f2, f3, f4, f5, f6⟩) ?_
        clear hK K'
        refine wpAnyT_one (i := 14) (by kernel_rfl) rfl rfl (fun K' hK => ?_)
        go_simp
        refine hK.out _ _ (fun _ => by exact ⟨f1, f2, f3, f4, f5, f6⟩) ?_
        clear hK K'
        refine wpAnyD_takeAt 15 (some 51) (v := ?_) rfl (by kernel_rfl) (by kernel_rfl) (by kernel_rfl) (by kernel_rfl) (by kernel_rfl) (fun _ _ _ h => h) (by exact ⟨f1, f2, f3, f4, f5, f6⟩) (fun o hop => ?_) ?_
        rotate_left
        · injection hop with hop
          subst hop
          refine ⟨rfl, fun W hW => ?_⟩
          obtain ⟨s0, s1, s2, s3, s4, s5⟩ := hW
          go_simp
          first
          | rfl
          | rw [if_neg (by omega)]
        try simp only [Act.put, List.setIfInBounds_toArray, List.set_cons_zero, List.set_cons_succ]
        refine wpAnyD_takeAt 16 (some 52) (v := ?_) rfl (by kernel_rfl) (by kernel_rfl) (by kernel_rfl) (by kernel_rfl) (by kernel_rfl) (fun _ _ _ h => h) (by exact ⟨f1, f2, f3, f4, f5, f6⟩) (fun o hop => ?_) ?_
        rotate_left
        · injection hop with hop
          subst hop
          refine ⟨rfl, fun W hW => ?_⟩
          obtain ⟨s0, s1, s2, s3, s4, s5⟩ := hW
          go_simp
          first
          | rfl
          | rw [if_neg (by omega)]
        try simp only [Act.put, List.setIfInBounds_toArray, List.set_cons_zero, List.set_cons_succ]
        refine wpAnyT_one (i := 17) (by kernel_rfl) rfl rfl (fun K' hK => ?_)
        go_simp
        refine hK.out _ _ (fun _ => by exact ⟨f1, f2, f3, f4, f5, f6⟩) ?_
        clear hK K'
        refine wpAnyT_one (i := 18) (by kernel_rfl) rfl rfl (fun K' hK => ?_)
        go_simp
        refine hK.out _ _ (fun h => absurd rfl h) ?_
        clear hK K' f1 f2 f3 f4 f5 f6
        refine wpAnyT_done (by kernel_rfl) ?_ _
        rcases HYZ.out with ⟨hz, hy⟩ | ⟨hz, hy⟩
        · subst hz
          have hxx := hour_bound HM.out h4 hy
          have HNX : Hid (valK us need spare on (k + 1) = .ok (l, x + (s + y))) := by
            show _ = _
            rw [HVK.out, stepV, HNL.out]
            simp only [hy]
          have hSh := HST5.out.hS
          have HE1 := hide' HE.out
          rw [HE.out] at hSh
          obtain ⟨s0, g0⟩ := intsCell hSh (j := 0) (by simp)
          obtain ⟨s1, g1⟩ := intsCell hSh (j := 1) (by simp)
          obtain ⟨s2, g2⟩ := intsCell hSh (j := 2) (by simp)
          obtain ⟨s3, g3⟩ := intsCell hSh (j := 3) (by simp)
          simp only [List.getD_cons_zero, List.getD_cons_succ] at s0 s1 s2 s3
          have q0 : w4.cell? ⟨X, 0, none⟩ = some (.int .i64 a2) := by simp [World.cell?, HX5.out]
          have q1 : w4.cell? ⟨X, 1, none⟩ = some (.int .i64 b2) := by simp [World.cell?, HX5.out]
          have q2 : w4.cell? ⟨X, 2, none⟩ = some (.int .i64 c2) := by simp [World.cell?, HX5.out]
          have q3 : w4.cell? ⟨X, 3, none⟩ = some (.int .i64 d2) := by simp [World.cell?, HX5.out]
          have HFIN := hide' (HST5.out.set4 HE.out HE2.out)
          have hk8 : on.length ≤ 8 := hol8
          clear hSh hy HYZ HVK HNL HST5 HX5 HE HE1
          go_wp2
          go_roundw
          case rel => exact ⟨k + 1, l, _, by go_num, by omega, rfl, by rw [Int.add_assoc]; exact HNX, HFIN⟩
          case measure => simp [intOf]; omega
        · subst hz
          have HER : Hid (valK us need spare on on.length = .error 8) := valK_error (by
            rw [HVK.out, stepV, HNL.out]
            simp only [hy]) on.length (by omega)
          clear hy HYZ HVK HNL
          go_wp2
          refine bodyPost_ret (results_tmp2 rfl _ _ _) rfl ?_
          exact ⟨.inl ⟨8, HER.out, rfl⟩, HST5.out.bel⟩
    · have hke : k = on.length := by omega
      subst hke
      clear hvs
      go_wp2
      refine bodyPost_ret (results_tmp2 rfl _ _ _) rfl ?_
      exact ⟨.inr ⟨t, x, HV.out, rfl⟩, HST.out.bel⟩
end Go.Proofs.Ytlbeecjkfakkpag
