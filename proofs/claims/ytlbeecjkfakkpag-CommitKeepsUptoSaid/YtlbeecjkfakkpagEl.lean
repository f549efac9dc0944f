/- What is ahead of a moment, in the program. -/
import Derived.Test.YtlbeecjkfakkpagEk
namespace Go.Proofs.Ytlbeecjkfakkpag
open Go.RowKit Go.Shelf Go.ChangeMaps

theorem But.alloc {M : Nat} {W wr : World} (h : But M W wr) (o : Obj) : But M W (wr.alloc o) :=
  ⟨h.os, h.tape, h.output, by have := h.size; simp; omega, fun k hk hm => (alloc_old wr o (Nat.lt_of_lt_of_le hk h.size)).trans (h.block k hk hm)⟩
theorem But.set {M E j : Nat} {W wr : World} (h : But M W wr) (he : W.heap.size ≤ E) (v : Value) : But M W (wr.setCell ⟨E, j, none⟩ v) :=
  ⟨h.os, h.tape, h.output, by have := h.size; simp; exact this, fun k hk hm => (Below.heap_setCell wr ⟨E, j, none⟩ v k (by show k ≠ E; omega)).trans (h.block k hk hm)⟩
/-- An outlook's cells. -/
def outC (o : Option (Int × Nat)) : Array Value := match o with
  | none => #[.int .i64 never, .int .i64 0]
  | some p => #[.int .i64 p.1, .int .i64 p.2]
theorem outV_is (o : Option (Int × Nat)) : outV o = .agg (outC o) := by cases o <;> rfl
def outX (o : Option (Int × Nat)) : Int := match o with
  | none => never
  | some p => p.1
def outY (o : Option (Int × Nat)) : Int := match o with
  | none => 0
  | some p => p.2
theorem outC_is (o : Option (Int × Nat)) : outC o = #[.int .i64 (outX o), .int .i64 (outY o)] := by cases o <;> rfl
/-- Ahead's own blocks: the search, the moment, what is answered, the best so far. -/
structure ASt (W wr : World) (us : List UnitM) (need spare : List Int) (M A B C : Nat) (av bv cz : Array Value) : Prop where
  tb : TBox wr A B av bv
  hC : wr.heap[C]? = some (.cells cz 99 (0, 0))
  sC : W.heap.size ≤ C
  but : But M W wr
  known : ∃ es clock, wr.heap[M]? = some (.map es clock) ∧ Known us need spare es.toList
  nA : A ≠ M
  nB : B ≠ M
  nC : C ≠ M
theorem ASt.more {W wr wr' : World} {us : List UnitM} {need spare : List Int} {M A B C : Nat} {av bv cz : Array Value} (h : ASt W wr us need spare M A B C av bv cz) (hb : But M wr wr') (hk : ∃ es clock, wr'.heap[M]? = some (.map es clock) ∧ Known us need spare es.toList) : ASt W wr' us need spare M A B C av bv cz :=
  ⟨⟨(hb.block A (Array.getElem?_eq_some_iff.1 h.tb.a).1 h.nA).trans h.tb.a, (hb.block B (Array.getElem?_eq_some_iff.1 h.tb.b).1 h.nB).trans h.tb.b⟩, (hb.block C (Array.getElem?_eq_some_iff.1 h.hC).1 h.nC).trans h.hC, h.sC, h.but.trans hb, hk, h.nA, h.nB, h.nC⟩
theorem ASt.below {W wr wr' : World} {us : List UnitM} {need spare : List Int} {M A B C : Nat} {av bv cz : Array Value} (h : ASt W wr us need spare M A B C av bv cz) (hb : Below wr.heap.size wr wr') : ASt W wr' us need spare M A B C av bv cz := by
  obtain ⟨es, clock, hm, hk⟩ := h.known
  exact h.more (But.of hb) ⟨es, clock, (hb.block M (Array.getElem?_eq_some_iff.1 hm).1).trans hm, hk⟩
theorem ASt.start {W : World} {us : List UnitM} {need spare : List Int} {M : Nat} {av bv cz : Array Value} (hk : ∃ es clock, W.heap[M]? = some (.map es clock) ∧ Known us need spare es.toList) : ASt W (((W.alloc (.cells av 94)).alloc (.cells bv 97)).alloc (.cells cz 99)) us need spare M W.heap.size (W.heap.size + 1) (W.heap.size + 1 + 1) av bv cz := by
  obtain ⟨es, clock, hm, hk⟩ := hk
  have hlt : M < W.heap.size := (Array.getElem?_eq_some_iff.1 hm).1
  have h2 := alloc_new (W.alloc (.cells av 94)) (.cells bv 97)
  have h3 := alloc_new ((W.alloc (.cells av 94)).alloc (.cells bv 97)) (.cells cz 99)
  rw [World.size_alloc] at h2
  rw [World.size_alloc, World.size_alloc] at h3
  refine ⟨⟨(alloc_old _ _ (by simp; omega)).trans ((alloc_old _ _ (by simp)).trans (alloc_new _ _)), (alloc_old _ _ (by simp)).trans h2⟩, h3, by omega, (((But.refl M W).alloc _).alloc _).alloc _, ⟨es, clock, ?_, hk⟩, by omega, by omega, by omega⟩
  exact (alloc_old _ _ (by simp; omega)).trans ((alloc_old _ _ (by simp; omega)).trans ((alloc_old _ _ hlt).trans hm))
theorem ASt.srch {W wr : World} {us : List UnitM} {need spare : List Int} {lv cv uv : Value} {M A B C : Nat} {av bv cz : Array Value} (h : ASt W wr us need spare M A B C av bv cz) (hs : Srch W us need spare lv cv uv M) : Srch wr us need spare lv cv uv M := hs.but h.but h.known
theorem ASt.end {W wr : World} {us : List UnitM} {need spare : List Int} {M A B C : Nat} {av bv : Array Value} {z0 z1 : Value} (h : ASt W wr us need spare M A B C av bv #[z0, z1]) (x y : Int) : ((wr.setCell ⟨C, 0, none⟩ (.int .i64 x)).setCell ⟨C, 1, none⟩ (.int .i64 y)).heap[C]? = some (.cells #[.int .i64 x, .int .i64 y] 99 (0, 0)) ∧ But M W ((wr.setCell ⟨C, 0, none⟩ (.int .i64 x)).setCell ⟨C, 1, none⟩ (.int .i64 y)) ∧ ∃ es clock, ((wr.setCell ⟨C, 0, none⟩ (.int .i64 x)).setCell ⟨C, 1, none⟩ (.int .i64 y)).heap[M]? = some (.map es clock) ∧ Known us need spare es.toList := by
  obtain ⟨es, clock, hm, hk⟩ := h.known
  refine ⟨(set_any (set_any h.hC 0 _) 1 _).trans rfl, (h.but.set h.sC _).set h.sC _, es, clock, ?_, hk⟩
  rw [Below.heap_setCell _ _ _ M (by show M ≠ C; exact h.nC.symm), Below.heap_setCell _ _ _ M (by show M ≠ C; exact h.nC.symm)]
  exact hm
theorem ASt.setE {W wr : World} {us : List UnitM} {need spare : List Int} {M A B C E : Nat} {av bv cz : Array Value} {x y : Int} (h : ASt W wr us need spare M A B C av bv cz) (he : W.heap.size ≤ E ∧ E ≠ M ∧ E ≠ A ∧ E ≠ B ∧ E ≠ C) : ASt W ((wr.setCell ⟨E, 0, none⟩ (.int .i64 x)).setCell ⟨E, 1, none⟩ (.int .i64 y)) us need spare M A B C av bv cz := by
  obtain ⟨es, clock, hm, hk⟩ := h.known
  have hs : ∀ j, E ≠ j → ((wr.setCell ⟨E, 0, none⟩ (.int .i64 x)).setCell ⟨E, 1, none⟩ (.int .i64 y)).heap[j]? = wr.heap[j]? := fun j hj => by
    rw [Below.heap_setCell _ _ _ j (by show j ≠ E; omega), Below.heap_setCell _ _ _ j (by show j ≠ E; omega)]
  exact ⟨⟨(hs A he.2.2.1).trans h.tb.a, (hs B he.2.2.2.1).trans h.tb.b⟩, (hs C he.2.2.2.2).trans h.hC, h.sC, (h.but.set he.1 _).set he.1 _, ⟨es, clock, (hs M he.2.1).trans hm, hk⟩, h.nA, h.nB, h.nC⟩
theorem thru_bound {us : List UnitM} {need spare : List Int} {d h k : Nat} {t : List Int} {x : Int} (hp : Plan us need spare) (hd : d ≤ 8) (hx : thruL us need spare d h t k = some x) : 0 ≤ x ∧ x ≤ 500000000000 := by
  obtain ⟨c2, t2, s2, ⟨o, k2⟩, e1, e2, e3, e4⟩ := thruL_some hx
  have h1 := look_bound hp d (h + 1) t2 o k2 e3
  have h2 := hour_bound hp.may hp.h4 e1
  have h3 := (nextK_spec hp.may us.length (Nat.le_refl _) t2 s2 e2).2.2
  have := hp.h4
  have e5 : x = c2 + s2 + o := e4
  omega
theorem bestK_yes {thr : Nat → Option Int} {k : Nat} {x : Int} (hx : x = (thr k).getD never) (_hb : ∀ c, thr k = some c → c < 9223372036854775807) (ho : outX (bestK thr k) ≤ 9223372036854775807) (h : x < outX (bestK thr k)) : bestK thr (k + 1) = some (x, k) := by
  rw [bestK]
  cases ht : thr k with
  | none =>
    rw [ht] at hx
    have : x = 9223372036854775807 := hx
    omega
  | some c =>
    rw [ht] at hx
    have : x = c := hx
    subst this
    cases hk : bestK thr k with
    | none => rfl
    | some p =>
      obtain ⟨c', k'⟩ := p
      rw [hk] at h
      have h : x < c' := h
      simp only
      rw [if_pos h]
theorem bestK_stay {thr : Nat → Option Int} {k : Nat} {x : Int} (hx : x = (thr k).getD never) (hb : ∀ c, thr k = some c → c < 9223372036854775807) (h : ¬ x < outX (bestK thr k)) : bestK thr (k + 1) = bestK thr k := by
  rw [bestK]
  cases ht : thr k with
  | none => rfl
  | some c =>
    rw [ht] at hx
    have : x = c := hx
    subst this
    cases hk : bestK thr k with
    | none =>
      rw [hk] at h
      exact absurd (hb x ht) h
    | some p =>
      obtain ⟨c', k'⟩ := p
      rw [hk] at h
      have h : ¬ x < c' := h
      simp only
      rw [if_neg h]
set_option maxRecDepth 100000 in
set_option maxHeartbeats 1000000 in
theorem ahead_zero (us : List UnitM) (need spare : List Int) (hp : Plan us need spare) : AheadGood us need spare 0 := by
  intro h t lv cv uv ar an as' nr cr cn ns cs M W hh htl hok hs
  obtain ⟨ag, cg, rfl⟩ := rowAt_slice hs.units
  obtain ⟨ac, cc, rfl⟩ := hs.cho.slice
  obtain ⟨au, cu, rfl⟩ := hs.runs.slice
  have HSR := hide' hs
  have HPW0 : Hid ((choL us.length).length = 2 ^ us.length) := choL_len _
  have HRL0 : Hid ((runsL us need spare).length = need.length) := runsL_len _ _ _
  rw [HRL0.out] at HSR ⊢
  obtain ⟨pw, hpwe⟩ : ∃ p, p = (choL us.length).length := ⟨_, rfl⟩
  have HPW : Hid (pw = 2 ^ us.length) := hpwe.trans HPW0.out
  rw [← hpwe] at HSR ⊢
  obtain ⟨a, b, c, d', he⟩ := list4I (stand_len (t := t) (by rw [htl]; exact hp.h4))
  have HE := hide' he
  have HTL := hide' htl
  have HOK := hide' hok
  have HP := hide' hp
  have h8 := hp.h8
  have HST0 : Hid (∀ cz, ASt W (((W.alloc (.cells #[.slice ag us.length cg, .slice ar nr cr, .slice an need.length cn, .slice as' ns cs, .slice ac pw cc, .slice au need.length cu, .map (some M)] 94)).alloc (.cells #[.int .i64 h, .int .i64 a, .int .i64 b, .int .i64 c, .int .i64 d'] 97)).alloc (.cells cz 99)) us need spare M W.heap.size (W.heap.size + 1) (W.heap.size + 1 + 1) #[.slice ag us.length cg, .slice ar nr cr, .slice an need.length cn, .slice as' ns cs, .slice ac pw cc, .slice au need.length cu, .map (some M)] #[.int .i64 h, .int .i64 a, .int .i64 b, .int .i64 c, .int .i64 d'] cz) := fun cz => ASt.start HSR.out.known
  rw [momT_is he, show momV h a b c d' = .agg #[.int .i64 h, .int .i64 a, .int .i64 b, .int .i64 c, .int .i64 d'] from rfl]
  have hpw16 : pw ≤ 16 := by rw [HPW.out]; exact pow16' hp.h4
  clear hs he htl hok hp HPW0 HRL0 hpwe
  have hhe : h = need.length := by omega
  subst hhe
  go_enter Try.func54, Try.ntmps54
  go_wp2
  have HF := HST0.out #[.int .i64 0, .int .i64 0]
  refine bodyPost_ret (results_cell_row rfl _ _ (W.heap.size + 1 + 1) 99 _ (0, 0) _ rfl HF.hC Try.underlying99 rfl (by kernel_rfl)) rfl ?_
  exact ⟨rfl, HF.but, HSR.out.but HF.but HF.known⟩
set_option maxRecDepth 100000 in
set_option maxHeartbeats 1000000 in
theorem ahead_succ (us : List UnitM) (need spare : List Int) (d : Nat) (hp : Plan us need spare) (HAG : AheadGood us need spare d) : AheadGood us need spare (d + 1) := by
  intro h t lv cv uv ar an as' nr cr cn ns cs M W hh htl hok hs
  obtain ⟨ag, cg, rfl⟩ := rowAt_slice hs.units
  obtain ⟨ac, cc, rfl⟩ := hs.cho.slice
  obtain ⟨au, cu, rfl⟩ := hs.runs.slice
  have HSR := hide' hs
  have HPW0 : Hid ((choL us.length).length = 2 ^ us.length) := choL_len _
  have HRL0 : Hid ((runsL us need spare).length = need.length) := runsL_len _ _ _
  rw [HRL0.out] at HSR ⊢
  obtain ⟨pw, hpwe⟩ : ∃ p, p = (choL us.length).length := ⟨_, rfl⟩
  have HPW : Hid (pw = 2 ^ us.length) := hpwe.trans HPW0.out
  rw [← hpwe] at HSR ⊢
  obtain ⟨a, b, c, d', he⟩ := list4I (stand_len (t := t) (by rw [htl]; exact hp.h4))
  have HE := hide' he
  have HTL := hide' htl
  have HOK := hide' hok
  have HP := hide' hp
  have h8 := hp.h8
  have HST0 : Hid (∀ cz, ASt W (((W.alloc (.cells #[.slice ag us.length cg, .slice ar nr cr, .slice an need.length cn, .slice as' ns cs, .slice ac pw cc, .slice au need.length cu, .map (some M)] 94)).alloc (.cells #[.int .i64 h, .int .i64 a, .int .i64 b, .int .i64 c, .int .i64 d'] 97)).alloc (.cells cz 99)) us need spare M W.heap.size (W.heap.size + 1) (W.heap.size + 1 + 1) #[.slice ag us.length cg, .slice ar nr cr, .slice an need.length cn, .slice as' ns cs, .slice ac pw cc, .slice au need.length cu, .map (some M)] #[.int .i64 h, .int .i64 a, .int .i64 b, .int .i64 c, .int .i64 d'] cz) := fun cz => ASt.start HSR.out.known
  rw [momT_is he, show momV h a b c d' = .agg #[.int .i64 h, .int .i64 a, .int .i64 b, .int .i64 c, .int .i64 d'] from rfl]
  have hpw16 : pw ≤ 16 := by rw [HPW.out]; exact pow16' hp.h4
  clear hs he htl hok hp HPW0 HRL0 hpwe
  have hhe : h < need.length := by omega
  have hdh : need.length - h = d + 1 := by omega
  obtain ⟨es, clock, hm, hkn⟩ := (HST0.out #[.int .i64 0, .int .i64 0]).known
  have hlk := known_look (h := h) (t := t) HP.out.h4 hm hkn (by omega) HTL.out HOK.out
  rw [hdh, momT_is HE.out, show momV h a b c d' = .agg #[.int .i64 h, .int .i64 a, .int .i64 b, .int .i64 c, .int .i64 d'] from rfl] at hlk
  have hne : ((h : Int) == (need.length : Int)) = false := by simp; omega
  obtain ⟨o, ho⟩ : ∃ o, o = look us need spare (d + 1) h t := ⟨_, rfl⟩
  have HO := hide' ho
  rw [← ho] at hlk ⊢
  clear hm hkn hdh ho
  go_enter Try.func54, Try.ntmps54
  rcases hlk with hlk | hlk
  · rw [outV_is, outC_is] at hlk
    have HSM : Hid (outV o = .agg #[.int .i64 (outX o), .int .i64 (outY o)]) := by rw [outV_is, outC_is]; exact rfl
    generalize outX o = ox at hlk HSM
    generalize outY o = oy at hlk HSM
    go_wp2
    have HF := (HST0.out #[.int .i64 ox, .int .i64 oy]).below ((Below.refl _ _).alloc (Nat.le_refl _) (.cells #[.int .i64 ox, .int .i64 oy] 99))
    refine bodyPost_ret (results_cell_row rfl _ _ (W.heap.size + 1 + 1) 99 _ (0, 0) _ rfl HF.hC Try.underlying99 rfl (by kernel_rfl)) rfl ?_
    exact ⟨by rw [HSM.out], HF.but, HSR.out.but HF.but HF.known⟩
  · go_wp2_with fail
    clear hlk
    have HMM : Hid (M < W.heap.size) := by obtain ⟨es, cl, hm, _⟩ := HSR.out.known; exact (Array.getElem?_eq_some_iff.1 hm).1
    have HS5 := hide' (((HST0.out #[.int .i64 0, .int .i64 0]).below ((Below.refl _ _).alloc (Nat.le_refl _) (.cells #[.int .i64 0, .int .i64 0] 99))).below ((Below.refl _ _).alloc (Nat.le_refl _) (.cells #[.int .i64 9223372036854775807, .int .i64 0] 99)))
    have HE5 := hide' (alloc_new ((((W.alloc (.cells #[.slice ag us.length cg, .slice ar nr cr, .slice an need.length cn, .slice as' ns cs, .slice ac pw cc, .slice au need.length cu, .map (some M)] 94)).alloc (.cells #[.int .i64 h, .int .i64 a, .int .i64 b, .int .i64 c, .int .i64 d'] 97)).alloc (.cells #[.int .i64 0, .int .i64 0] 99)).alloc (.cells #[.int .i64 0, .int .i64 0] 99)) (.cells #[.int .i64 9223372036854775807, .int .i64 0] 99))
    rw [World.size_alloc, World.size_alloc, World.size_alloc, World.size_alloc] at HE5
    obtain ⟨E, hE⟩ : ∃ E, E = W.heap.size + 1 + 1 + 1 + 1 := ⟨_, rfl⟩
    rw [← hE] at HE5 ⊢
    obtain ⟨D, hD⟩ : ∃ E, E = W.heap.size + 1 + 1 + 1 := ⟨_, rfl⟩
    rw [← hD]
    obtain ⟨C, hC⟩ : ∃ E, E = W.heap.size + 1 + 1 := ⟨_, rfl⟩
    rw [← hC] at HS5 ⊢
    obtain ⟨B, hB⟩ : ∃ E, E = W.heap.size + 1 := ⟨_, rfl⟩
    rw [← hB] at HS5 ⊢
    have HNE : Hid (W.heap.size ≤ E ∧ E ≠ M ∧ E ≠ W.heap.size ∧ E ≠ B ∧ E ≠ C) := ⟨by omega, by have := HMM.out; omega, by omega, by omega, by omega⟩
    obtain ⟨A, hA⟩ : ∃ E, E = W.heap.size := ⟨_, rfl⟩
    obtain ⟨W5, hW5⟩ : ∃ W5, W5 = ((((W.alloc (.cells #[.slice ag us.length cg, .slice ar nr cr, .slice an need.length cn, .slice as' ns cs, .slice ac pw cc, .slice au need.length cu, .map (some M)] 94)).alloc (.cells #[.int .i64 h, .int .i64 a, .int .i64 b, .int .i64 c, .int .i64 d'] 97)).alloc (.cells #[.int .i64 0, .int .i64 0] 99)).alloc (.cells #[.int .i64 0, .int .i64 0] 99)).alloc (.cells #[.int .i64 9223372036854775807, .int .i64 0] 99) := ⟨_, rfl⟩
    rw [← hW5] at HS5 HE5 ⊢
    have HS6 : Hid (ASt W W5 us need spare M A B C #[.slice ag us.length cg, .slice ar nr cr, .slice an need.length cn, .slice as' ns cs, .slice ac pw cc, .slice au need.length cu, .map (some M)] #[.int .i64 h, .int .i64 a, .int .i64 b, .int .i64 c, .int .i64 d'] #[.int .i64 0, .int .i64 0]) := by rw [hA]; exact HS5
    have HNE2 : Hid (W.heap.size ≤ E ∧ E ≠ M ∧ E ≠ A ∧ E ≠ B ∧ E ≠ C) := by rw [hA]; exact HNE
    rw [← hA]
    clear hE hD hC hB hA hW5 HS5 HNE HMM HST0
    go_loopw [31] (fun i wr => ∃ (k : Nat), i = .int .i64 k ∧ k ≤ pw ∧ Hid (ASt W wr us need spare M A B C #[.slice ag us.length cg, .slice ar nr cr, .slice an need.length cn, .slice as' ns cs, .slice ac pw cc, .slice au need.length cu, .map (some M)] #[.int .i64 h, .int .i64 a, .int .i64 b, .int .i64 c, .int .i64 d'] #[.int .i64 0, .int .i64 0]) ∧ Hid (wr.heap[E]? = some (.cells (outC (bestK (thruL us need spare d h t) k)) 99 (0, 0)))) (fun i _ => pw - (intOf i).toNat)
    case atStart => exact ⟨0, rfl, Nat.zero_le _, HS6, HE5⟩
    case round =>
      clear HS6 HE5
      obtain ⟨k, rfl, hk, HST, HEB⟩ := hrel
      obtain ⟨o1, ho1⟩ : ∃ o1, o1 = bestK (thruL us need spare d h t) k := ⟨_, rfl⟩
      have HOB : Hid (outX o1 ≤ 9223372036854775807) := by
        show _ ≤ _
        rw [ho1]
        cases hb : bestK (thruL us need spare d h t) k with
        | none => exact Int.le_refl _
        | some p =>
          obtain ⟨c0, k0⟩ := p
          have := (thru_bound HP.out (by omega) (bestK_some _ _ _ hb).2.1)
          show c0 ≤ _
          omega
      have HO1 := hide' ho1
      rw [← ho1, outC_is] at HEB
      obtain ⟨ox, hox⟩ : ∃ x, x = outX o1 := ⟨_, rfl⟩
      obtain ⟨oy, hoy⟩ : ∃ x, x = outY o1 := ⟨_, rfl⟩
      have HOX := hide' hox
      rw [← hox] at HEB HOB
      rw [← hoy] at HEB
      have HOC : Hid (outC o1 = #[.int .i64 ox, .int .i64 oy]) := by rw [hox, hoy]; exact outC_is o1
      clear ho1 hox hoy
      have pa0 : wr.cell? ⟨A, 0, none⟩ = some (.slice ag us.length cg) := by simp [World.cell?, HST.out.tb.a]
      have pa1 : wr.cell? ⟨A, 1, none⟩ = some (.slice ar nr cr) := by simp [World.cell?, HST.out.tb.a]
      have pa2 : wr.cell? ⟨A, 2, none⟩ = some (.slice an need.length cn) := by simp [World.cell?, HST.out.tb.a]
      have pa3 : wr.cell? ⟨A, 3, none⟩ = some (.slice as' ns cs) := by simp [World.cell?, HST.out.tb.a]
      have pa4 : wr.cell? ⟨A, 4, none⟩ = some (.slice ac pw cc) := by simp [World.cell?, HST.out.tb.a]
      have pa5 : wr.cell? ⟨A, 5, none⟩ = some (.slice au need.length cu) := by simp [World.cell?, HST.out.tb.a]
      have pa6 : wr.cell? ⟨A, 6, none⟩ = some (.map (some M)) := by simp [World.cell?, HST.out.tb.a]
      have pb0 : wr.cell? ⟨B, 0, none⟩ = some (.int .i64 h) := by simp [World.cell?, HST.out.tb.b]
      have pb1 : wr.cell? ⟨B, 1, none⟩ = some (.int .i64 a) := by simp [World.cell?, HST.out.tb.b]
      have pb2 : wr.cell? ⟨B, 2, none⟩ = some (.int .i64 b) := by simp [World.cell?, HST.out.tb.b]
      have pb3 : wr.cell? ⟨B, 3, none⟩ = some (.int .i64 c) := by simp [World.cell?, HST.out.tb.b]
      have pb4 : wr.cell? ⟨B, 4, none⟩ = some (.int .i64 d') := by simp [World.cell?, HST.out.tb.b]
      have pe0 : wr.cell? ⟨E, 0, none⟩ = some (.int .i64 ox) := by simp [World.cell?, HEB.out]
      have pe1 : wr.cell? ⟨E, 1, none⟩ = some (.int .i64 oy) := by simp [World.cell?, HEB.out]
      by_cases hlt : k < pw
      · have HTC : Hid (Calls Try.prog 61 #[.agg #[.slice ag us.length cg, .slice ar nr cr, .slice an need.length cn, .slice as' ns cs, .slice ac pw cc, .slice au need.length cu, .map (some M)], .agg #[.int .i64 h, .int .i64 a, .int .i64 b, .int .i64 c, .int .i64 d'], .int .i64 k] wr (ThruO us need spare d h t k (.slice ag us.length cg) (.slice ac pw cc) (.slice au need.length cu) M wr)) := by
          have := through_any us need spare d HAG HP.out h k t _ _ _ ar an as' nr cr cn ns cs M wr (by omega) (by rw [← HPW.out]; exact hlt) HTL.out HOK.out (HST.out.srch HSR.out)
          rw [momT_is HE.out] at this
          exact this
        go_wp2_with fail
        refine HTC.out.mono ?_
        rintro e w5 ⟨rfl, hb5, hs5⟩
        have HST2 := hide' (HST.out.more hb5 hs5.known)
        have HEB2 := hide' ((hb5.block E (Array.getElem?_eq_some_iff.1 HEB.out).1 HNE2.out.2.1).trans HEB.out)
        obtain ⟨x, hx⟩ : ∃ x, x = (thruL us need spare d h t k).getD never := ⟨_, rfl⟩
        have HX := hide' hx
        rw [← hx]
        have q0 : w5.cell? ⟨E, 0, none⟩ = some (.int .i64 ox) := by simp [World.cell?, HEB2.out]
        have q1 : w5.cell? ⟨E, 1, none⟩ = some (.int .i64 oy) := by simp [World.cell?, HEB2.out]
        have y0 := frozen_no HEB2.out 0
        have y1 := frozen_no HEB2.out 1
        have HTB : Hid (∀ c, thruL us need spare d h t k = some c → c < 9223372036854775807) := fun c hc => by have := thru_bound HP.out (by omega) hc; omega
        clear hb5 hs5 HTC hx HST HEB
        by_cases hcmp : x < ox
        · have HBK : Hid (bestK (thruL us need spare d h t) (k + 1) = some (x, k)) := bestK_yes HX.out HTB.out (by rw [← HO1.out, ← HOX.out]; exact HOB.out) (by rw [← HO1.out, ← HOX.out]; exact hcmp)
          have HFIN := hide' (HST2.out.setE (x := x) (y := (k : Int)) HNE2.out)
          have HEF : Hid (((w5.setCell ⟨E, 0, none⟩ (.int .i64 x)).setCell ⟨E, 1, none⟩ (.int .i64 k)).heap[E]? = some (.cells (outC (some (x, k))) 99 (0, 0))) := (set_any (set_any HEB2.out 0 _) 1 _).trans rfl
          go_wp2
          go_roundw
          case rel => exact ⟨k + 1, by go_num, by omega, HFIN, by rw [HBK.out]; exact HEF⟩
          case measure => simp [intOf]; omega
        · have HBK : Hid (bestK (thruL us need spare d h t) (k + 1) = bestK (thruL us need spare d h t) k) := bestK_stay HX.out HTB.out (by rw [← HO1.out, ← HOX.out]; exact hcmp)
          go_wp2
          go_roundw
          case rel => exact ⟨k + 1, by go_num, by omega, HST2, by rw [HBK.out, ← HO1.out, HOC.out]; exact HEB2⟩
          case measure => simp [intOf]; omega
      · have hke : k = pw := by omega
        subst hke
        have HOO : Hid (o1 = o) := by show _ = _; rw [HO1.out, HO.out, look_succ, HPW.out]
        obtain ⟨es, clock, hm, hkn⟩ := HST.out.known
        obtain ⟨es', clock', hput, hkn'⟩ := known_put (h := h) (t := t) HP.out.h4 hm hkn (by omega) HTL.out HOK.out
        rw [show need.length - h = d + 1 by omega, ← HO.out, ← HOO.out, outV_is, HOC.out, momT_is HE.out, show momV h a b c d' = .agg #[.int .i64 h, .int .i64 a, .int .i64 b, .int .i64 c, .int .i64 d'] from rfl] at hput
        have HB6 : Hid (But k wr wr) := But.refl _ _
        have HBP := hide' (But.put hm (.map es' clock'))
        have HK6 := hide' (heap_setBlock_same hm (.map es' clock'))
        obtain ⟨W6, hW6⟩ : ∃ W6, W6 = setBlock wr M (.map es' clock') := ⟨_, rfl⟩
        rw [← hW6] at hput HBP HK6
        have HST6 := hide' (HST.out.more HBP.out ⟨es', clock', HK6.out, hkn'⟩)
        have HEB6 := hide' ((HBP.out.block E (Array.getElem?_eq_some_iff.1 HEB.out).1 HNE2.out.2.1).trans HEB.out)
        have q0 : W6.cell? ⟨E, 0, none⟩ = some (.int .i64 ox) := by simp [World.cell?, HEB6.out]
        have q1 : W6.cell? ⟨E, 1, none⟩ = some (.int .i64 oy) := by simp [World.cell?, HEB6.out]
        have z0 : W6.cell? ⟨C, 0, none⟩ = some (.int .i64 0) := by simp [World.cell?, HST6.out.hC]
        have z1 : W6.cell? ⟨C, 1, none⟩ = some (.int .i64 0) := by simp [World.cell?, HST6.out.hC]
        have y0 := frozen_no HST6.out.hC 0
        have y1 := frozen_no HST6.out.hC 1
        clear hm hkn hkn' hW6 HB6
        go_wp2
        have HF := HST6.out.end ox oy
        refine bodyPost_ret (results_cell_row rfl _ _ C 99 _ (0, 0) _ rfl HF.1 Try.underlying99 rfl (by kernel_rfl)) rfl ?_
        exact ⟨by rw [← HOO.out, outV_is, HOC.out], HF.2.1, HSR.out.but HF.2.1 HF.2.2⟩
end Go.Proofs.Ytlbeecjkfakkpag
