/- ahead. -/
import Derived.Test.YtnhddmcdmcpkeajV7
namespace Go.Proofs.Ytnhddmcdmcpkeaj
open Go.RowKit Go.Shelf Go.ChangeMaps
attribute [local go_sem] Oper.semAt_some wide_fn wide_depth

theorem field90 (x y z : Int) (w : World) : (Instr.field 131 (.agg #[.int .i64 x, .int .i64 y, .int .i64 z]) 0).run Try.prog w = .ok (.int .i64 x) w := by
  simp [Instr.field, run_underlying Try.underlying131, asAgg, part, Try.isAgg3, Result.andThen]
/-- A letter for a world. -/
theorem wpAnyU_letter {F : Fence} {n : Nat} {P : Program} {md : Region.Mode} {ops : Array Oper} {Q : Exit → Act → World → Prop} {S : World → Prop} {tl fuel : Nat} {listed : Array Bool} {a : Act} {w : World} (R : World → Prop) (h : R w) (k : ∀ w', R w' → wpAnyU F n P md ops Q S tl fuel listed a w') : wpAnyU F n P md ops Q S tl fuel listed a w := k w h
theorem But.setOut {M B j : Nat} {W X : World} (h : But M W X) (hB : W.heap.size ≤ B) (v : Value) : But M W (X.setCell ⟨B, j, none⟩ v) :=
  ⟨h.os, h.tape, h.output, by have := h.size; simp; exact this, fun k hk hm => (Below.heap_setCell X ⟨B, j, none⟩ v k (by show k ≠ B; omega)).trans (h.block k hk hm)⟩
theorem But.keptC {M T : Nat} {A B : World} {es : Array MapEntry} {clock : Nat} (h : But M A B) (hm : A.heap[M]? = some (.map es clock)) : KeptC T A B := ⟨h.size, fun k c e fz _ hk => (h.block k (lt_heap hk) (fun e1 => by subst e1; rw [hm] at hk; cases hk)).trans hk⟩
theorem But.from {M : Nat} {A B : World} (h : But M A B) {n : Nat} (hn : M < n) : KeepsFrom n A B := ⟨h.size, fun k o hk ho _ => (h.block k (lt_heap ho) (by omega)).trans ho⟩
theorem But.grown {M n : Nat} {W X Y : World} {row : Option Nat} (h : But M W X) (hg : X.grownBy Y row) (hr : ∀ r, row = some r → n ≤ r) (hn : W.heap.size ≤ n) : But M W Y :=
  ⟨hg.os.trans h.os, hg.tape.trans h.tape, hg.output.trans h.output, Nat.le_trans h.size hg.size, fun k hk hm => (hg.block k (Nat.lt_of_lt_of_le hk h.size) (fun e => by have := hr k e.symm; omega)).trans (h.block k hk hm)⟩
/-- The best so far: its cells. -/
def bestC (o : Int × Pair2) : Array Value := #[.int .i64 o.1, .int .i64 o.2.a, .int .i64 o.2.b]
set_option maxRecDepth 100000 in
set_option maxHeartbeats 8000000 in
theorem ahead_succ {ls : List LakeM} {L H : Nat} {ti : List (List Int)} {pr en : List Int} {al ai ap ae : Option Addr} {cl ci cp ce M : Nat} {d : Nat} (hp : PlanOk ls L H ti pr en) (hag : AheadGood ls L H ti pr en al ai ap ae cl ci cp ce M d) : AheadGood ls L H ti pr en al ai ap ae cl ci cp ce M (d + 1) := by
  intro h s W hh g he
  have HE := hide' he
  have HP := hide' hp
  have HG := hide' g
  have HAG := hide' hag
  have hhH : h < H := by omega
  have hH8 := hp.H8
  have gb := good_bounds hp.ok hp.l g
  have fb := full_bounds (inr := ti.getD h []) hp.ok hp.l (hp.inb hhH) g
  have fn := free_nn hp hhH g
  have hht : h < ti.length := by rw [hp.t]; exact hhH
  obtain ⟨s0, s1, s2, s3⟩ := s
  have HFI : Hid (∀ W', PEnv W' ls L H ti pr en al ai ap ae cl ci cp ce M → Calls Try.prog 62 #[.agg #[.slice al L cl, .slice ai H ci], .agg #[.int .i64 s0, .int .i64 s1, .int .i64 s2, .int .i64 s3], .int .i64 (h : Int)] W' fun e w' => e = .returned (.agg #[.int .i64 (fullH L ti h ⟨s0, s1, s2, s3⟩).a, .int .i64 (fullH L ti h ⟨s0, s1, s2, s3⟩).b]) ∧ Below W'.heap.size W' w') := fun W' hb => by
    have h1 := fill_any ti h hht L (hp.tr _ (List.getElem_mem hht)) (hp.ti _ (List.getElem_mem hht)) (.slice al L cl) ai H ci hp.t s0 s1 s2 s3 W' hb.inflow hp.L2 (by simp only at gb; omega)
    rw [show fillV ti[h] s0 s1 s2 s3 L = #[.int .i64 (fullH L ti h ⟨s0, s1, s2, s3⟩).a, .int .i64 (fullH L ti h ⟨s0, s1, s2, s3⟩).b] from by unfold fullH; rw [getD_at hht]; rfl] at h1
    exact h1
  have HFR : Hid (∀ W', PEnv W' ls L H ti pr en al ai ap ae cl ci cp ce M → Calls Try.prog 64 #[.agg #[.slice al L cl, .slice ai H ci], .agg #[.int .i64 (fullH L ti h ⟨s0, s1, s2, s3⟩).a, .int .i64 (fullH L ti h ⟨s0, s1, s2, s3⟩).b]] W' fun e w' => e = .returned (.agg #[.int .i64 (free2 ls L (fullH L ti h ⟨s0, s1, s2, s3⟩)).a, .int .i64 (free2 ls L (fullH L ti h ⟨s0, s1, s2, s3⟩)).b]) ∧ Below W'.heap.size W' w') := fun W' hb => free_any ls hp.ok al L cl (.slice ai H ci) _ _ W' hb.lakes hp.l hp.L2 (by have : fullH L ti h ⟨s0, s1, s2, s3⟩ = full2 L ⟨s0, s1, s2, s3⟩ (ti.getD h []) := rfl; rw [this]; omega)
  have HEA : Hid (∀ (r : Pair2) W', Fit ls L (fullH L ti h ⟨s0, s1, s2, s3⟩) r → PEnv W' ls L H ti pr en al ai ap ae cl ci cp ce M → Calls Try.prog 74 #[.agg #[.slice al L cl, .slice ai H ci, .slice ap H cp, .slice ae L ce, .map (some M)], .int .i64 (h : Int), .agg #[.int .i64 r.a, .int .i64 r.b]] W' fun e w' => e = .returned (.int .i64 (earnK ls (pr.getD h 0) r.a r.b L)) ∧ Below W'.heap.size W' w') := fun r W' hf hb => by
    have hb4 := fit_bd hp hhH g hf
    exact earned_any ls hp.ok al ap L cl H cp _ _ _ pr h r.a r.b W' hb.lakes hp.l hp.L2 hb.price hp.p hhH (hp.pb _ (getD_mem (by rw [hp.p]; exact hhH))) hb4.1 hb4.2
  have HAF : Hid (∀ (r : Pair2) W', Fit ls L (fullH L ti h ⟨s0, s1, s2, s3⟩) r → PEnv W' ls L H ti pr en al ai ap ae cl ci cp ce M → Calls Try.prog 69 #[.agg #[.slice al L cl, .slice ai H ci, .slice ap H cp, .slice ae L ce, .map (some M)], .agg #[.int .i64 h, .int .i64 s0, .int .i64 s1, .int .i64 s2, .int .i64 s3], .agg #[.int .i64 (fullH L ti h ⟨s0, s1, s2, s3⟩).a, .int .i64 (fullH L ti h ⟨s0, s1, s2, s3⟩).b], .agg #[.int .i64 r.a, .int .i64 r.b]] W' fun e w' => e = .returned (momS (h + 1) (next2 ls L (fullH L ti h ⟨s0, s1, s2, s3⟩) r)) ∧ Below W'.heap.size W' w') := fun r W' hf hb => by
    have hb4 := fit_bd hp hhH g hf
    have h1 := after_any ls hp.ok al L cl (.slice ai H ci) (.slice ap H cp) (.slice ae L ce) (.map (some M)) h (by omega) s0 s1 s2 s3 (fullH L ti h ⟨s0, s1, s2, s3⟩).a (fullH L ti h ⟨s0, s1, s2, s3⟩).b r.a r.b W' hb.lakes hp.l hp.L2 (by have : fullH L ti h ⟨s0, s1, s2, s3⟩ = full2 L ⟨s0, s1, s2, s3⟩ (ti.getD h []) := rfl; rw [this]; omega) (by omega)
    rw [show Value.agg (afterA ls L h (fullH L ti h ⟨s0, s1, s2, s3⟩).a (fullH L ti h ⟨s0, s1, s2, s3⟩).b r.a r.b) = momS (h + 1) (next2 ls L (fullH L ti h ⟨s0, s1, s2, s3⟩) r) from rfl] at h1
    exact h1
  have HRE : Hid (∀ (r : Pair2) W', Fit ls L (fullH L ti h ⟨s0, s1, s2, s3⟩) r → PEnv W' ls L H ti pr en al ai ap ae cl ci cp ce M → Calls Try.prog 68 #[.agg #[.slice al L cl, .slice ai H ci, .slice ap H cp, .slice ae L ce, .map (some M)], momS (h + 1) (next2 ls L (fullH L ti h ⟨s0, s1, s2, s3⟩) r)] W' fun e w' => e = .returned (outS (lookD ls L ti pr en d (h + 1) (next2 ls L (fullH L ti h ⟨s0, s1, s2, s3⟩) r))) ∧ But M W' w' ∧ PEnv w' ls L H ti pr en al ai ap ae cl ci cp ce M) := fun r W' hf hb => hag (h + 1) _ W' (by omega) (fit_good hp hhH g hf) hb
  have HLK : Hid (∀ W', PEnv W' ls L H ti pr en al ai ap ae cl ci cp ce M → (Instr.lookup 86 (.map (some M)) (.agg #[.int .i64 h, .int .i64 s0, .int .i64 s1, .int .i64 s2, .int .i64 s3]) true).run Try.prog W' = .ok (.tuple #[outS (lookD ls L ti pr en (d + 1) h ⟨s0, s1, s2, s3⟩), .bool true]) W' ∨ (Instr.lookup 86 (.map (some M)) (.agg #[.int .i64 h, .int .i64 s0, .int .i64 s1, .int .i64 s2, .int .i64 s3]) true).run Try.prog W' = .ok (.tuple #[.agg #[.int .i64 0, .int .i64 0, .int .i64 0], .bool false]) W') := fun W' hb => by
    obtain ⟨es, clock, hm, hk⟩ := hb.known
    have h1 := known_look hp (h := h) hm hk (by omega) g
    rw [show H - h = d + 1 by omega] at h1
    exact h1
  have HPU : Hid (∀ W' es clock, W'.heap[M]? = some (.map es clock) → Known ls L H ti pr en es.toList → ∃ es' clock', (Instr.mapUpdate 86 (.map (some M)) (.agg #[.int .i64 h, .int .i64 s0, .int .i64 s1, .int .i64 s2, .int .i64 s3]) (outS (lookD ls L ti pr en (d + 1) h ⟨s0, s1, s2, s3⟩))).run Try.prog W' = .ok () (setBlock W' M (.map es' clock')) ∧ Known ls L H ti pr en es'.toList) := fun W' es clock hm hk => by
    have h1 := known_put hp (h := h) hm hk (by omega) g
    rw [show H - h = d + 1 by omega] at h1
    exact h1
  have HBE : Hid (lookD ls L ti pr en (d + 1) h ⟨s0, s1, s2, s3⟩ = bestF (fun r => earnK ls (pr.getD h 0) r.a r.b L + (lookD ls L ti pr en d (h + 1) (next2 ls L (fullH L ti h ⟨s0, s1, s2, s3⟩) r)).1) (choH ls L ti h ⟨s0, s1, s2, s3⟩)) := rfl
  have HFT : Hid (∀ r ∈ choH ls L ti h ⟨s0, s1, s2, s3⟩, Fit ls L (fullH L ti h ⟨s0, s1, s2, s3⟩) r) := fun r hr => cho_fit hp hhH g hr
  have HVB : Hid (∀ r ∈ choH ls L ti h ⟨s0, s1, s2, s3⟩, (0 ≤ earnK ls (pr.getD h 0) r.a r.b L ∧ earnK ls (pr.getD h 0) r.a r.b L ≤ 8000000) ∧ -1 ≤ (lookD ls L ti pr en d (h + 1) (next2 ls L (fullH L ti h ⟨s0, s1, s2, s3⟩) r)).1 ∧ (lookD ls L ti pr en d (h + 1) (next2 ls L (fullH L ti h ⟨s0, s1, s2, s3⟩) r)).1 ≤ 104040000) := fun r hr => by
    have hf := cho_fit hp hhH g hr
    have hb4 := fit_bd hp hhH g hf
    have h1 := look_bd hp d (h + 1) _ (by omega) (fit_good hp hhH g hf)
    exact ⟨earn_bd hp hhH hb4.1 hb4.2, h1.1, by omega⟩
  obtain ⟨m0, hm0⟩ : ∃ m : Nat, (m : Int) = (free2 ls L (fullH L ti h ⟨s0, s1, s2, s3⟩)).a := ⟨(free2 ls L (fullH L ti h ⟨s0, s1, s2, s3⟩)).a.toNat, by omega⟩
  obtain ⟨m1, hm1⟩ : ∃ m : Nat, (m : Int) = (free2 ls L (fullH L ti h ⟨s0, s1, s2, s3⟩)).b := ⟨(free2 ls L (fullH L ti h ⟨s0, s1, s2, s3⟩)).b.toNat, by omega⟩
  have hm04 : m0 ≤ 4 := by omega
  have hm14 : m1 ≤ 4 := by omega
  have HCH : Hid (choH ls L ti h ⟨s0, s1, s2, s3⟩ = choL m0 m1) := by show choL _ _ = _; rw [← hm0, ← hm1]; rfl
  rw [← hm0, ← hm1] at HFR
  rw [HCH.out] at HBE HFT HVB
  obtain ⟨f, hf⟩ : ∃ f, f = fullH L ti h ⟨s0, s1, s2, s3⟩ := ⟨_, rfl⟩
  rw [← hf] at HFI HFR HEA HAF HRE HBE HFT HVB
  obtain ⟨val, hval⟩ : ∃ val : Pair2 → Int, val = fun r => earnK ls (pr.getD h 0) r.a r.b L + (lookD ls L ti pr en d (h + 1) (next2 ls L f r)).1 := ⟨_, rfl⟩
  rw [← hval] at HBE
  have HVL : Hid (∀ r, val r = earnK ls (pr.getD h 0) r.a r.b L + (lookD ls L ti pr en d (h + 1) (next2 ls L f r)).1) := fun r => by rw [hval]
  obtain ⟨o, ho⟩ : ∃ o, o = lookD ls L ti pr en (d + 1) h ⟨s0, s1, s2, s3⟩ := ⟨_, rfl⟩
  rw [← ho] at HLK HPU HBE ⊢
  obtain ⟨ox, oa, ob⟩ := o
  rw [show outS (ox, ⟨oa, ob⟩) = .agg #[.int .i64 ox, .int .i64 oa, .int .i64 ob] from rfl] at HLK HPU
  rw [show momS h ⟨s0, s1, s2, s3⟩ = .agg #[.int .i64 h, .int .i64 s0, .int .i64 s1, .int .i64 s2, .int .i64 s3] from rfl]
  have hne : ((h : Int) == (H : Int)) = false := by simp; omega
  have HMW : Hid (M < W.heap.size) := by obtain ⟨es, cl, hm, _⟩ := he.known; exact lt_heap hm
  obtain ⟨fa, fb'⟩ := f
  simp only at HFI HFR HEA HAF
  clear hm0 hm1 hf hval ho he hp g hag gb fb fn hht hh
  refine (callsIn_wide (n := 3)).1 ?_
  refine callsIn_of_wp_marks Try.func68 rfl trivial ?_
  simp only [Try.ntmps68, List.size_toArray, List.length_cons, List.length_nil, Nat.reduceAdd, Nat.reduceSub, Array.replicate_succ, Array.replicate_zero, List.push_toArray, List.append_toArray, List.nil_append, List.cons_append]
  refine wpIn_wide.2 ?_
  go_upto_region 1 with fail
  have hqP := (alloc_old ((W.alloc (.cells #[.slice al L cl, .slice ai H ci, .slice ap H cp, .slice ae L ce, .map (some M)] 88)).alloc (.cells #[.int .i64 h, .int .i64 s0, .int .i64 s1, .int .i64 s2, .int .i64 s3] 129)) (.cells #[.int .i64 0, .int .i64 0, .int .i64 0] 131) (lt_heap ((alloc_old (W.alloc (.cells #[.slice al L cl, .slice ai H ci, .slice ap H cp, .slice ae L ce, .map (some M)] 88)) (.cells #[.int .i64 h, .int .i64 s0, .int .i64 s1, .int .i64 s2, .int .i64 s3] 129) (lt_heap (alloc_new W (.cells #[.slice al L cl, .slice ai H ci, .slice ap H cp, .slice ae L ce, .map (some M)] 88)))).trans (alloc_new W (.cells #[.slice al L cl, .slice ai H ci, .slice ap H cp, .slice ae L ce, .map (some M)] 88))))).trans ((alloc_old (W.alloc (.cells #[.slice al L cl, .slice ai H ci, .slice ap H cp, .slice ae L ce, .map (some M)] 88)) (.cells #[.int .i64 h, .int .i64 s0, .int .i64 s1, .int .i64 s2, .int .i64 s3] 129) (lt_heap (alloc_new W (.cells #[.slice al L cl, .slice ai H ci, .slice ap H cp, .slice ae L ce, .map (some M)] 88)))).trans (alloc_new W (.cells #[.slice al L cl, .slice ai H ci, .slice ap H cp, .slice ae L ce, .map (some M)] 88)))
  have hqQ := (alloc_old ((W.alloc (.cells #[.slice al L cl, .slice ai H ci, .slice ap H cp, .slice ae L ce, .map (some M)] 88)).alloc (.cells #[.int .i64 h, .int .i64 s0, .int .i64 s1, .int .i64 s2, .int .i64 s3] 129)) (.cells #[.int .i64 0, .int .i64 0, .int .i64 0] 131) (lt_heap (alloc_new (W.alloc (.cells #[.slice al L cl, .slice ai H ci, .slice ap H cp, .slice ae L ce, .map (some M)] 88)) (.cells #[.int .i64 h, .int .i64 s0, .int .i64 s1, .int .i64 s2, .int .i64 s3] 129)))).trans (alloc_new (W.alloc (.cells #[.slice al L cl, .slice ai H ci, .slice ap H cp, .slice ae L ce, .map (some M)] 88)) (.cells #[.int .i64 h, .int .i64 s0, .int .i64 s1, .int .i64 s2, .int .i64 s3] 129))
  have hqS := alloc_new ((W.alloc (.cells #[.slice al L cl, .slice ai H ci, .slice ap H cp, .slice ae L ce, .map (some M)] 88)).alloc (.cells #[.int .i64 h, .int .i64 s0, .int .i64 s1, .int .i64 s2, .int .i64 s3] 129)) (.cells #[.int .i64 0, .int .i64 0, .int .i64 0] 131)
  have hb1 := ((below_al W (.cells #[.slice al L cl, .slice ai H ci, .slice ap H cp, .slice ae L ce, .map (some M)] 88)).alloc (below_al W (.cells #[.slice al L cl, .slice ai H ci, .slice ap H cp, .slice ae L ce, .map (some M)] 88)).size (.cells #[.int .i64 h, .int .i64 s0, .int .i64 s1, .int .i64 s2, .int .i64 s3] 129)).alloc ((below_al W (.cells #[.slice al L cl, .slice ai H ci, .slice ap H cp, .slice ae L ce, .map (some M)] 88)).alloc (below_al W (.cells #[.slice al L cl, .slice ai H ci, .slice ap H cp, .slice ae L ce, .map (some M)] 88)).size (.cells #[.int .i64 h, .int .i64 s0, .int .i64 s1, .int .i64 s2, .int .i64 s3] 129)).size (.cells #[.int .i64 0, .int .i64 0, .int .i64 0] 131)
  rw [show (W.alloc (.cells #[.slice al L cl, .slice ai H ci, .slice ap H cp, .slice ae L ce, .map (some M)] 88)).heap.size = W.heap.size + 1 from by simp only [World.size_alloc]] at hqQ
  rw [show ((W.alloc (.cells #[.slice al L cl, .slice ai H ci, .slice ap H cp, .slice ae L ce, .map (some M)] 88)).alloc (.cells #[.int .i64 h, .int .i64 s0, .int .i64 s1, .int .i64 s2, .int .i64 s3] 129)).heap.size = W.heap.size + 1 + 1 from by simp only [World.size_alloc]] at hqS
  obtain ⟨w1, hw1⟩ : ∃ x, x = (((W.alloc (.cells #[.slice al L cl, .slice ai H ci, .slice ap H cp, .slice ae L ce, .map (some M)] 88)).alloc (.cells #[.int .i64 h, .int .i64 s0, .int .i64 s1, .int .i64 s2, .int .i64 s3] 129)).alloc (.cells #[.int .i64 0, .int .i64 0, .int .i64 0] 131)) := ⟨_, rfl⟩
  rw [← hw1] at hqP hqQ hqS hb1 ⊢
  obtain ⟨P, hnP⟩ : ∃ x, x = W.heap.size := ⟨_, rfl⟩
  obtain ⟨Q, hnQ⟩ : ∃ x, x = W.heap.size + 1 := ⟨_, rfl⟩
  obtain ⟨S, hnS⟩ : ∃ x, x = W.heap.size + 1 + 1 := ⟨_, rfl⟩
  have HNE : Hid (W.heap.size ≤ P ∧ W.heap.size ≤ Q ∧ W.heap.size ≤ S ∧ P ≠ Q ∧ P ≠ S ∧ Q ≠ S) := ⟨by omega, by omega, by omega, by omega, by omega, by omega⟩
  rw [← hnP] at hqP
  rw [← hnQ] at hqQ
  rw [← hnS] at hqS
  rw [show (Value.pointer (some { block := W.heap.size, off := 0 })) = Value.pointer (some { block := P, off := 0 }) by rw [hnP], show (Value.pointer (some { block := W.heap.size + 1, off := 0 })) = Value.pointer (some { block := Q, off := 0 }) by rw [hnQ], show (Value.pointer (some { block := W.heap.size + 1 + 1, off := 0 })) = Value.pointer (some { block := S, off := 0 }) by rw [hnS]]
  have HQP := hide' hqP
  have HQQ := hide' hqQ
  have HQS := hide' hqS
  have HB1 := hide' hb1
  clear hqP hqQ hqS hb1 hw1 hnP hnQ hnS
  have HE1 := hide' (HE.out.below HB1.out)
  have p0 : w1.cell? ⟨P, 0, none⟩ = some (.slice al L cl) := (cells_at HQP.out 0).trans rfl
  have p1 : w1.cell? ⟨P, 1, none⟩ = some (.slice ai H ci) := (cells_at HQP.out 1).trans rfl
  have p2 : w1.cell? ⟨P, 2, none⟩ = some (.slice ap H cp) := (cells_at HQP.out 2).trans rfl
  have p3 : w1.cell? ⟨P, 3, none⟩ = some (.slice ae L ce) := (cells_at HQP.out 3).trans rfl
  have p4 : w1.cell? ⟨P, 4, none⟩ = some (.map (some M)) := (cells_at HQP.out 4).trans rfl
  have q0 : w1.cell? ⟨Q, 0, none⟩ = some (.int .i64 h) := (cells_at HQQ.out 0).trans rfl
  have q1 : w1.cell? ⟨Q, 1, none⟩ = some (.int .i64 s0) := (cells_at HQQ.out 1).trans rfl
  have q2 : w1.cell? ⟨Q, 2, none⟩ = some (.int .i64 s1) := (cells_at HQQ.out 2).trans rfl
  have q3 : w1.cell? ⟨Q, 3, none⟩ = some (.int .i64 s2) := (cells_at HQQ.out 3).trans rfl
  have q4 : w1.cell? ⟨Q, 4, none⟩ = some (.int .i64 s3) := (cells_at HQQ.out 4).trans rfl
  have z0 : w1.cell? ⟨S, 0, none⟩ = some (.int .i64 0) := (cells_at HQS.out 0).trans rfl
  have z1 : w1.cell? ⟨S, 1, none⟩ = some (.int .i64 0) := (cells_at HQS.out 1).trans rfl
  have z2 : w1.cell? ⟨S, 2, none⟩ = some (.int .i64 0) := (cells_at HQS.out 2).trans rfl
  have t0 := frozen_no HQS.out 0
  have t1 := frozen_no HQS.out 1
  have t2 := frozen_no HQS.out 2
  rcases HLK.out w1 HE1.out with hlk | hlk
  · have HFS : Hid ((((((w1.alloc (.cells #[.int .i64 ox, .int .i64 oa, .int .i64 ob] 131)).setCell ⟨S, 0, none⟩ (.int .i64 ox)).setCell ⟨S, 1, none⟩ (.int .i64 oa)).setCell ⟨S, 2, none⟩ (.int .i64 ob)).heap[S]? = some (.cells #[.int .i64 ox, .int .i64 oa, .int .i64 ob] 131 (0, 0)))) := set_three ((alloc_old w1 _ (lt_heap HQS.out)).trans HQS.out) _ _ _
    have HSS : Hid (W.heap.size ≤ S) := HNE.out.2.2.1
    have HBF : Hid (Below W.heap.size W ((((w1.alloc (.cells #[.int .i64 ox, .int .i64 oa, .int .i64 ob] 131)).setCell ⟨S, 0, none⟩ (.int .i64 ox)).setCell ⟨S, 1, none⟩ (.int .i64 oa)).setCell ⟨S, 2, none⟩ (.int .i64 ob))) := (((HB1.out.alloc HB1.out.size _).setCell (p := ⟨S, 0, none⟩) HSS.out _).setCell (p := ⟨S, 1, none⟩) HSS.out _).setCell (p := ⟨S, 2, none⟩) HSS.out _
    have z0a := later z0
    have z1a := later z1
    have z2a := later z2
    have t0a : ∀ o, (w1.alloc o).frozen? ⟨S, 0, none⟩ = false := fun o => frozen_no ((alloc_old w1 o (lt_heap HQS.out)).trans HQS.out) 0
    have t1a : ∀ o, (w1.alloc o).frozen? ⟨S, 1, none⟩ = false := fun o => frozen_no ((alloc_old w1 o (lt_heap HQS.out)).trans HQS.out) 1
    have t2a : ∀ o, (w1.alloc o).frozen? ⟨S, 2, none⟩ = false := fun o => frozen_no ((alloc_old w1 o (lt_heap HQS.out)).trans HQS.out) 2
    go_wp2_with fail
    refine leaves_marks [] _ ⟨by simp, fun d hd => by cases hd⟩ ?_
    intro W' g1 g2 g3 g4 g5
    have hbw : Below W.heap.size W W' := ⟨g2.trans HBF.out.os, g3.trans HBF.out.tape, g4.trans HBF.out.output, by rw [← g1]; exact HBF.out.size, fun k hk => (g5 k (by simp)).trans (HBF.out.block k hk)⟩
    exact ⟨_, results_cell_row rfl _ _ S 131 _ (0, 0) _ rfl ((g5 S (by simp)).trans HFS.out) Try.underlying131 rfl (by kernel_rfl), rfl, But.of hbw, HE.out.below hbw⟩
  · go_upto_region 6 with fail
    clear hlk
    have HO1 := hide' HNE.out
    have HBW1 := hide' HB1.out
    have hqD := alloc_new w1 (.cells #[.int .i64 0, .int .i64 0, .int .i64 0] 131)
    have hb1 := below_al w1 (.cells #[.int .i64 0, .int .i64 0, .int .i64 0] 131)
    obtain ⟨w2, hw1⟩ : ∃ x, x = (w1.alloc (.cells #[.int .i64 0, .int .i64 0, .int .i64 0] 131)) := ⟨_, rfl⟩
    rw [← hw1] at hqD hb1 ⊢
    obtain ⟨D, hnD⟩ : ∃ x, x = w1.heap.size := ⟨_, rfl⟩
    have HNE : Hid (w1.heap.size ≤ D) := by show _ ≤ _; omega
    rw [← hnD] at hqD
    rw [show (Value.pointer (some { block := w1.heap.size, off := 0 })) = Value.pointer (some { block := D, off := 0 }) by rw [hnD]]
    have HQD := hide' hqD
    have HB1 := hide' hb1
    clear hqD hb1 hw1 hnD
    have HBW2 := hide' (HBW1.out.trans (HB1.out.mono HBW1.out.size))
    have HE2 := hide' (HE1.out.below HB1.out)
    have HP2 : Hid (w2.heap[P]? = some (.cells #[.slice al L cl, .slice ai H ci, .slice ap H cp, .slice ae L ce, .map (some M)] 88 (0, 0))) := (HB1.out.block P (lt_heap HQP.out)).trans HQP.out
    have HQ2 : Hid (w2.heap[Q]? = some (.cells #[.int .i64 h, .int .i64 s0, .int .i64 s1, .int .i64 s2, .int .i64 s3] 129 (0, 0))) := (HB1.out.block Q (lt_heap HQQ.out)).trans HQQ.out
    have HS2 : Hid (w2.heap[S]? = some (.cells #[.int .i64 0, .int .i64 0, .int .i64 0] 131 (0, 0))) := (HB1.out.block S (lt_heap HQS.out)).trans HQS.out
    clear p0 p1 p2 p3 p4 q0 q1 q2 q3 q4 z0 z1 z2 t0 t1 t2
    have p0 : w2.cell? ⟨P, 0, none⟩ = some (.slice al L cl) := (cells_at HP2.out 0).trans rfl
    have p1 : w2.cell? ⟨P, 1, none⟩ = some (.slice ai H ci) := (cells_at HP2.out 1).trans rfl
    have p2 : w2.cell? ⟨P, 2, none⟩ = some (.slice ap H cp) := (cells_at HP2.out 2).trans rfl
    have p3 : w2.cell? ⟨P, 3, none⟩ = some (.slice ae L ce) := (cells_at HP2.out 3).trans rfl
    have p4 : w2.cell? ⟨P, 4, none⟩ = some (.map (some M)) := (cells_at HP2.out 4).trans rfl
    have q0 : w2.cell? ⟨Q, 0, none⟩ = some (.int .i64 h) := (cells_at HQ2.out 0).trans rfl
    have q1 : w2.cell? ⟨Q, 1, none⟩ = some (.int .i64 s0) := (cells_at HQ2.out 1).trans rfl
    have q2 : w2.cell? ⟨Q, 2, none⟩ = some (.int .i64 s1) := (cells_at HQ2.out 2).trans rfl
    have q3 : w2.cell? ⟨Q, 3, none⟩ = some (.int .i64 s2) := (cells_at HQ2.out 3).trans rfl
    have q4 : w2.cell? ⟨Q, 4, none⟩ = some (.int .i64 s3) := (cells_at HQ2.out 4).trans rfl
    have HFI2 := hide' (HFI.out w2 HE2.out)
    go_wp2_with fail
    refine HFI2.out.mono ?_
    rintro e w3 ⟨rfl, hb3⟩
    have HBW3 := hide' (HBW2.out.trans (hb3.mono HBW2.out.size))
    have HE3 := hide' (HE2.out.below hb3)
    have HP3 : Hid (w3.heap[P]? = some (.cells #[.slice al L cl, .slice ai H ci, .slice ap H cp, .slice ae L ce, .map (some M)] 88 (0, 0))) := (hb3.block P (lt_heap HP2.out)).trans HP2.out
    have HQ3 : Hid (w3.heap[Q]? = some (.cells #[.int .i64 h, .int .i64 s0, .int .i64 s1, .int .i64 s2, .int .i64 s3] 129 (0, 0))) := (hb3.block Q (lt_heap HQ2.out)).trans HQ2.out
    have HS3 : Hid (w3.heap[S]? = some (.cells #[.int .i64 0, .int .i64 0, .int .i64 0] 131 (0, 0))) := (hb3.block S (lt_heap HS2.out)).trans HS2.out
    clear hb3 p0 p1 p2 p3 p4 q0 q1 q2 q3 q4
    go_upto_region 8 with fail
    have hqF := (alloc_old (w3.alloc (.cells #[.int .i64 fa, .int .i64 fb'] 117)) (.cells #[.int .i64 (-1), .int .i64 0, .int .i64 0] 131) (lt_heap (alloc_new w3 (.cells #[.int .i64 fa, .int .i64 fb'] 117)))).trans (alloc_new w3 (.cells #[.int .i64 fa, .int .i64 fb'] 117))
    have hqB := alloc_new (w3.alloc (.cells #[.int .i64 fa, .int .i64 fb'] 117)) (.cells #[.int .i64 (-1), .int .i64 0, .int .i64 0] 131)
    have hb1 := (below_al w3 (.cells #[.int .i64 fa, .int .i64 fb'] 117)).alloc (below_al w3 (.cells #[.int .i64 fa, .int .i64 fb'] 117)).size (.cells #[.int .i64 (-1), .int .i64 0, .int .i64 0] 131)
    rw [show (w3.alloc (.cells #[.int .i64 fa, .int .i64 fb'] 117)).heap.size = w3.heap.size + 1 from by simp only [World.size_alloc]] at hqB
    obtain ⟨w4, hw1⟩ : ∃ x, x = ((w3.alloc (.cells #[.int .i64 fa, .int .i64 fb'] 117)).alloc (.cells #[.int .i64 (-1), .int .i64 0, .int .i64 0] 131)) := ⟨_, rfl⟩
    rw [← hw1] at hqF hqB hb1 ⊢
    obtain ⟨F, hnF⟩ : ∃ x, x = w3.heap.size := ⟨_, rfl⟩
    obtain ⟨B, hnB⟩ : ∃ x, x = w3.heap.size + 1 := ⟨_, rfl⟩
    have HNE : Hid (w3.heap.size ≤ F ∧ w3.heap.size ≤ B ∧ F ≠ B) := ⟨by omega, by omega, by omega⟩
    rw [← hnF] at hqF
    rw [← hnB] at hqB
    rw [show (Value.pointer (some { block := w3.heap.size, off := 0 })) = Value.pointer (some { block := F, off := 0 }) by rw [hnF], show (Value.pointer (some { block := w3.heap.size + 1, off := 0 })) = Value.pointer (some { block := B, off := 0 }) by rw [hnB]]
    have HQF := hide' hqF
    have HQB := hide' hqB
    have HB1 := hide' hb1
    clear hqF hqB hb1 hw1 hnF hnB
    have HBW4 := hide' (HBW3.out.trans (HB1.out.mono HBW3.out.size))
    have HE4 := hide' (HE3.out.below HB1.out)
    have HP4 : Hid (w4.heap[P]? = some (.cells #[.slice al L cl, .slice ai H ci, .slice ap H cp, .slice ae L ce, .map (some M)] 88 (0, 0))) := (HB1.out.block P (lt_heap HP3.out)).trans HP3.out
    have HQ4 : Hid (w4.heap[Q]? = some (.cells #[.int .i64 h, .int .i64 s0, .int .i64 s1, .int .i64 s2, .int .i64 s3] 129 (0, 0))) := (HB1.out.block Q (lt_heap HQ3.out)).trans HQ3.out
    have HS4 : Hid (w4.heap[S]? = some (.cells #[.int .i64 0, .int .i64 0, .int .i64 0] 131 (0, 0))) := (HB1.out.block S (lt_heap HS3.out)).trans HS3.out
    have p0 : w4.cell? ⟨P, 0, none⟩ = some (.slice al L cl) := (cells_at HP4.out 0).trans rfl
    have p1 : w4.cell? ⟨P, 1, none⟩ = some (.slice ai H ci) := (cells_at HP4.out 1).trans rfl
    have f0 : w4.cell? ⟨F, 0, none⟩ = some (.int .i64 fa) := (cells_at HQF.out 0).trans rfl
    have f1 : w4.cell? ⟨F, 1, none⟩ = some (.int .i64 fb') := (cells_at HQF.out 1).trans rfl
    have HFR2 := hide' (HFR.out w4 HE4.out)
    go_wp2_with fail
    refine HFR2.out.mono ?_
    rintro e w5 ⟨rfl, hb5⟩
    have HCO := hide' (choices_any m0 m1 w5)
    have HBW5 := hide' (HBW4.out.trans (hb5.mono HBW4.out.size))
    have HE5 := hide' (HE4.out.below hb5)
    have HP5 : Hid (w5.heap[P]? = some (.cells #[.slice al L cl, .slice ai H ci, .slice ap H cp, .slice ae L ce, .map (some M)] 88 (0, 0))) := (hb5.block P (lt_heap HP4.out)).trans HP4.out
    have HQ5 : Hid (w5.heap[Q]? = some (.cells #[.int .i64 h, .int .i64 s0, .int .i64 s1, .int .i64 s2, .int .i64 s3] 129 (0, 0))) := (hb5.block Q (lt_heap HQ4.out)).trans HQ4.out
    have HS5 : Hid (w5.heap[S]? = some (.cells #[.int .i64 0, .int .i64 0, .int .i64 0] 131 (0, 0))) := (hb5.block S (lt_heap HS4.out)).trans HS4.out
    have HF5 : Hid (w5.heap[F]? = some (.cells #[.int .i64 fa, .int .i64 fb'] 117 (0, 0))) := (hb5.block F (lt_heap HQF.out)).trans HQF.out
    have HB5 : Hid (w5.heap[B]? = some (.cells #[.int .i64 (-1), .int .i64 0, .int .i64 0] 131 (0, 0))) := (hb5.block B (lt_heap HQB.out)).trans HQB.out
    clear hb5 p0 p1 f0 f1
    go_wp2_with fail
    refine HCO.out.mono ?_
    rintro e w6 ⟨rfl, hw6⟩
    have hb6 : Below w5.heap.size w5 w6 := by rw [hw6]; exact below_al w5 _
    have HC6 : Hid (w6.heap[w5.heap.size]? = some (.cells #[.int .i64 m0, .int .i64 m1] 117 (0, 0))) := by rw [hw6]; exact alloc_new w5 _
    obtain ⟨C, hC⟩ : ∃ x, x = w5.heap.size := ⟨_, rfl⟩
    rw [← hC] at HC6
    rw [show (Value.func (Fn.func 77) #[] #[Value.pointer (some { block := w5.heap.size, off := 0 })]) = Value.func (Fn.func 77) #[] #[Value.pointer (some { block := C, off := 0 })] by rw [hC]]
    have HBW6 := hide' (HBW5.out.trans (hb6.mono HBW5.out.size))
    have HE6 := hide' (HE5.out.below hb6)
    have HP6 : Hid (w6.heap[P]? = some (.cells #[.slice al L cl, .slice ai H ci, .slice ap H cp, .slice ae L ce, .map (some M)] 88 (0, 0))) := (hb6.block P (lt_heap HP5.out)).trans HP5.out
    have HQ6 : Hid (w6.heap[Q]? = some (.cells #[.int .i64 h, .int .i64 s0, .int .i64 s1, .int .i64 s2, .int .i64 s3] 129 (0, 0))) := (hb6.block Q (lt_heap HQ5.out)).trans HQ5.out
    have HS6 : Hid (w6.heap[S]? = some (.cells #[.int .i64 0, .int .i64 0, .int .i64 0] 131 (0, 0))) := (hb6.block S (lt_heap HS5.out)).trans HS5.out
    have HF6 : Hid (w6.heap[F]? = some (.cells #[.int .i64 fa, .int .i64 fb'] 117 (0, 0))) := (hb6.block F (lt_heap HF5.out)).trans HF5.out
    have HB6 : Hid (w6.heap[B]? = some (.cells #[.int .i64 (-1), .int .i64 0, .int .i64 0] 131 (0, 0))) := (hb6.block B (lt_heap HB5.out)).trans HB5.out
    have HCB : Hid (C ≠ B) := by have := lt_heap HB5.out; show C ≠ B; omega
    have HBS : Hid (W.heap.size ≤ B ∧ W.heap.size ≤ S ∧ B ≠ P ∧ B ≠ Q ∧ B ≠ F ∧ B ≠ S ∧ B ≠ M ∧ S ≠ M) := by
      have h1 := HBW3.out.size
      have h2 := HNE.out
      have h3 := lt_heap HP3.out
      have h4 := lt_heap HQ3.out
      have h5 := lt_heap HS3.out
      have h6 := HO1.out
      have h7 := HMW.out
      exact ⟨by omega, by omega, by omega, by omega, by omega, by omega, by omega, by omega⟩
    clear hw6 hb6 hC HP2 HQ2 HS2 HP3 HQ3 HS3 HP4 HQ4 HS4 HP5 HQ5 HS5 HF5 HB5 HQP HQQ HQS HQD HQF HQB HE1 HE2 HE3 HE4 HE5 HFI HFI2 HFR HFR2 HCO HBW1 HBW2 HBW3 HBW4 HBW5 HLK HB1 HNE HO1 HAG HCH HP HG
    go_wp2_with fail
    refine (wpIn_wide (n := 3)).1 ?_
    refine range_own (n := 3) (α := Pair2) rfl (by decide) (gf := 77) (lb := #[.pointer (some ⟨C, 0, none⟩)]) rfl trivial (enters_of Try.func77 (by kernel_rfl) rfl) (encs := choV) (Kp := KeptC B) (fin := choL m0 m1) (choices_own m0 m1 hm04 hm14 C B w6 (lt_heap HB6.out) HCB.out HC6.out) (fun h k => h.trans k) ?hKb (fun _ => rfl)
      (fun pre X => Hid (X.heap[B]? = some (.cells (bestC (bestF val pre)) 131 (0, 0))) ∧ Hid (X.heap[P]? = some (.cells #[.slice al L cl, .slice ai H ci, .slice ap H cp, .slice ae L ce, .map (some M)] 88 (0, 0)) ∧ X.heap[Q]? = some (.cells #[.int .i64 h, .int .i64 s0, .int .i64 s1, .int .i64 s2, .int .i64 s3] 129 (0, 0)) ∧ X.heap[F]? = some (.cells #[.int .i64 fa, .int .i64 fb'] 117 (0, 0)) ∧ X.heap[S]? = some (.cells #[.int .i64 0, .int .i64 0, .int .i64 0] 131 (0, 0))) ∧ Hid (But M W X ∧ w6.heap.size ≤ X.heap.size ∧ ∃ es clock, X.heap[M]? = some (.map es clock) ∧ Known ls L H ti pr en es.toList))
      ?hI ⟨HB6, ⟨HP6.out, HQ6.out, HF6.out, HS6.out⟩, But.of HBW6.out, Nat.le_refl _, HE6.out.known⟩
      (fun x a' X => ∃ G, a' = { tmps := #[.agg #[.slice al L cl, .slice ai H ci, .slice ap H cp, .slice ae L ce, .map (some M)], .agg #[.int .i64 h, .int .i64 s0, .int .i64 s1, .int .i64 s2, .int .i64 s3], .pointer (some ⟨P, 0, none⟩), .pointer (some ⟨Q, 0, none⟩), .pointer (some ⟨S, 0, none⟩), .pointer (some ⟨D, 0, none⟩), .bool false, .pointer (some ⟨F, 0, none⟩), .pointer (some ⟨B, 0, none⟩), .pointer (some ⟨G, 0, none⟩), undef, .pointer (some ⟨Q, 0, none⟩), .int .i64 (h : Int), .pointer (some ⟨P, 0, none⟩), .pointer (some ⟨P, 1, none⟩), .slice ai H ci, .int .i64 (H : Int), .bool false, undef, undef, undef, undef, undef, undef, .tuple #[.agg #[.int .i64 0, .int .i64 0, .int .i64 0], .bool false], .pointer (some ⟨P, 4, none⟩), .map (some M), .agg #[.int .i64 h, .int .i64 s0, .int .i64 s1, .int .i64 s2, .int .i64 s3], .tuple #[.agg #[.int .i64 0, .int .i64 0, .int .i64 0], .bool false], .agg #[.int .i64 0, .int .i64 0, .int .i64 0], .bool false, .bool false, undef, .pointer (some ⟨P, 0, none⟩), .agg #[.slice al L cl, .slice ai H ci], .pointer (some ⟨Q, 1, none⟩), .agg #[.int .i64 s0, .int .i64 s1, .int .i64 s2, .int .i64 s3], .pointer (some ⟨Q, 0, none⟩), .int .i64 (h : Int), .agg #[.int .i64 fa, .int .i64 fb'], .agg #[.int .i64 (-1), .int .i64 0, .int .i64 0], .pointer (some ⟨P, 0, none⟩), .agg #[.slice al L cl, .slice ai H ci], .agg #[.int .i64 fa, .int .i64 fb'], .agg #[.int .i64 (m0 : Int), .int .i64 (m1 : Int)], .func (.func 77) #[] #[.pointer (some ⟨C, 0, none⟩)], .agg #[.int .i64 x.a, .int .i64 x.b], undef, undef, undef, undef, undef, undef, undef, undef, undef, undef, undef, undef, undef, undef, undef, undef, undef, undef, undef, undef, undef, undef, undef, undef, undef, undef], defers := [] } ∧ w6.heap.size ≤ G ∧ X.heap[G]? = some (.cells #[.int .i64 x.a, .int .i64 x.b] 117 (0, 0)))
      ?hAx ?hassign ?hbody ?hdone
    case hKb =>
      intro X l ob o' hl hx hc
      refine ⟨by simp, fun k c e fz hk hkc => (World.putObj_heap_other (fun e1 => ?_)).trans hkc⟩
      subst e1
      rw [hkc] at hx
      cases hx
      cases hc
    case hI =>
      rintro pre X Y row ⟨h1, h2, h3⟩ hg hr
      have keep : ∀ k o, k < w6.heap.size → X.heap[k]? = some o → Y.heap[k]? = some o := fun k o hk ho => (hg.block k (lt_heap ho) (fun e => by have := hr k e.symm; omega)).trans ho
      obtain ⟨es, clock, hm, hkn⟩ := h3.out.2.2
      refine ⟨keep B _ (lt_heap HB6.out) h1.out, ⟨keep P _ (lt_heap HP6.out) h2.out.1, keep Q _ (lt_heap HQ6.out) h2.out.2.1, keep F _ (lt_heap HF6.out) h2.out.2.2.1, keep S _ (lt_heap HS6.out) h2.out.2.2.2⟩, h3.out.1.grown hg hr HBW6.out.size, Nat.le_trans h3.out.2.1 hg.size, es, clock, keep M _ (by have := HMW.out; have := HBW6.out.size; omega) hm, hkn⟩
    case hAx =>
      rintro x a' X l ob o' ⟨G, h1, h2, h3⟩ hl hx hc
      refine ⟨G, h1, h2, (World.putObj_heap_other (fun e1 => ?_)).trans h3⟩
      subst e1
      rw [h3] at hx
      cases hx
      cases hc
    case hassign =>
      intro l pre x X K hi hK
      unfold choV
      obtain ⟨ra, rb⟩ := x
      have hk1 : KeptC B X (X.alloc (.cells #[.int .i64 ra, .int .i64 rb] 117)) := ⟨by simp, fun k c e fz _ hk => (alloc_old X _ (lt_heap hk)).trans hk⟩
      have hk2 : KeepsFrom w6.heap.size X (X.alloc (.cells #[.int .i64 ra, .int .i64 rb] 117)) := (KeepsOthers.alloc X _).from _
      gi_wp2
      obtain ⟨h1, h2, h3⟩ := hi
      exact hK _ _ hk2 hk1 ⟨(alloc_old X _ (lt_heap h1.out)).trans h1.out, ⟨(alloc_old X _ (lt_heap h2.out.1)).trans h2.out.1, (alloc_old X _ (lt_heap h2.out.2.1)).trans h2.out.2.1, (alloc_old X _ (lt_heap h2.out.2.2.1)).trans h2.out.2.2.1, (alloc_old X _ (lt_heap h2.out.2.2.2)).trans h2.out.2.2.2⟩, h3.out.1.trans (But.of (below_al X _)), Nat.le_trans h3.out.2.1 (below_al X _).size, by
        obtain ⟨es, clock, hm, hkn⟩ := h3.out.2.2
        exact ⟨es, clock, (alloc_old X _ (lt_heap hm)).trans hm, hkn⟩⟩ ⟨X.heap.size, rfl, h3.out.2.1, alloc_new X _⟩
    case hbody =>
      rintro l pre x a' X ⟨h1, h2, h3⟩ ⟨G, rfl, hG, hGc⟩ hpre
      have hxm : x ∈ choL m0 m1 := hpre.subset (by simp)
      have hft := HFT.out x hxm
      have hvb := HVB.out x hxm
      have hvl := HVL.out x
      have HSN := hide' (bestF_snoc val pre x)
      have HEX : Hid (PEnv X ls L H ti pr en al ai ap ae cl ci cp ce M) := HE.out.but h3.out.1 h3.out.2.2
      have HCE : Hid (∀ Wz, Below X.heap.size X Wz → Calls Try.prog 74 #[.agg #[.slice al L cl, .slice ai H ci, .slice ap H cp, .slice ae L ce, .map (some M)], .int .i64 (h : Int), .agg #[.int .i64 x.a, .int .i64 x.b]] Wz fun e w' => e = .returned (.int .i64 (earnK ls (pr.getD h 0) x.a x.b L)) ∧ Below Wz.heap.size Wz w') := fun Wz hb => HEA.out x Wz hft (HEX.out.below hb)
      have HCA : Hid (∀ Wz, Below X.heap.size X Wz → Calls Try.prog 69 #[.agg #[.slice al L cl, .slice ai H ci, .slice ap H cp, .slice ae L ce, .map (some M)], .agg #[.int .i64 h, .int .i64 s0, .int .i64 s1, .int .i64 s2, .int .i64 s3], .agg #[.int .i64 fa, .int .i64 fb'], .agg #[.int .i64 x.a, .int .i64 x.b]] Wz fun e w' => e = .returned (momS (h + 1) (next2 ls L ⟨fa, fb'⟩ x)) ∧ Below Wz.heap.size Wz w') := fun Wz hb => HAF.out x Wz hft (HEX.out.below hb)
      have HCR : Hid (∀ Wz, Below X.heap.size X Wz → Calls Try.prog 68 #[.agg #[.slice al L cl, .slice ai H ci, .slice ap H cp, .slice ae L ce, .map (some M)], momS (h + 1) (next2 ls L ⟨fa, fb'⟩ x)] Wz fun e w' => e = .returned (outS (lookD ls L ti pr en d (h + 1) (next2 ls L ⟨fa, fb'⟩ x))) ∧ But M Wz w' ∧ PEnv w' ls L H ti pr en al ai ap ae cl ci cp ce M) := fun Wz hb => HRE.out x Wz hft (HEX.out.below hb)
      obtain ⟨ea, hea⟩ : ∃ v, v = earnK ls (pr.getD h 0) x.a x.b L := ⟨_, rfl⟩
      obtain ⟨mo, hmo⟩ : ∃ v, v = momS (h + 1) (next2 ls L ⟨fa, fb'⟩ x) := ⟨_, rfl⟩
      obtain ⟨lk, hlk⟩ : ∃ v, v = lookD ls L ti pr en d (h + 1) (next2 ls L ⟨fa, fb'⟩ x) := ⟨_, rfl⟩
      rw [← hea] at HCE hvb hvl
      rw [← hmo] at HCA HCR
      rw [← hlk] at HCR hvb hvl
      obtain ⟨lo, la, lb⟩ := lk
      rw [show outS (lo, ⟨la, lb⟩) = .agg #[.int .i64 lo, .int .i64 la, .int .i64 lb] from rfl] at HCR
      simp only at hvb hvl
      obtain ⟨ra, rb⟩ := x
      simp only at HCE HCA hvl
      obtain ⟨bo, hbo⟩ : ∃ o, o = bestF val pre := ⟨_, rfl⟩
      rw [← hbo] at h1 HSN
      obtain ⟨bx, ba, bb⟩ := bo
      rw [show bestC (bx, ⟨ba, bb⟩) = #[.int .i64 bx, .int .i64 ba, .int .i64 bb] from rfl] at h1
      simp only at HSN
      rw [hvl] at HSN
      clear hea hmo hlk hbo hvl hft hxm hpre
      have c0 : X.cell? ⟨P, 0, none⟩ = some (.slice al L cl) := (cells_at h2.out.1 0).trans rfl
      have c1 : X.cell? ⟨P, 1, none⟩ = some (.slice ai H ci) := (cells_at h2.out.1 1).trans rfl
      have c2 : X.cell? ⟨P, 2, none⟩ = some (.slice ap H cp) := (cells_at h2.out.1 2).trans rfl
      have c3 : X.cell? ⟨P, 3, none⟩ = some (.slice ae L ce) := (cells_at h2.out.1 3).trans rfl
      have c4 : X.cell? ⟨P, 4, none⟩ = some (.map (some M)) := (cells_at h2.out.1 4).trans rfl
      have c5 : X.cell? ⟨Q, 0, none⟩ = some (.int .i64 (h : Int)) := (cells_at h2.out.2.1 0).trans rfl
      have c6 : X.cell? ⟨Q, 1, none⟩ = some (.int .i64 (s0)) := (cells_at h2.out.2.1 1).trans rfl
      have c7 : X.cell? ⟨Q, 2, none⟩ = some (.int .i64 (s1)) := (cells_at h2.out.2.1 2).trans rfl
      have c8 : X.cell? ⟨Q, 3, none⟩ = some (.int .i64 (s2)) := (cells_at h2.out.2.1 3).trans rfl
      have c9 : X.cell? ⟨Q, 4, none⟩ = some (.int .i64 (s3)) := (cells_at h2.out.2.1 4).trans rfl
      have c10 : X.cell? ⟨F, 0, none⟩ = some (.int .i64 fa) := (cells_at h2.out.2.2.1 0).trans rfl
      have c11 : X.cell? ⟨F, 1, none⟩ = some (.int .i64 fb') := (cells_at h2.out.2.2.1 1).trans rfl
      have c12 : X.cell? ⟨G, 0, none⟩ = some (.int .i64 ra) := (cells_at hGc 0).trans rfl
      have c13 : X.cell? ⟨G, 1, none⟩ = some (.int .i64 rb) := (cells_at hGc 1).trans rfl
      have HSZ : Hid (∀ Wz, Below X.heap.size X Wz → Wz.cell? ⟨P, 0, none⟩ = some (.slice al L cl) ∧ Wz.cell? ⟨P, 1, none⟩ = some (.slice ai H ci) ∧ Wz.cell? ⟨P, 2, none⟩ = some (.slice ap H cp) ∧ Wz.cell? ⟨P, 3, none⟩ = some (.slice ae L ce) ∧ Wz.cell? ⟨P, 4, none⟩ = some (.map (some M)) ∧ Wz.cell? ⟨Q, 0, none⟩ = some (.int .i64 (h : Int)) ∧ Wz.cell? ⟨Q, 1, none⟩ = some (.int .i64 (s0)) ∧ Wz.cell? ⟨Q, 2, none⟩ = some (.int .i64 (s1)) ∧ Wz.cell? ⟨Q, 3, none⟩ = some (.int .i64 (s2)) ∧ Wz.cell? ⟨Q, 4, none⟩ = some (.int .i64 (s3)) ∧ Wz.cell? ⟨F, 0, none⟩ = some (.int .i64 fa) ∧ Wz.cell? ⟨F, 1, none⟩ = some (.int .i64 fb') ∧ Wz.cell? ⟨G, 0, none⟩ = some (.int .i64 ra) ∧ Wz.cell? ⟨G, 1, none⟩ = some (.int .i64 rb)) := fun Wz hb => ⟨up_cell hb c0, up_cell hb c1, up_cell hb c2, up_cell hb c3, up_cell hb c4, up_cell hb c5, up_cell hb c6, up_cell hb c7, up_cell hb c8, up_cell hb c9, up_cell hb c10, up_cell hb c11, up_cell hb c12, up_cell hb c13⟩
      have hwv : IntKind.i64.wrap (ea + lo) = ea + lo := wrap_ok (by omega)
      have hwv2 : wrap64 (ea + lo) = ea + lo := by unfold wrap64; omega
      have HX1 := hide' h1.out
      clear c0 c1 c2 c3 c4 c5 c6 c7 c8 c9 c10 c11 c12 c13 hvb
      gi_wp2_with fail
      refine wpIn_region_U (fun Wz => Wz.cell? ⟨P, 0, none⟩ = some (.slice al L cl) ∧ Wz.cell? ⟨P, 1, none⟩ = some (.slice ai H ci) ∧ Wz.cell? ⟨P, 2, none⟩ = some (.slice ap H cp) ∧ Wz.cell? ⟨P, 3, none⟩ = some (.slice ae L ce) ∧ Wz.cell? ⟨P, 4, none⟩ = some (.map (some M)) ∧ Wz.cell? ⟨Q, 0, none⟩ = some (.int .i64 (h : Int)) ∧ Wz.cell? ⟨Q, 1, none⟩ = some (.int .i64 (s0)) ∧ Wz.cell? ⟨Q, 2, none⟩ = some (.int .i64 (s1)) ∧ Wz.cell? ⟨Q, 3, none⟩ = some (.int .i64 (s2)) ∧ Wz.cell? ⟨Q, 4, none⟩ = some (.int .i64 (s3)) ∧ Wz.cell? ⟨F, 0, none⟩ = some (.int .i64 fa) ∧ Wz.cell? ⟨F, 1, none⟩ = some (.int .i64 fb') ∧ Wz.cell? ⟨G, 0, none⟩ = some (.int .i64 ra) ∧ Wz.cell? ⟨G, 1, none⟩ = some (.int .i64 rb)) 11 (by kernel_rfl) ?_
      refine wpAnyU_letter (fun Wz => Below X.heap.size X Wz) (Below.refl _ X).drew ?_
      rintro z hbz
      refine wpAnyU_takeAt 0 (some 47) (v := ?_) (by kernel_rfl) rfl (by kernel_rfl) (by kernel_rfl) (by kernel_rfl) (by kernel_rfl) (by kernel_rfl) (fun _ _ _ h => h) (by exact HSZ.out z hbz) (fun o hop w => by injection hop with hop; subst hop; rfl) (fun o hop => ?_) ?_
      rotate_left
      · injection hop with hop
        subst hop
        refine ⟨rfl, fun Wz hWz => ?_⟩
        obtain ⟨e0, e1, e2, e3, e4, e5, e6, e7, e8, e9, e10, e11, e12, e13⟩ := hWz
        go_simp
        first
        | done
        | rfl
      try simp only [Act.put, List.setIfInBounds_toArray, List.set_cons_zero, List.set_cons_succ]
      refine wpAnyU_takeAt 1 (some 48) (v := ?_) (by kernel_rfl) rfl (by kernel_rfl) (by kernel_rfl) (by kernel_rfl) (by kernel_rfl) (by kernel_rfl) (fun _ _ _ h => h) (by exact HSZ.out z hbz) (fun o hop w => by injection hop with hop; subst hop; rfl) (fun o hop => ?_) ?_
      rotate_left
      · injection hop with hop
        subst hop
        refine ⟨rfl, fun Wz hWz => ?_⟩
        obtain ⟨e0, e1, e2, e3, e4, e5, e6, e7, e8, e9, e10, e11, e12, e13⟩ := hWz
        go_simp
        first
        | done
        | rfl
      try simp only [Act.put, List.setIfInBounds_toArray, List.set_cons_zero, List.set_cons_succ]
      refine wpAnyU_takeAt 2 (some 49) (v := ?_) (by kernel_rfl) rfl (by kernel_rfl) (by kernel_rfl) (by kernel_rfl) (by kernel_rfl) (by kernel_rfl) (fun _ _ _ h => h) (by exact HSZ.out z hbz) (fun o hop w => by injection hop with hop; subst hop; rfl) (fun o hop => ?_) ?_
      rotate_left
      · injection hop with hop
        subst hop
        refine ⟨rfl, fun Wz hWz => ?_⟩
        obtain ⟨e0, e1, e2, e3, e4, e5, e6, e7, e8, e9, e10, e11, e12, e13⟩ := hWz
        go_simp
        first
        | done
        | rfl
      try simp only [Act.put, List.setIfInBounds_toArray, List.set_cons_zero, List.set_cons_succ]
      refine wpAnyU_takeAt 3 (some 50) (v := ?_) (by kernel_rfl) rfl (by kernel_rfl) (by kernel_rfl) (by kernel_rfl) (by kernel_rfl) (by kernel_rfl) (fun _ _ _ h => h) (by exact HSZ.out z hbz) (fun o hop w => by injection hop with hop; subst hop; rfl) (fun o hop => ?_) ?_
      rotate_left
      · injection hop with hop
        subst hop
        refine ⟨rfl, fun Wz hWz => ?_⟩
        obtain ⟨e0, e1, e2, e3, e4, e5, e6, e7, e8, e9, e10, e11, e12, e13⟩ := hWz
        go_simp
        first
        | done
        | rfl
      try simp only [Act.put, List.setIfInBounds_toArray, List.set_cons_zero, List.set_cons_succ]
      refine wpAnyU_takeAt 5 (some 52) (v := ?_) (by kernel_rfl) rfl (by kernel_rfl) (by kernel_rfl) (by kernel_rfl) (by kernel_rfl) (by kernel_rfl) (fun _ _ _ h => h) (by exact HSZ.out z hbz) (fun o hop w => by injection hop with hop; subst hop; rfl) (fun o hop => ?_) ?_
      rotate_left
      · injection hop with hop
        subst hop
        refine ⟨rfl, fun Wz hWz => ?_⟩
        obtain ⟨e0, e1, e2, e3, e4, e5, e6, e7, e8, e9, e10, e11, e12, e13⟩ := hWz
        go_simp
        first
        | done
        | rfl
      try simp only [Act.put, List.setIfInBounds_toArray, List.set_cons_zero, List.set_cons_succ]
      refine wpAnyU_takeAt 6 (some 53) (v := ?_) (by kernel_rfl) rfl (by kernel_rfl) (by kernel_rfl) (by kernel_rfl) (by kernel_rfl) (by kernel_rfl) (fun _ _ _ h => h) (by exact HSZ.out z hbz) (fun o hop w => by injection hop with hop; subst hop; rfl) (fun o hop => ?_) ?_
      rotate_left
      · injection hop with hop
        subst hop
        refine ⟨rfl, fun Wz hWz => ?_⟩
        obtain ⟨e0, e1, e2, e3, e4, e5, e6, e7, e8, e9, e10, e11, e12, e13⟩ := hWz
        go_simp
        first
        | done
        | rfl
      try simp only [Act.put, List.setIfInBounds_toArray, List.set_cons_zero, List.set_cons_succ]
      refine wpAnyU_takeAt 7 (some 54) (v := ?_) (by kernel_rfl) rfl (by kernel_rfl) (by kernel_rfl) (by kernel_rfl) (by kernel_rfl) (by kernel_rfl) (fun _ _ _ h => h) (by exact HSZ.out z hbz) (fun o hop w => by injection hop with hop; subst hop; rfl) (fun o hop => ?_) ?_
      rotate_left
      · injection hop with hop
        subst hop
        refine ⟨rfl, fun Wz hWz => ?_⟩
        obtain ⟨e0, e1, e2, e3, e4, e5, e6, e7, e8, e9, e10, e11, e12, e13⟩ := hWz
        go_simp
        first
        | done
        | rfl
      try simp only [Act.put, List.setIfInBounds_toArray, List.set_cons_zero, List.set_cons_succ]
      refine wpAnyU_takeAt 8 (some 55) (v := ?_) (by kernel_rfl) rfl (by kernel_rfl) (by kernel_rfl) (by kernel_rfl) (by kernel_rfl) (by kernel_rfl) (fun _ _ _ h => h) (by exact HSZ.out z hbz) (fun o hop w => by injection hop with hop; subst hop; rfl) (fun o hop => ?_) ?_
      rotate_left
      · injection hop with hop
        subst hop
        refine ⟨rfl, fun Wz hWz => ?_⟩
        obtain ⟨e0, e1, e2, e3, e4, e5, e6, e7, e8, e9, e10, e11, e12, e13⟩ := hWz
        go_simp
        first
        | done
        | rfl
      try simp only [Act.put, List.setIfInBounds_toArray, List.set_cons_zero, List.set_cons_succ]
      refine wpAnyU_takeAt 9 (some 56) (v := ?_) (by kernel_rfl) rfl (by kernel_rfl) (by kernel_rfl) (by kernel_rfl) (by kernel_rfl) (by kernel_rfl) (fun _ _ _ h => h) (by exact HSZ.out z hbz) (fun o hop w => by injection hop with hop; subst hop; rfl) (fun o hop => ?_) ?_
      rotate_left
      · injection hop with hop
        subst hop
        refine ⟨rfl, fun Wz hWz => ?_⟩
        obtain ⟨e0, e1, e2, e3, e4, e5, e6, e7, e8, e9, e10, e11, e12, e13⟩ := hWz
        go_simp
        first
        | done
        | rfl
      try simp only [Act.put, List.setIfInBounds_toArray, List.set_cons_zero, List.set_cons_succ]
      refine wpAnyU_one (i := 4) (by kernel_rfl) rfl rfl (fun K' hK => ?_)
      go_simp
      gi_at_call 74
      refine (CallsIn.inRound l ((callsIn_wide (n := _)).2 (HCE.out z hbz))).mono ?_
      rintro e z1 ⟨rfl, hb1⟩
      replace hbz := hbz.trans (hb1.mono hbz.size)
      clear hb1
      refine hK.out _ _ (fun _ _ => by exact HSZ.out z1 hbz) ?_
      clear hK K'
      refine wpAnyU_one (i := 10) (by kernel_rfl) rfl rfl (fun K' hK => ?_)
      go_simp
      gi_at_call 69
      refine (CallsIn.inRound l ((callsIn_wide (n := _)).2 (HCA.out z1 hbz))).mono ?_
      rintro e z2 ⟨rfl, hb2⟩
      replace hbz := hbz.trans (hb2.mono hbz.size)
      clear hb2
      refine hK.out _ _ (fun _ _ => by exact HSZ.out z2 hbz) ?_
      clear hK K'
      refine wpAnyU_one (i := 11) (by kernel_rfl) rfl rfl (fun K' hK => ?_)
      go_simp
      gi_at_call 68
      refine (CallsIn.inRound l ((callsIn_wide (n := _)).2 (HCR.out z2 hbz))).mono ?_
      rintro e z3 ⟨rfl, hbt3, hen3⟩
      have HBT : Hid (But M X z3) := (But.of hbz).trans hbt3
      have HEN := hide' hen3
      clear hbt3 hen3 hbz
      refine hK.out _ _ (fun h => absurd rfl h) ?_
      clear hK K'
      have hf0 := fun w => field90 lo la lb w
      refine wpAnyU_one (i := 12) (by kernel_rfl) rfl rfl (fun K' hK => ?_)
      go_simp
      refine hK.out _ _ (fun _ h => by cases h) ?_
      clear hK K'
      refine wpAnyU_one (i := 13) (by kernel_rfl) rfl rfl (fun K' hK => ?_)
      go_simp
      refine hK.out _ _ (fun _ h => by cases h) ?_
      clear hK K'
      refine wpAnyU_one (i := 14) (by kernel_rfl) rfl rfl (fun K' hK => ?_)
      go_simp
      refine hK.out _ _ (fun _ h => by cases h) ?_
      clear hK K'
      refine wpAnyU_done (by kernel_rfl) ?_ _
      clear hf0
      obtain ⟨es, clock, hm3, hkn3⟩ := HEN.out.known
      obtain ⟨esx, clx, hmx, _⟩ := HEX.out.known
      have keep : ∀ k o, k ≠ M → X.heap[k]? = some o → z3.heap[k]? = some o := fun k o hk ho => (HBT.out.block k (lt_heap ho) hk).trans ho
      have hzB := keep B _ HBS.out.2.2.2.2.2.2.1 HX1.out
      have hne4 : P ≠ M ∧ Q ≠ M ∧ F ≠ M ∧ S ≠ M := by
        refine ⟨fun e => ?_, fun e => ?_, fun e => ?_, fun e => ?_⟩
        · rw [e, hmx] at h2; cases h2.out.1
        · have := h2.out.2.1; rw [e, hmx] at this; cases this
        · have := h2.out.2.2.1; rw [e, hmx] at this; cases this
        · have := h2.out.2.2.2; rw [e, hmx] at this; cases this
      have HZ : Hid (z3.heap[P]? = some (.cells #[.slice al L cl, .slice ai H ci, .slice ap H cp, .slice ae L ce, .map (some M)] 88 (0, 0)) ∧ z3.heap[Q]? = some (.cells #[.int .i64 h, .int .i64 s0, .int .i64 s1, .int .i64 s2, .int .i64 s3] 129 (0, 0)) ∧ z3.heap[F]? = some (.cells #[.int .i64 fa, .int .i64 fb'] 117 (0, 0)) ∧ z3.heap[S]? = some (.cells #[.int .i64 0, .int .i64 0, .int .i64 0] 131 (0, 0))) := ⟨keep P _ hne4.1 h2.out.1, keep Q _ hne4.2.1 h2.out.2.1, keep F _ hne4.2.2.1 h2.out.2.2.1, keep S _ hne4.2.2.2 h2.out.2.2.2⟩
      have HK3 : Hid (KeepsFrom w6.heap.size X z3 ∧ KeptC B X z3) := ⟨HBT.out.from (by have := HMW.out; have := HBW6.out.size; omega), HBT.out.keptC hmx⟩
      have HW3 : Hid (But M W z3 ∧ w6.heap.size ≤ z3.heap.size ∧ ∃ es clock, z3.heap[M]? = some (.map es clock) ∧ Known ls L H ti pr en es.toList) := ⟨h3.out.1.trans HBT.out, Nat.le_trans h3.out.2.1 HBT.out.size, es, clock, hm3, hkn3⟩
      have HZB := hide' hzB
      have b0 : z3.cell? ⟨B, 0, none⟩ = some (.int .i64 bx) := (cells_at hzB 0).trans rfl
      have b1 : z3.cell? ⟨B, 1, none⟩ = some (.int .i64 ba) := (cells_at hzB 1).trans rfl
      have b2 : z3.cell? ⟨B, 2, none⟩ = some (.int .i64 bb) := (cells_at hzB 2).trans rfl
      have y0 := frozen_no hzB 0
      have y1 := frozen_no hzB 1
      have y2 := frozen_no hzB 2
      have g0 : z3.cell? ⟨G, 0, none⟩ = some (.int .i64 ra) := (cells_at (keep G _ (by have := HMW.out; have := HBW6.out.size; omega) hGc) 0).trans rfl
      have g1 : z3.cell? ⟨G, 1, none⟩ = some (.int .i64 rb) := (cells_at (keep G _ (by have := HMW.out; have := HBW6.out.size; omega) hGc) 1).trans rfl
      have hGB : G ≠ B := by have := lt_heap HB6.out; omega
      clear hm3 hkn3 hmx keep hzB hne4 h2 h3 hGc HEN HEX HX1 h1
      by_cases hlt : bx < ea + lo
      · have HN : Hid (bestF val (pre ++ [⟨ra, rb⟩]) = (ea + lo, ⟨ra, rb⟩)) := by rw [HSN.out, if_pos hlt]; exact rfl
        have HST := hide' (set_three HZB.out (.int .i64 (ea + lo)) (.int .i64 ra) (.int .i64 rb))
        have hs : ∀ k (X' : World) v0 v1 v2, k ≠ B → (((X'.setCell ⟨B, 0, none⟩ v0).setCell ⟨B, 1, none⟩ v1).setCell ⟨B, 2, none⟩ v2).heap[k]? = X'.heap[k]? := fun k X' v0 v1 v2 hk => by
          rw [Below.heap_setCell _ _ _ k hk, Below.heap_setCell _ _ _ k hk, Below.heap_setCell _ _ _ k hk]
        have HS4 := hide' hs
        clear hs
        gi_wp2_with fail
        have hsz : (((z3.setCell ⟨B, 0, none⟩ (.int .i64 (ea + lo))).setCell ⟨B, 1, none⟩ (.int .i64 ra)).setCell ⟨B, 2, none⟩ (.int .i64 rb)).heap.size = z3.heap.size := by rw [World.size_setCell, World.size_setCell, World.size_setCell]
        have hb6 := lt_heap HB6.out
        refine ⟨HK3.out.1.trans ⟨by rw [hsz]; exact Nat.le_refl _, fun k o hk ho _ => (HS4.out k z3 _ _ _ (by omega)).trans ho⟩, HK3.out.2.trans ⟨by rw [hsz]; exact Nat.le_refl _, fun k c e fz hk hkc => (HS4.out k z3 _ _ _ hk).trans hkc⟩, ?_, ?_, ?_⟩
        · rw [HN.out]
          exact HST
        · exact ⟨(HS4.out P z3 _ _ _ HBS.out.2.2.1.symm).trans HZ.out.1, (HS4.out Q z3 _ _ _ HBS.out.2.2.2.1.symm).trans HZ.out.2.1, (HS4.out F z3 _ _ _ HBS.out.2.2.2.2.1.symm).trans HZ.out.2.2.1, (HS4.out S z3 _ _ _ HBS.out.2.2.2.2.2.1.symm).trans HZ.out.2.2.2⟩
        · obtain ⟨k1, k2, es, clock, hm, hkn⟩ := HW3.out
          refine ⟨((k1.setOut HBS.out.1 _).setOut HBS.out.1 _).setOut HBS.out.1 _, by rw [hsz]; exact k2, ?_⟩
          have hm2 := (HS4.out M z3 (.int .i64 (ea + lo)) (.int .i64 ra) (.int .i64 rb) HBS.out.2.2.2.2.2.2.1.symm).trans hm
          first
          | exact ⟨es, clock, hm2, hkn⟩
          | exact ⟨es, ⟨clock, hm2⟩, hkn⟩
      · have HN : Hid (bestF val (pre ++ [⟨ra, rb⟩]) = (bx, ⟨ba, bb⟩)) := by rw [HSN.out, if_neg hlt]; exact rfl
        gi_wp2_with fail
        obtain ⟨k1, k2, es, clock, hm, hkn⟩ := HW3.out
        refine ⟨HK3.out.1, HK3.out.2, by rw [HN.out]; exact HZB, ?_⟩
        exact ⟨k1, k2, es, ⟨clock, hm⟩, hkn⟩
    case hdone =>
      rintro D' X hD ⟨h1, h2, h3⟩ hDf
      rw [← HBE.out, show bestC (ox, ⟨oa, ob⟩) = #[.int .i64 ox, .int .i64 oa, .int .i64 ob] from rfl] at h1
      obtain ⟨hbt, hsz6, es, clock, hm, hkn⟩ := h3.out
      obtain ⟨es', cl', hrun, hkn'⟩ := HPU.out X es clock hm hkn
      have hbY := But.put hm (.map es' cl')
      have hyM : (setBlock X M (.map es' cl')).heap[M]? = some (.map es' cl') := heap_setBlock_same hm _
      have hyB := (hbY.block B (lt_heap h1.out) HBS.out.2.2.2.2.2.2.1).trans h1.out
      have hyS := (hbY.block S (lt_heap h2.out.2.2.2) HBS.out.2.2.2.2.2.2.2).trans h2.out.2.2.2
      have hDM : D' ≠ M := by have := HMW.out; have := HBW6.out.size; omega
      have hDS : D' ≠ S := by have := lt_heap HS6.out; omega
      have hyD := (hbY.block D' (lt_heap hDf) hDM).trans hDf
      have p0 : X.cell? ⟨P, 0, none⟩ = some (.slice al L cl) := (cells_at h2.out.1 0).trans rfl
      have p1 : X.cell? ⟨P, 1, none⟩ = some (.slice ai H ci) := (cells_at h2.out.1 1).trans rfl
      have p2 : X.cell? ⟨P, 2, none⟩ = some (.slice ap H cp) := (cells_at h2.out.1 2).trans rfl
      have p3 : X.cell? ⟨P, 3, none⟩ = some (.slice ae L ce) := (cells_at h2.out.1 3).trans rfl
      have p4 : X.cell? ⟨P, 4, none⟩ = some (.map (some M)) := (cells_at h2.out.1 4).trans rfl
      have q0 : X.cell? ⟨Q, 0, none⟩ = some (.int .i64 (h : Int)) := (cells_at h2.out.2.1 0).trans rfl
      have q1 : X.cell? ⟨Q, 1, none⟩ = some (.int .i64 s0) := (cells_at h2.out.2.1 1).trans rfl
      have q2 : X.cell? ⟨Q, 2, none⟩ = some (.int .i64 s1) := (cells_at h2.out.2.1 2).trans rfl
      have q3 : X.cell? ⟨Q, 3, none⟩ = some (.int .i64 s2) := (cells_at h2.out.2.1 3).trans rfl
      have q4 : X.cell? ⟨Q, 4, none⟩ = some (.int .i64 s3) := (cells_at h2.out.2.1 4).trans rfl
      have b0 : X.cell? ⟨B, 0, none⟩ = some (.int .i64 ox) := (cells_at h1.out 0).trans rfl
      have b1 : X.cell? ⟨B, 1, none⟩ = some (.int .i64 oa) := (cells_at h1.out 1).trans rfl
      have b2 : X.cell? ⟨B, 2, none⟩ = some (.int .i64 ob) := (cells_at h1.out 2).trans rfl
      have n0 : (setBlock X M (.map es' cl')).cell? ⟨B, 0, none⟩ = some (.int .i64 ox) := (cells_at hyB 0).trans rfl
      have n1 : (setBlock X M (.map es' cl')).cell? ⟨B, 1, none⟩ = some (.int .i64 oa) := (cells_at hyB 1).trans rfl
      have n2 : (setBlock X M (.map es' cl')).cell? ⟨B, 2, none⟩ = some (.int .i64 ob) := (cells_at hyB 2).trans rfl
      have z0 : (setBlock X M (.map es' cl')).cell? ⟨S, 0, none⟩ = some (.int .i64 0) := (cells_at hyS 0).trans rfl
      have z1 : (setBlock X M (.map es' cl')).cell? ⟨S, 1, none⟩ = some (.int .i64 0) := (cells_at hyS 1).trans rfl
      have z2 : (setBlock X M (.map es' cl')).cell? ⟨S, 2, none⟩ = some (.int .i64 0) := (cells_at hyS 2).trans rfl
      have t0 := frozen_no hyS 0
      have t1 := frozen_no hyS 1
      have t2 := frozen_no hyS 2
      have HST := hide' (set_three hyS (.int .i64 ox) (.int .i64 oa) (.int .i64 ob))
      have hs : ∀ k (X' : World) v0 v1 v2, k ≠ S → (((X'.setCell ⟨S, 0, none⟩ v0).setCell ⟨S, 1, none⟩ v1).setCell ⟨S, 2, none⟩ v2).heap[k]? = X'.heap[k]? := fun k X' v0 v1 v2 hk => by
        rw [Below.heap_setCell _ _ _ k hk, Below.heap_setCell _ _ _ k hk, Below.heap_setCell _ _ _ k hk]
      have HFD : Hid ((((((setBlock X M (.map es' cl')).setCell ⟨S, 0, none⟩ (.int .i64 ox)).setCell ⟨S, 1, none⟩ (.int .i64 oa)).setCell ⟨S, 2, none⟩ (.int .i64 ob)).heap[D']? = some (.deferred (some [])))) := (hs D' _ _ _ _ hDS).trans hyD
      have HFM : Hid ((((((setBlock X M (.map es' cl')).setCell ⟨S, 0, none⟩ (.int .i64 ox)).setCell ⟨S, 1, none⟩ (.int .i64 oa)).setCell ⟨S, 2, none⟩ (.int .i64 ob)).heap[M]? = some (.map es' cl'))) := (hs M _ _ _ _ HBS.out.2.2.2.2.2.2.2.symm).trans hyM
      have HFB : Hid (But M W ((((setBlock X M (.map es' cl')).setCell ⟨S, 0, none⟩ (.int .i64 ox)).setCell ⟨S, 1, none⟩ (.int .i64 oa)).setCell ⟨S, 2, none⟩ (.int .i64 ob))) := (((hbt.trans hbY).setOut HBS.out.2.1 _).setOut HBS.out.2.1 _).setOut HBS.out.2.1 _
      have HKN := hide' hkn'
      have HDD : Hid (w6.heap.size ≤ D') := hD
      have HDS := hide' (And.intro hDS hDM)
      clear hm hkn hbt hsz6 hbY hyM hyB hyS hyD hs hkn' hDf h1 h2 h3 hD hDS hDM
      go_wp2_with fail
      refine leaves_marks [D'] _ ⟨by simp, fun d hd => by rw [List.mem_singleton.1 hd]; exact HFD.out⟩ ?_
      intro W' g1 g2 g3 g4 g5
      have hSD : S ∉ [D'] := fun hm => HDS.out.1 (List.mem_singleton.1 hm).symm
      have hMD : M ∉ [D'] := fun hm => HDS.out.2 (List.mem_singleton.1 hm).symm
      have hbw : But M W W' := ⟨g2.trans HFB.out.os, g3.trans HFB.out.tape, g4.trans HFB.out.output, by rw [← g1]; exact HFB.out.size, fun k hk hkm => (g5 k (fun hm => by rw [List.mem_singleton.1 hm] at hk; have := HDD.out; have := HBW6.out.size; omega)).trans (HFB.out.block k hk hkm)⟩
      exact ⟨_, results_cell_row rfl _ _ S 131 _ (0, 0) _ rfl ((g5 S hSD).trans HST.out) Try.underlying131 rfl (by kernel_rfl), rfl, hbw, HE.out.but hbw ⟨es', cl', (g5 M hMD).trans HFM.out, HKN.out⟩⟩
end Go.Proofs.Ytnhddmcdmcpkeaj
