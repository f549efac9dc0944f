/- drain. -/
import Derived.Test.YtnhddmcdmcpkeajW4
namespace Go.Proofs.Ytnhddmcdmcpkeaj
open Go.RowKit Go.Shelf

def levOf (k : LakeM) (a r : Int) : Int := if k.most < a - r then k.most else a - r
def spOf (k : LakeM) (a r : Int) : Int := a - r - levOf k a r
def drainS (ls : List LakeM) (a0 a1 r0 r1 : Int) (L k : Nat) : Array Value := #[.int .i64 (if 0 < k then levOf (lkD ls 0) a0 r0 else 0), .int .i64 (if 1 < k then levOf (lkD ls 1) a1 r1 else 0), .int .i64 0, .int .i64 (if 0 < k ∧ L = 2 then r0 + spOf (lkD ls 0) a0 r0 else 0)]
def drainV (ls : List LakeM) (a0 a1 r0 r1 : Int) (k : Nat) : Array Value := #[.int .i64 (if 0 < k then spOf (lkD ls 0) a0 r0 else 0), .int .i64 (if 1 < k then spOf (lkD ls 1) a1 r1 else 0)]
theorem results_two {P : Program} {fn : Func} {p q : Tmp} {ty ty2 : TypeId} (h : fn.results = #[.cell p ty, .cell q ty2]) (tmps : Array Value) (w : World) (g g2 : Nat) (t t2 : TypeId) (cs cs2 : Array Value) (fr fr2 : Nat × Nat) (d d2 : TypeDesc)
    (hp : tmps.getD p undef = .pointer (some ⟨g, 0, none⟩)) (hg : w.heap[g]? = some (.cells cs t fr)) (hq : tmps.getD q undef = .pointer (some ⟨g2, 0, none⟩)) (hg2 : w.heap[g2]? = some (.cells cs2 t2 fr2))
    (hu : P.underlying ty = some d) (hd : (match d with | .struct _ | .array _ _ => true | _ => false) = true) (hi : (P.info? ty).map (·.size) = some cs.size)
    (hu2 : P.underlying ty2 = some d2) (hd2 : (match d2 with | .struct _ | .array _ _ => true | _ => false) = true) (hi2 : (P.info? ty2).map (·.size) = some cs2.size) :
    (results fn tmps).run P w = .ok (.tuple #[.agg cs, .agg cs2]) w := by
  have hp' : tmps[p]?.getD undef = .pointer (some ⟨g, 0, none⟩) := by simpa using hp
  have hq' : tmps[q]?.getD undef = .pointer (some ⟨g2, 0, none⟩) := by simpa using hq
  simp [results, h, hp', hq', asAddr, run_loadVar_row w g t ty cs fr d hg hu hd hi, run_loadVar_row w g2 t2 ty2 cs2 fr2 d2 hg2 hu2 hd2 hi2]
set_option maxRecDepth 100000 in
set_option maxHeartbeats 4000000 in
theorem drain_any (ls : List LakeM) (hok : ∀ k ∈ ls, LakeOk k) (al : Option Addr) (L cl : Nat) (vi : Value) (a0 a1 r0 r1 : Int) (w : World) (hx : RowAt w (.slice al L cl) ls.length 5 (ls.flatMap LakeM.cells)) (hl : ls.length = L) (hL : L ≤ 2) (ha : -1000 ≤ a0 ∧ a0 ≤ 1000 ∧ -1000 ≤ a1 ∧ a1 ≤ 1000) (hr : -1000 ≤ r0 ∧ r0 ≤ 1000 ∧ -1000 ≤ r1 ∧ r1 ≤ 1000) :
    Calls Try.prog 65 #[.agg #[.slice al L cl, vi], .agg #[.int .i64 a0, .int .i64 a1], .agg #[.int .i64 r0, .int .i64 r1]] w fun e w' => e = .returned (.tuple #[.agg (drainS ls a0 a1 r0 r1 L L), .agg (drainV ls a0 a1 r0 r1 L)]) ∧ Below w.heap.size w w' := by
  have HX := hide' hx
  have HL := hide' hl
  have HOK := hide' hok
  clear hx hl hok
  go_enter Try.func65, Try.ntmps65
  go_upto_region 1 with fail
  have hqB := (alloc_old ((((w.alloc (.cells #[.slice al L cl, vi] 75)).alloc (.cells #[.int .i64 a0, .int .i64 a1] 117)).alloc (.cells #[.int .i64 r0, .int .i64 r1] 117)).alloc (.cells #[.int .i64 0, .int .i64 0, .int .i64 0, .int .i64 0] 119)) (.cells #[.int .i64 0, .int .i64 0] 117) (lt_heap ((alloc_old (((w.alloc (.cells #[.slice al L cl, vi] 75)).alloc (.cells #[.int .i64 a0, .int .i64 a1] 117)).alloc (.cells #[.int .i64 r0, .int .i64 r1] 117)) (.cells #[.int .i64 0, .int .i64 0, .int .i64 0, .int .i64 0] 119) (lt_heap ((alloc_old ((w.alloc (.cells #[.slice al L cl, vi] 75)).alloc (.cells #[.int .i64 a0, .int .i64 a1] 117)) (.cells #[.int .i64 r0, .int .i64 r1] 117) (lt_heap ((alloc_old (w.alloc (.cells #[.slice al L cl, vi] 75)) (.cells #[.int .i64 a0, .int .i64 a1] 117) (lt_heap (alloc_new w (.cells #[.slice al L cl, vi] 75)))).trans (alloc_new w (.cells #[.slice al L cl, vi] 75))))).trans ((alloc_old (w.alloc (.cells #[.slice al L cl, vi] 75)) (.cells #[.int .i64 a0, .int .i64 a1] 117) (lt_heap (alloc_new w (.cells #[.slice al L cl, vi] 75)))).trans (alloc_new w (.cells #[.slice al L cl, vi] 75)))))).trans ((alloc_old ((w.alloc (.cells #[.slice al L cl, vi] 75)).alloc (.cells #[.int .i64 a0, .int .i64 a1] 117)) (.cells #[.int .i64 r0, .int .i64 r1] 117) (lt_heap ((alloc_old (w.alloc (.cells #[.slice al L cl, vi] 75)) (.cells #[.int .i64 a0, .int .i64 a1] 117) (lt_heap (alloc_new w (.cells #[.slice al L cl, vi] 75)))).trans (alloc_new w (.cells #[.slice al L cl, vi] 75))))).trans ((alloc_old (w.alloc (.cells #[.slice al L cl, vi] 75)) (.cells #[.int .i64 a0, .int .i64 a1] 117) (lt_heap (alloc_new w (.cells #[.slice al L cl, vi] 75)))).trans (alloc_new w (.cells #[.slice al L cl, vi] 75))))))).trans ((alloc_old (((w.alloc (.cells #[.slice al L cl, vi] 75)).alloc (.cells #[.int .i64 a0, .int .i64 a1] 117)).alloc (.cells #[.int .i64 r0, .int .i64 r1] 117)) (.cells #[.int .i64 0, .int .i64 0, .int .i64 0, .int .i64 0] 119) (lt_heap ((alloc_old ((w.alloc (.cells #[.slice al L cl, vi] 75)).alloc (.cells #[.int .i64 a0, .int .i64 a1] 117)) (.cells #[.int .i64 r0, .int .i64 r1] 117) (lt_heap ((alloc_old (w.alloc (.cells #[.slice al L cl, vi] 75)) (.cells #[.int .i64 a0, .int .i64 a1] 117) (lt_heap (alloc_new w (.cells #[.slice al L cl, vi] 75)))).trans (alloc_new w (.cells #[.slice al L cl, vi] 75))))).trans ((alloc_old (w.alloc (.cells #[.slice al L cl, vi] 75)) (.cells #[.int .i64 a0, .int .i64 a1] 117) (lt_heap (alloc_new w (.cells #[.slice al L cl, vi] 75)))).trans (alloc_new w (.cells #[.slice al L cl, vi] 75)))))).trans ((alloc_old ((w.alloc (.cells #[.slice al L cl, vi] 75)).alloc (.cells #[.int .i64 a0, .int .i64 a1] 117)) (.cells #[.int .i64 r0, .int .i64 r1] 117) (lt_heap ((alloc_old (w.alloc (.cells #[.slice al L cl, vi] 75)) (.cells #[.int .i64 a0, .int .i64 a1] 117) (lt_heap (alloc_new w (.cells #[.slice al L cl, vi] 75)))).trans (alloc_new w (.cells #[.slice al L cl, vi] 75))))).trans ((alloc_old (w.alloc (.cells #[.slice al L cl, vi] 75)) (.cells #[.int .i64 a0, .int .i64 a1] 117) (lt_heap (alloc_new w (.cells #[.slice al L cl, vi] 75)))).trans (alloc_new w (.cells #[.slice al L cl, vi] 75)))))
  have hqF := (alloc_old ((((w.alloc (.cells #[.slice al L cl, vi] 75)).alloc (.cells #[.int .i64 a0, .int .i64 a1] 117)).alloc (.cells #[.int .i64 r0, .int .i64 r1] 117)).alloc (.cells #[.int .i64 0, .int .i64 0, .int .i64 0, .int .i64 0] 119)) (.cells #[.int .i64 0, .int .i64 0] 117) (lt_heap ((alloc_old (((w.alloc (.cells #[.slice al L cl, vi] 75)).alloc (.cells #[.int .i64 a0, .int .i64 a1] 117)).alloc (.cells #[.int .i64 r0, .int .i64 r1] 117)) (.cells #[.int .i64 0, .int .i64 0, .int .i64 0, .int .i64 0] 119) (lt_heap ((alloc_old ((w.alloc (.cells #[.slice al L cl, vi] 75)).alloc (.cells #[.int .i64 a0, .int .i64 a1] 117)) (.cells #[.int .i64 r0, .int .i64 r1] 117) (lt_heap (alloc_new (w.alloc (.cells #[.slice al L cl, vi] 75)) (.cells #[.int .i64 a0, .int .i64 a1] 117)))).trans (alloc_new (w.alloc (.cells #[.slice al L cl, vi] 75)) (.cells #[.int .i64 a0, .int .i64 a1] 117))))).trans ((alloc_old ((w.alloc (.cells #[.slice al L cl, vi] 75)).alloc (.cells #[.int .i64 a0, .int .i64 a1] 117)) (.cells #[.int .i64 r0, .int .i64 r1] 117) (lt_heap (alloc_new (w.alloc (.cells #[.slice al L cl, vi] 75)) (.cells #[.int .i64 a0, .int .i64 a1] 117)))).trans (alloc_new (w.alloc (.cells #[.slice al L cl, vi] 75)) (.cells #[.int .i64 a0, .int .i64 a1] 117)))))).trans ((alloc_old (((w.alloc (.cells #[.slice al L cl, vi] 75)).alloc (.cells #[.int .i64 a0, .int .i64 a1] 117)).alloc (.cells #[.int .i64 r0, .int .i64 r1] 117)) (.cells #[.int .i64 0, .int .i64 0, .int .i64 0, .int .i64 0] 119) (lt_heap ((alloc_old ((w.alloc (.cells #[.slice al L cl, vi] 75)).alloc (.cells #[.int .i64 a0, .int .i64 a1] 117)) (.cells #[.int .i64 r0, .int .i64 r1] 117) (lt_heap (alloc_new (w.alloc (.cells #[.slice al L cl, vi] 75)) (.cells #[.int .i64 a0, .int .i64 a1] 117)))).trans (alloc_new (w.alloc (.cells #[.slice al L cl, vi] 75)) (.cells #[.int .i64 a0, .int .i64 a1] 117))))).trans ((alloc_old ((w.alloc (.cells #[.slice al L cl, vi] 75)).alloc (.cells #[.int .i64 a0, .int .i64 a1] 117)) (.cells #[.int .i64 r0, .int .i64 r1] 117) (lt_heap (alloc_new (w.alloc (.cells #[.slice al L cl, vi] 75)) (.cells #[.int .i64 a0, .int .i64 a1] 117)))).trans (alloc_new (w.alloc (.cells #[.slice al L cl, vi] 75)) (.cells #[.int .i64 a0, .int .i64 a1] 117))))
  have hqQ := (alloc_old ((((w.alloc (.cells #[.slice al L cl, vi] 75)).alloc (.cells #[.int .i64 a0, .int .i64 a1] 117)).alloc (.cells #[.int .i64 r0, .int .i64 r1] 117)).alloc (.cells #[.int .i64 0, .int .i64 0, .int .i64 0, .int .i64 0] 119)) (.cells #[.int .i64 0, .int .i64 0] 117) (lt_heap ((alloc_old (((w.alloc (.cells #[.slice al L cl, vi] 75)).alloc (.cells #[.int .i64 a0, .int .i64 a1] 117)).alloc (.cells #[.int .i64 r0, .int .i64 r1] 117)) (.cells #[.int .i64 0, .int .i64 0, .int .i64 0, .int .i64 0] 119) (lt_heap (alloc_new ((w.alloc (.cells #[.slice al L cl, vi] 75)).alloc (.cells #[.int .i64 a0, .int .i64 a1] 117)) (.cells #[.int .i64 r0, .int .i64 r1] 117)))).trans (alloc_new ((w.alloc (.cells #[.slice al L cl, vi] 75)).alloc (.cells #[.int .i64 a0, .int .i64 a1] 117)) (.cells #[.int .i64 r0, .int .i64 r1] 117))))).trans ((alloc_old (((w.alloc (.cells #[.slice al L cl, vi] 75)).alloc (.cells #[.int .i64 a0, .int .i64 a1] 117)).alloc (.cells #[.int .i64 r0, .int .i64 r1] 117)) (.cells #[.int .i64 0, .int .i64 0, .int .i64 0, .int .i64 0] 119) (lt_heap (alloc_new ((w.alloc (.cells #[.slice al L cl, vi] 75)).alloc (.cells #[.int .i64 a0, .int .i64 a1] 117)) (.cells #[.int .i64 r0, .int .i64 r1] 117)))).trans (alloc_new ((w.alloc (.cells #[.slice al L cl, vi] 75)).alloc (.cells #[.int .i64 a0, .int .i64 a1] 117)) (.cells #[.int .i64 r0, .int .i64 r1] 117)))
  have hqS := (alloc_old ((((w.alloc (.cells #[.slice al L cl, vi] 75)).alloc (.cells #[.int .i64 a0, .int .i64 a1] 117)).alloc (.cells #[.int .i64 r0, .int .i64 r1] 117)).alloc (.cells #[.int .i64 0, .int .i64 0, .int .i64 0, .int .i64 0] 119)) (.cells #[.int .i64 0, .int .i64 0] 117) (lt_heap (alloc_new (((w.alloc (.cells #[.slice al L cl, vi] 75)).alloc (.cells #[.int .i64 a0, .int .i64 a1] 117)).alloc (.cells #[.int .i64 r0, .int .i64 r1] 117)) (.cells #[.int .i64 0, .int .i64 0, .int .i64 0, .int .i64 0] 119)))).trans (alloc_new (((w.alloc (.cells #[.slice al L cl, vi] 75)).alloc (.cells #[.int .i64 a0, .int .i64 a1] 117)).alloc (.cells #[.int .i64 r0, .int .i64 r1] 117)) (.cells #[.int .i64 0, .int .i64 0, .int .i64 0, .int .i64 0] 119))
  have hqV := alloc_new ((((w.alloc (.cells #[.slice al L cl, vi] 75)).alloc (.cells #[.int .i64 a0, .int .i64 a1] 117)).alloc (.cells #[.int .i64 r0, .int .i64 r1] 117)).alloc (.cells #[.int .i64 0, .int .i64 0, .int .i64 0, .int .i64 0] 119)) (.cells #[.int .i64 0, .int .i64 0] 117)
  have hb1 := ((((below_al w (.cells #[.slice al L cl, vi] 75)).alloc (below_al w (.cells #[.slice al L cl, vi] 75)).size (.cells #[.int .i64 a0, .int .i64 a1] 117)).alloc ((below_al w (.cells #[.slice al L cl, vi] 75)).alloc (below_al w (.cells #[.slice al L cl, vi] 75)).size (.cells #[.int .i64 a0, .int .i64 a1] 117)).size (.cells #[.int .i64 r0, .int .i64 r1] 117)).alloc (((below_al w (.cells #[.slice al L cl, vi] 75)).alloc (below_al w (.cells #[.slice al L cl, vi] 75)).size (.cells #[.int .i64 a0, .int .i64 a1] 117)).alloc ((below_al w (.cells #[.slice al L cl, vi] 75)).alloc (below_al w (.cells #[.slice al L cl, vi] 75)).size (.cells #[.int .i64 a0, .int .i64 a1] 117)).size (.cells #[.int .i64 r0, .int .i64 r1] 117)).size (.cells #[.int .i64 0, .int .i64 0, .int .i64 0, .int .i64 0] 119)).alloc ((((below_al w (.cells #[.slice al L cl, vi] 75)).alloc (below_al w (.cells #[.slice al L cl, vi] 75)).size (.cells #[.int .i64 a0, .int .i64 a1] 117)).alloc ((below_al w (.cells #[.slice al L cl, vi] 75)).alloc (below_al w (.cells #[.slice al L cl, vi] 75)).size (.cells #[.int .i64 a0, .int .i64 a1] 117)).size (.cells #[.int .i64 r0, .int .i64 r1] 117)).alloc (((below_al w (.cells #[.slice al L cl, vi] 75)).alloc (below_al w (.cells #[.slice al L cl, vi] 75)).size (.cells #[.int .i64 a0, .int .i64 a1] 117)).alloc ((below_al w (.cells #[.slice al L cl, vi] 75)).alloc (below_al w (.cells #[.slice al L cl, vi] 75)).size (.cells #[.int .i64 a0, .int .i64 a1] 117)).size (.cells #[.int .i64 r0, .int .i64 r1] 117)).size (.cells #[.int .i64 0, .int .i64 0, .int .i64 0, .int .i64 0] 119)).size (.cells #[.int .i64 0, .int .i64 0] 117)
  rw [show (w.alloc (.cells #[.slice al L cl, vi] 75)).heap.size = w.heap.size + 1 from by simp only [World.size_alloc]] at hqF
  rw [show ((w.alloc (.cells #[.slice al L cl, vi] 75)).alloc (.cells #[.int .i64 a0, .int .i64 a1] 117)).heap.size = w.heap.size + 1 + 1 from by simp only [World.size_alloc]] at hqQ
  rw [show (((w.alloc (.cells #[.slice al L cl, vi] 75)).alloc (.cells #[.int .i64 a0, .int .i64 a1] 117)).alloc (.cells #[.int .i64 r0, .int .i64 r1] 117)).heap.size = w.heap.size + 1 + 1 + 1 from by simp only [World.size_alloc]] at hqS
  rw [show ((((w.alloc (.cells #[.slice al L cl, vi] 75)).alloc (.cells #[.int .i64 a0, .int .i64 a1] 117)).alloc (.cells #[.int .i64 r0, .int .i64 r1] 117)).alloc (.cells #[.int .i64 0, .int .i64 0, .int .i64 0, .int .i64 0] 119)).heap.size = w.heap.size + 1 + 1 + 1 + 1 from by simp only [World.size_alloc]] at hqV
  obtain ⟨w1, hw1⟩ : ∃ x, x = (((((w.alloc (.cells #[.slice al L cl, vi] 75)).alloc (.cells #[.int .i64 a0, .int .i64 a1] 117)).alloc (.cells #[.int .i64 r0, .int .i64 r1] 117)).alloc (.cells #[.int .i64 0, .int .i64 0, .int .i64 0, .int .i64 0] 119)).alloc (.cells #[.int .i64 0, .int .i64 0] 117)) := ⟨_, rfl⟩
  rw [← hw1] at hqB hqF hqQ hqS hqV hb1 ⊢
  obtain ⟨B, hnB⟩ : ∃ x, x = w.heap.size := ⟨_, rfl⟩
  obtain ⟨F, hnF⟩ : ∃ x, x = w.heap.size + 1 := ⟨_, rfl⟩
  obtain ⟨Q, hnQ⟩ : ∃ x, x = w.heap.size + 1 + 1 := ⟨_, rfl⟩
  obtain ⟨S, hnS⟩ : ∃ x, x = w.heap.size + 1 + 1 + 1 := ⟨_, rfl⟩
  obtain ⟨V, hnV⟩ : ∃ x, x = w.heap.size + 1 + 1 + 1 + 1 := ⟨_, rfl⟩
  have HNE : Hid (w.heap.size ≤ B ∧ w.heap.size ≤ F ∧ w.heap.size ≤ Q ∧ w.heap.size ≤ S ∧ w.heap.size ≤ V ∧ B ≠ F ∧ B ≠ Q ∧ B ≠ S ∧ B ≠ V ∧ F ≠ Q ∧ F ≠ S ∧ F ≠ V ∧ Q ≠ S ∧ Q ≠ V ∧ S ≠ V) := ⟨by omega, by omega, by omega, by omega, by omega, by omega, by omega, by omega, by omega, by omega, by omega, by omega, by omega, by omega, by omega⟩
  rw [← hnB] at hqB
  rw [← hnF] at hqF
  rw [← hnQ] at hqQ
  rw [← hnS] at hqS
  rw [← hnV] at hqV
  rw [show (Value.pointer (some { block := w.heap.size, off := 0 })) = Value.pointer (some { block := B, off := 0 }) by rw [hnB], show (Value.pointer (some { block := w.heap.size + 1, off := 0 })) = Value.pointer (some { block := F, off := 0 }) by rw [hnF], show (Value.pointer (some { block := w.heap.size + 1 + 1, off := 0 })) = Value.pointer (some { block := Q, off := 0 }) by rw [hnQ], show (Value.pointer (some { block := w.heap.size + 1 + 1 + 1, off := 0 })) = Value.pointer (some { block := S, off := 0 }) by rw [hnS], show (Value.pointer (some { block := w.heap.size + 1 + 1 + 1 + 1, off := 0 })) = Value.pointer (some { block := V, off := 0 }) by rw [hnV]]
  have HQB := hide' hqB
  have HQF := hide' hqF
  have HQQ := hide' hqQ
  have HQS := hide' hqS
  have HQV := hide' hqV
  have HB1 := hide' hb1
  clear hqB hqF hqQ hqS hqV hb1 hw1 hnB hnF hnQ hnS hnV
  obtain ⟨x1, x2, x3, x4, x5, x6, x7, x8, x9, x10, x11, x12, x13, x14, x15⟩ := HNE.out
  have HNB : Hid (B ∉ [S, V]) := by show ¬ _; simp; omega
  have HNF : Hid (F ∉ [S, V]) := by show ¬ _; simp; omega
  have HNQ : Hid (Q ∉ [S, V]) := by show ¬ _; simp; omega
  have HSVN : Hid (S ≠ V) := x15
  have HGE : Hid (w.heap.size ≤ S ∧ w.heap.size ≤ V) := ⟨x4, x5⟩
  clear x1 x2 x3 x4 x5 x6 x7 x8 x9 x10 x11 x12 x13 x14 x15 HNE
  have y0 : w1.cell? ⟨B, 0, none⟩ = some (.slice al L cl) := (cells_at HQB.out 0).trans rfl
  go_wp2_with fail
  clear y0
  go_loopw [14] (fun i wr => ∃ (k : Nat), i = .int .i64 k ∧ k ≤ L ∧ Hid (Bt [S, V] w1 wr ∧ wr.heap[S]? = some (.cells (drainS ls a0 a1 r0 r1 L k) 119 (0, 0)) ∧ wr.heap[V]? = some (.cells (drainV ls a0 a1 r0 r1 k) 117 (0, 0)))) (fun i _ => L - (intOf i).toNat)
  case atStart => exact ⟨0, rfl, Nat.zero_le _, Bt.refl _ _, HQS.out, HQV.out⟩
  case round =>
    obtain ⟨k, rfl, hk, HW⟩ := hrel
    obtain ⟨p0, p1, p2, p3, hA⟩ : ∃ p0 p1 p2 p3 : Int, drainS ls a0 a1 r0 r1 L k = #[.int .i64 p0, .int .i64 p1, .int .i64 p2, .int .i64 p3] := ⟨_, _, _, _, rfl⟩
    obtain ⟨v0, v1, hB⟩ : ∃ v0 v1 : Int, drainV ls a0 a1 r0 r1 k = #[.int .i64 v0, .int .i64 v1] := ⟨_, _, rfl⟩
    have HVS := hide' hA.symm
    have HVV := hide' hB.symm
    rw [hA, hB] at HW
    clear hA hB
    by_cases hlt : k < L
    · obtain ⟨lb, lo, rfl, hlb, c0, c1, c2, c3, c4⟩ := lake_cells HX.out (k := k) (by rw [HL.out]; exact hlt)
      have hn : lb ∉ [S, V] := by have := HGE.out; simp; omega
      replace c0 := HW.out.1.cell (up_cell HB1.out c0) hn
      replace c1 := HW.out.1.cell (up_cell HB1.out c1) hn
      replace c2 := HW.out.1.cell (up_cell HB1.out c2) hn
      replace c3 := HW.out.1.cell (up_cell HB1.out c3) hn
      replace c4 := HW.out.1.cell (up_cell HB1.out c4) hn
      have hk2 : k = 0 ∨ k = 1 := by omega
      clear hn hlb
      rcases hk2 with rfl | rfl
      · simp only [Nat.zero_mul, Nat.add_zero] at c0 c1 c2 c3 c4
        have HNX : Hid (∀ lev sp : Int, levOf (lkD ls 0) a0 r0 = lev → spOf (lkD ls 0) a0 r0 = sp → ∀ x3 : Int, ((L = 2 ∧ x3 = r0 + sp) ∨ (L = 1 ∧ x3 = p3)) → some (Obj.cells #[.int .i64 lev, .int .i64 p1, .int .i64 p2, .int .i64 x3] 119 (0, 0)) = some (Obj.cells (drainS ls a0 a1 r0 r1 L 1) 119 (0, 0))) := fun lev sp e1 e2 x3 h => by
          have hq := HVS.out
          unfold drainS at hq ⊢
          simp only [Array.mk.injEq, List.cons.injEq, Value.int.injEq, true_and, Nat.lt_irrefl, if_false, false_and] at hq
          obtain ⟨_, q1, q2, q3, _⟩ := hq
          rw [e1, e2, q1, q2]
          rcases h with ⟨h1, h2⟩ | ⟨h1, h2⟩
          · rw [h2, h1]; rfl
          · rw [h2, h1, q3]; rfl
        have HNV : Hid (∀ sp : Int, spOf (lkD ls 0) a0 r0 = sp → some (Obj.cells #[.int .i64 sp, .int .i64 v1] 117 (0, 0)) = some (Obj.cells (drainV ls a0 a1 r0 r1 1) 117 (0, 0))) := fun sp e => by
          have hq := HVV.out
          unfold drainV at hq ⊢
          simp only [Array.mk.injEq, List.cons.injEq, Value.int.injEq, true_and, Nat.lt_irrefl, if_false] at hq
          obtain ⟨_, q1, _⟩ := hq
          rw [e, q1]; rfl
        have ok := lkD_ok HOK.out (i := 0) (by rw [HL.out]; exact hlt)
        obtain ⟨left, hleft⟩ : ∃ x, x = a0 - r0 := ⟨_, rfl⟩
        obtain ⟨mo, hmo⟩ : ∃ x, x = (lkD ls 0).most := ⟨_, rfl⟩
        obtain ⟨lev, hlev⟩ : ∃ x : Int, x = (if mo < left then mo else left) := ⟨_, rfl⟩
        have hlb1 : -5000 ≤ lev ∧ lev ≤ 5000 := by have := ok.l; have := ok.s; have := ok.m; have := ok.x; rw [hlev]; split <;> omega
        have hw2 : IntKind.i64.wrap (left - lev) = left - lev := Go.IntWalk.i64_in _ (by omega)
        have hw3 : IntKind.i64.wrap (r0 + (left - lev)) = r0 + (left - lev) := Go.IntWalk.i64_in _ (by omega)
        have HLV : Hid (levOf (lkD ls 0) a0 r0 = lev) := by show _ = _; rw [hlev, hmo, hleft]; rfl
        have HSP : Hid (spOf (lkD ls 0) a0 r0 = left - lev) := by show _ = _; rw [hlev, hmo, hleft]; rfl
        have HLE := hide' hleft
        go_upto_region 4 with fail
        have hqk := alloc_new wr (.cells #[.int .i64 (lkD ls 0).least, .int .i64 (lkD ls 0).most, .int .i64 (lkD ls 0).start, .int .i64 (lkD ls 0).turb, .int .i64 (lkD ls 0).worth] 71)
        have HZ : Hid (Bt [S, V] w1 (wr.alloc (.cells #[.int .i64 (lkD ls 0).least, .int .i64 (lkD ls 0).most, .int .i64 (lkD ls 0).start, .int .i64 (lkD ls 0).turb, .int .i64 (lkD ls 0).worth] 71)) ∧ (wr.alloc (.cells #[.int .i64 (lkD ls 0).least, .int .i64 (lkD ls 0).most, .int .i64 (lkD ls 0).start, .int .i64 (lkD ls 0).turb, .int .i64 (lkD ls 0).worth] 71)).heap[S]? = some (.cells #[.int .i64 p0, .int .i64 p1, .int .i64 p2, .int .i64 p3] 119 (0, 0)) ∧ (wr.alloc (.cells #[.int .i64 (lkD ls 0).least, .int .i64 (lkD ls 0).most, .int .i64 (lkD ls 0).start, .int .i64 (lkD ls 0).turb, .int .i64 (lkD ls 0).worth] 71)).heap[V]? = some (.cells #[.int .i64 v0, .int .i64 v1] 117 (0, 0))) := ⟨HW.out.1.al _, (alloc_old wr _ (lt_heap HW.out.2.1)).trans HW.out.2.1, (alloc_old wr _ (lt_heap HW.out.2.2)).trans HW.out.2.2⟩
        obtain ⟨z, hz⟩ : ∃ x, x = wr.alloc (.cells #[.int .i64 (lkD ls 0).least, .int .i64 (lkD ls 0).most, .int .i64 (lkD ls 0).start, .int .i64 (lkD ls 0).turb, .int .i64 (lkD ls 0).worth] 71) := ⟨_, rfl⟩
        rw [← hz] at hqk HZ ⊢
        obtain ⟨K, hK⟩ : ∃ x, x = wr.heap.size := ⟨_, rfl⟩
        have HKN : Hid (K ≠ S ∧ K ≠ V) := ⟨by have := lt_heap HW.out.2.1; omega, by have := lt_heap HW.out.2.2; omega⟩
        rw [← hK] at hqk
        rw [show (Value.pointer (some { block := wr.heap.size, off := 0 })) = Value.pointer (some { block := K, off := 0 }) by rw [hK]]
        rw [← hmo] at hqk
        have HK1 : Hid (∀ m, (z.drewN m).cell? ⟨K, 1, none⟩ = some (.int .i64 mo)) := fun m => (cells_at (w := z.drewN m) hqk 1).trans rfl
        have e1 : z.cell? ⟨F, 0, none⟩ = some (.int .i64 a0) := (cells_at (HZ.out.1.keep HQF.out HNF.out) 0).trans rfl
        have e2 : z.cell? ⟨Q, 0, none⟩ = some (.int .i64 r0) := (cells_at (HZ.out.1.keep HQQ.out HNQ.out) 0).trans rfl
        have HWD : Hid (∀ m, Bt [S, V] w1 (z.drewN m) ∧ (z.drewN m).heap[S]? = some (.cells #[.int .i64 p0, .int .i64 p1, .int .i64 p2, .int .i64 p3] 119 (0, 0)) ∧ (z.drewN m).heap[V]? = some (.cells #[.int .i64 v0, .int .i64 v1] 117 (0, 0))) := fun m => ⟨HZ.out.1.drewN m, HZ.out.2⟩
        simp only [← hmo]
        clear ok hqk hz hK hmo HW c0 c1 c2 c3 c4 HZ hleft
        go_cut [10] from 19 to 25 (fun p wc => p = .int .i64 left ∧ ∃ m, wc = z.drewN m)
        case first =>
          go_quiet (fail)
          go_wp2_with fail
          go_meet
          case rel => exact ⟨congrArg (Value.int .i64) HLE.out.symm, _, rfl⟩
        case rest =>
          obtain ⟨rfl, m, hwc⟩ := hcut
          have HD := hide' (HWD.out m)
          have km : wc.cell? ⟨K, 1, none⟩ = some (.int .i64 mo) := by rw [hwc]; exact HK1.out m
          rw [← hwc] at HD
          have s0 : wc.cell? ⟨S, 0, none⟩ = some (.int .i64 p0) := (cells_at HD.out.2.1 0).trans rfl
          have t0 := frozen_no HD.out.2.1 0
          have u0 : ∀ x, (wc.setCell ⟨S, 0, none⟩ x).cell? ⟨V, 0, none⟩ = some (.int .i64 v0) := fun x => (cells_at ((Below.heap_setCell _ _ _ V (fun e => HSVN.out e.symm)).trans HD.out.2.2) 0).trans rfl
          have f0 : ∀ x, (wc.setCell ⟨S, 0, none⟩ x).frozen? ⟨V, 0, none⟩ = false := fun x => frozen_no ((Below.heap_setCell _ _ _ V (fun e => HSVN.out e.symm)).trans HD.out.2.2) 0
          have HDS : Hid (∀ x y, Bt [S, V] w1 ((wc.setCell ⟨S, 0, none⟩ x).setCell ⟨V, 0, none⟩ y) ∧ ((wc.setCell ⟨S, 0, none⟩ x).setCell ⟨V, 0, none⟩ y).heap[S]? = some (.cells (#[.int .i64 p0, .int .i64 p1, .int .i64 p2, .int .i64 p3].setIfInBounds 0 x) 119 (0, 0)) ∧ ((wc.setCell ⟨S, 0, none⟩ x).setCell ⟨V, 0, none⟩ y).heap[V]? = some (.cells (#[.int .i64 v0, .int .i64 v1].setIfInBounds 0 y) 117 (0, 0))) := fun x y => ⟨(HD.out.1.set (List.mem_cons_self ..) _ _).set (List.mem_cons_of_mem _ (List.mem_cons_self ..)) _ _, (Below.heap_setCell _ _ _ S HSVN.out).trans (set_any HD.out.2.1 0 x), set_any ((Below.heap_setCell _ _ _ V (fun e => HSVN.out e.symm)).trans HD.out.2.2) 0 y⟩
          have hlv2 : (if mo < left then mo else left) = lev := hlev.symm
          clear hlev hwc HWD HK1
          have b0 : ∀ x y, ((wc.setCell ⟨S, 0, none⟩ x).setCell ⟨V, 0, none⟩ y).cell? ⟨B, 0, none⟩ = some (.slice (some ⟨lb, lo, none⟩) L cl) := fun x y => (cells_at ((HDS.out x y).1.keep HQB.out HNB.out) 0).trans rfl
          by_cases h2 : L = 2
          · subst h2
            go_upto_region 8 with fail
            have HE := hide' (HDS.out (.int .i64 lev) (.int .i64 (left - lev)))
            obtain ⟨zz, hzz⟩ : ∃ x, x = (wc.setCell ⟨S, 0, none⟩ (.int .i64 lev)).setCell ⟨V, 0, none⟩ (.int .i64 (left - lev)) := ⟨_, rfl⟩
            rw [← hzz] at HE ⊢
            clear hzz HDS b0 s0 t0 u0 f0 km HD
            refine wp_region_tail (fun W => W.cell? ⟨Q, 0, none⟩ = some (.int .i64 r0) ∧ W.cell? ⟨V, 0, none⟩ = some (.int .i64 (left - lev))) 11 (by kernel_rfl) ?_
            refine wpAnyT_letter (fun W => Bt [S, V] w1 W ∧ W.heap[S]? = some (.cells #[.int .i64 lev, .int .i64 p1, .int .i64 p2, .int .i64 p3] 119 (0, 0)) ∧ W.heap[V]? = some (.cells #[.int .i64 (left - lev), .int .i64 v1] 117 (0, 0))) ⟨HE.out.1.drew, HE.out.2⟩ ?_
            clear HE zz
            rintro zz ⟨hbt, hzs, hzv⟩
            have k0 : zz.cell? ⟨Q, 0, none⟩ = some (.int .i64 r0) := (cells_at (hbt.keep HQQ.out HNQ.out) 0).trans rfl
            have k1 : zz.cell? ⟨V, 0, none⟩ = some (.int .i64 (left - lev)) := (cells_at hzv 0).trans rfl
            refine wpAnyD_takeAt 0 (some 47) (v := ?_) rfl (by kernel_rfl) (by kernel_rfl) (by kernel_rfl) (by kernel_rfl) (by kernel_rfl) (fun _ _ _ h => h) (by exact ⟨k0, k1⟩) (fun o hop => ?_) ?_
            rotate_left
            · injection hop with hop
              subst hop
              refine ⟨rfl, fun W hW => ?_⟩
              obtain ⟨s0, s1⟩ := hW
              go_simp
              first
              | rfl
              | (constructor <;> rfl)
              | rw [if_neg (by omega)]
            try simp only [Act.put, List.setIfInBounds_toArray, List.set_cons_zero, List.set_cons_succ]
            refine wpAnyD_takeAt 1 (some 48) (v := ?_) rfl (by kernel_rfl) (by kernel_rfl) (by kernel_rfl) (by kernel_rfl) (by kernel_rfl) (fun _ _ _ h => h) (by exact ⟨k0, k1⟩) (fun o hop => ?_) ?_
            rotate_left
            · injection hop with hop
              subst hop
              refine ⟨rfl, fun W hW => ?_⟩
              obtain ⟨s0, s1⟩ := hW
              go_simp
              first
              | rfl
              | (constructor <;> rfl)
              | rw [if_neg (by omega)]
            try simp only [Act.put, List.setIfInBounds_toArray, List.set_cons_zero, List.set_cons_succ]
            refine wpAnyD_takeAt 2 (some 49) (v := ?_) rfl (by kernel_rfl) (by kernel_rfl) (by kernel_rfl) (by kernel_rfl) (by kernel_rfl) (fun _ _ _ h => h) (by exact ⟨k0, k1⟩) (fun o hop => ?_) ?_
            rotate_left
            · injection hop with hop
              subst hop
              refine ⟨rfl, fun W hW => ?_⟩
              obtain ⟨s0, s1⟩ := hW
              go_simp
              first
              | rfl
              | (constructor <;> rfl)
              | rw [if_neg (by omega)]
            try simp only [Act.put, List.setIfInBounds_toArray, List.set_cons_zero, List.set_cons_succ]
            refine wpAnyD_takeAt 3 (some 50) (v := ?_) rfl (by kernel_rfl) (by kernel_rfl) (by kernel_rfl) (by kernel_rfl) (by kernel_rfl) (fun _ _ _ h => h) (by exact ⟨k0, k1⟩) (fun o hop => ?_) ?_
            rotate_left
            · injection hop with hop
              subst hop
              refine ⟨rfl, fun W hW => ?_⟩
              obtain ⟨s0, s1⟩ := hW
              go_simp
              first
              | rfl
              | (constructor <;> rfl)
              | rw [if_neg (by omega)]
            try simp only [Act.put, List.setIfInBounds_toArray, List.set_cons_zero, List.set_cons_succ]
            refine wpAnyD_takeAt 4 (some 51) (v := ?_) rfl (by kernel_rfl) (by kernel_rfl) (by kernel_rfl) (by kernel_rfl) (by kernel_rfl) (fun _ _ _ h => h) (by exact ⟨k0, k1⟩) (fun o hop => ?_) ?_
            rotate_left
            · injection hop with hop
              subst hop
              refine ⟨rfl, fun W hW => ?_⟩
              obtain ⟨s0, s1⟩ := hW
              go_simp
              first
              | rfl
              | (constructor <;> rfl)
              | rw [if_neg (by omega)]
            try simp only [Act.put, List.setIfInBounds_toArray, List.set_cons_zero, List.set_cons_succ]
            refine wpAnyD_takeAt 5 (some 52) (v := ?_) rfl (by kernel_rfl) (by kernel_rfl) (by kernel_rfl) (by kernel_rfl) (by kernel_rfl) (fun _ _ _ h => h) (by exact ⟨k0, k1⟩) (fun o hop => ?_) ?_
            rotate_left
            · injection hop with hop
              subst hop
              refine ⟨rfl, fun W hW => ?_⟩
              obtain ⟨s0, s1⟩ := hW
              go_simp
              first
              | rfl
              | (constructor <;> rfl)
              | rw [if_neg (by omega)]
            try simp only [Act.put, List.setIfInBounds_toArray, List.set_cons_zero, List.set_cons_succ]
            refine wpAnyD_takeAt 6 (some 53) (v := ?_) rfl (by kernel_rfl) (by kernel_rfl) (by kernel_rfl) (by kernel_rfl) (by kernel_rfl) (fun _ _ _ h => h) (by exact ⟨k0, k1⟩) (fun o hop => ?_) ?_
            rotate_left
            · injection hop with hop
              subst hop
              refine ⟨rfl, fun W hW => ?_⟩
              obtain ⟨s0, s1⟩ := hW
              go_simp
              first
              | rfl
              | (constructor <;> rfl)
              | rw [if_neg (by omega)]
            try simp only [Act.put, List.setIfInBounds_toArray, List.set_cons_zero, List.set_cons_succ]
            refine wpAnyD_takeAt 7 (some 54) (v := ?_) rfl (by kernel_rfl) (by kernel_rfl) (by kernel_rfl) (by kernel_rfl) (by kernel_rfl) (fun _ _ _ h => h) (by exact ⟨k0, k1⟩) (fun o hop => ?_) ?_
            rotate_left
            · injection hop with hop
              subst hop
              refine ⟨rfl, fun W hW => ?_⟩
              obtain ⟨s0, s1⟩ := hW
              go_simp
              first
              | rfl
              | (constructor <;> rfl)
              | rw [if_neg (by omega)]
            try simp only [Act.put, List.setIfInBounds_toArray, List.set_cons_zero, List.set_cons_succ]
            refine wpAnyD_takeAt 8 (some 55) (v := ?_) rfl (by kernel_rfl) (by kernel_rfl) (by kernel_rfl) (by kernel_rfl) (by kernel_rfl) (fun _ _ _ h => h) (by exact ⟨k0, k1⟩) (fun o hop => ?_) ?_
            rotate_left
            · injection hop with hop
              subst hop
              refine ⟨rfl, fun W hW => ?_⟩
              obtain ⟨s0, s1⟩ := hW
              go_simp
              first
              | rfl
              | (constructor <;> rfl)
              | rw [if_neg (by omega)]
            try simp only [Act.put, List.setIfInBounds_toArray, List.set_cons_zero, List.set_cons_succ]
            refine wpAnyD_takeAt 9 (some 56) (v := ?_) rfl (by kernel_rfl) (by kernel_rfl) (by kernel_rfl) (by kernel_rfl) (by kernel_rfl) (fun _ _ _ h => h) (by exact ⟨k0, k1⟩) (fun o hop => ?_) ?_
            rotate_left
            · injection hop with hop
              subst hop
              refine ⟨rfl, fun W hW => ?_⟩
              obtain ⟨s0, s1⟩ := hW
              go_simp
              first
              | rfl
              | (constructor <;> rfl)
              | rw [if_neg (by omega)]
            try simp only [Act.put, List.setIfInBounds_toArray, List.set_cons_zero, List.set_cons_succ]
            refine wpAnyD_takeAt 10 (some 57) (v := ?_) rfl (by kernel_rfl) (by kernel_rfl) (by kernel_rfl) (by kernel_rfl) (by kernel_rfl) (fun _ _ _ h => h) (by exact ⟨k0, k1⟩) (fun o hop => ?_) ?_
            rotate_left
            · injection hop with hop
              subst hop
              refine ⟨rfl, fun W hW => ?_⟩
              obtain ⟨s0, s1⟩ := hW
              go_simp
              first
              | rfl
              | (constructor <;> rfl)
              | rw [if_neg (by omega)]
            try simp only [Act.put, List.setIfInBounds_toArray, List.set_cons_zero, List.set_cons_succ]
            have hone : (IntKind.i64.wrap 1).toNat = 1 := by decide
            have s3 : zz.cell? ⟨S, 3, none⟩ = some (.int .i64 p3) := (cells_at hzs 3).trans rfl
            have t3 := frozen_no hzs 3
            refine wpAnyT_one (i := 11) (by kernel_rfl) rfl rfl (fun K' hK => ?_)
            go_simp
            refine hK.out _ _ (fun h => absurd rfl h) ?_
            clear hK K'
            refine wpAnyT_done (by kernel_rfl) ?_ _
            have HF : Hid (∀ x, Bt [S, V] w1 (zz.setCell ⟨S, 3, none⟩ x) ∧ (zz.setCell ⟨S, 3, none⟩ x).heap[S]? = some (.cells #[.int .i64 lev, .int .i64 p1, .int .i64 p2, x] 119 (0, 0)) ∧ (zz.setCell ⟨S, 3, none⟩ x).heap[V]? = some (.cells #[.int .i64 (left - lev), .int .i64 v1] 117 (0, 0))) := fun x => ⟨hbt.set (List.mem_cons_self ..) _ _, set_any hzs 3 x, (Below.heap_setCell _ _ _ V (fun e => HSVN.out e.symm)).trans hzv⟩
            clear hbt hzs hzv k0 k1 s3 t3
            go_wp2_with fail
            go_roundw
            case rel => exact ⟨_, _, _, _, ⟨1, rfl, by omega, (HF.out _).1, by rw [(HF.out _).2.1]; exact HNX.out lev (left - lev) HLV.out HSP.out _ (.inl (by simp)), by rw [(HF.out _).2.2]; exact HNV.out (left - lev) HSP.out⟩, rfl, rfl, rfl, rfl⟩
            case measure => simp [intOf]
          · have h1 : L = 1 := by omega
            subst h1
            go_wp2_with fail
            go_roundw
            case rel => exact ⟨1, by go_num, by omega, (HDS.out _ _).1, by rw [(HDS.out _ _).2.1]; exact HNX.out lev (left - lev) HLV.out HSP.out _ (.inr ⟨rfl, rfl⟩), by rw [(HDS.out _ _).2.2]; exact HNV.out (left - lev) HSP.out⟩
            case measure => simp [intOf]
      · simp only [Nat.one_mul] at c0 c1 c2 c3 c4
        have HNX : Hid (∀ lev : Int, levOf (lkD ls 1) a1 r1 = lev → some (Obj.cells #[.int .i64 p0, .int .i64 lev, .int .i64 p2, .int .i64 p3] 119 (0, 0)) = some (Obj.cells (drainS ls a0 a1 r0 r1 2 2) 119 (0, 0))) := fun lev e1 => by
          have hL2 : L = 2 := by omega
          have hq := HVS.out
          rw [hL2] at hq
          unfold drainS at hq ⊢
          simp only [Array.mk.injEq, List.cons.injEq, Value.int.injEq, true_and] at hq
          obtain ⟨q0, _, q2, q3, _⟩ := hq
          rw [e1, q0, q2, q3]; rfl
        have HNV : Hid (∀ sp : Int, spOf (lkD ls 1) a1 r1 = sp → some (Obj.cells #[.int .i64 v0, .int .i64 sp] 117 (0, 0)) = some (Obj.cells (drainV ls a0 a1 r0 r1 2) 117 (0, 0))) := fun sp e => by
          have hq := HVV.out
          unfold drainV at hq ⊢
          simp only [Array.mk.injEq, List.cons.injEq, Value.int.injEq, true_and] at hq
          obtain ⟨q0, _⟩ := hq
          rw [e, q0]; rfl
        have ok := lkD_ok HOK.out (i := 1) (by rw [HL.out]; exact hlt)
        obtain ⟨left, hleft⟩ : ∃ x, x = a1 - r1 := ⟨_, rfl⟩
        obtain ⟨mo, hmo⟩ : ∃ x, x = (lkD ls 1).most := ⟨_, rfl⟩
        obtain ⟨lev, hlev⟩ : ∃ x : Int, x = (if mo < left then mo else left) := ⟨_, rfl⟩
        have hlb1 : -5000 ≤ lev ∧ lev ≤ 5000 := by have := ok.l; have := ok.s; have := ok.m; have := ok.x; rw [hlev]; split <;> omega
        have hw2 : IntKind.i64.wrap (left - lev) = left - lev := Go.IntWalk.i64_in _ (by omega)
        have hw3 : IntKind.i64.wrap (r1 + (left - lev)) = r1 + (left - lev) := Go.IntWalk.i64_in _ (by omega)
        have HLV : Hid (levOf (lkD ls 1) a1 r1 = lev) := by show _ = _; rw [hlev, hmo, hleft]; rfl
        have HSP : Hid (spOf (lkD ls 1) a1 r1 = left - lev) := by show _ = _; rw [hlev, hmo, hleft]; rfl
        have HLE := hide' hleft
        go_upto_region 4 with fail
        have hqk := alloc_new wr (.cells #[.int .i64 (lkD ls 1).least, .int .i64 (lkD ls 1).most, .int .i64 (lkD ls 1).start, .int .i64 (lkD ls 1).turb, .int .i64 (lkD ls 1).worth] 71)
        have HZ : Hid (Bt [S, V] w1 (wr.alloc (.cells #[.int .i64 (lkD ls 1).least, .int .i64 (lkD ls 1).most, .int .i64 (lkD ls 1).start, .int .i64 (lkD ls 1).turb, .int .i64 (lkD ls 1).worth] 71)) ∧ (wr.alloc (.cells #[.int .i64 (lkD ls 1).least, .int .i64 (lkD ls 1).most, .int .i64 (lkD ls 1).start, .int .i64 (lkD ls 1).turb, .int .i64 (lkD ls 1).worth] 71)).heap[S]? = some (.cells #[.int .i64 p0, .int .i64 p1, .int .i64 p2, .int .i64 p3] 119 (0, 0)) ∧ (wr.alloc (.cells #[.int .i64 (lkD ls 1).least, .int .i64 (lkD ls 1).most, .int .i64 (lkD ls 1).start, .int .i64 (lkD ls 1).turb, .int .i64 (lkD ls 1).worth] 71)).heap[V]? = some (.cells #[.int .i64 v0, .int .i64 v1] 117 (0, 0))) := ⟨HW.out.1.al _, (alloc_old wr _ (lt_heap HW.out.2.1)).trans HW.out.2.1, (alloc_old wr _ (lt_heap HW.out.2.2)).trans HW.out.2.2⟩
        obtain ⟨z, hz⟩ : ∃ x, x = wr.alloc (.cells #[.int .i64 (lkD ls 1).least, .int .i64 (lkD ls 1).most, .int .i64 (lkD ls 1).start, .int .i64 (lkD ls 1).turb, .int .i64 (lkD ls 1).worth] 71) := ⟨_, rfl⟩
        rw [← hz] at hqk HZ ⊢
        obtain ⟨K, hK⟩ : ∃ x, x = wr.heap.size := ⟨_, rfl⟩
        have HKN : Hid (K ≠ S ∧ K ≠ V) := ⟨by have := lt_heap HW.out.2.1; omega, by have := lt_heap HW.out.2.2; omega⟩
        rw [← hK] at hqk
        rw [show (Value.pointer (some { block := wr.heap.size, off := 0 })) = Value.pointer (some { block := K, off := 0 }) by rw [hK]]
        rw [← hmo] at hqk
        have HK1 : Hid (∀ m, (z.drewN m).cell? ⟨K, 1, none⟩ = some (.int .i64 mo)) := fun m => (cells_at (w := z.drewN m) hqk 1).trans rfl
        have e1 : z.cell? ⟨F, 1, none⟩ = some (.int .i64 a1) := (cells_at (HZ.out.1.keep HQF.out HNF.out) 1).trans rfl
        have e2 : z.cell? ⟨Q, 1, none⟩ = some (.int .i64 r1) := (cells_at (HZ.out.1.keep HQQ.out HNQ.out) 1).trans rfl
        have HWD : Hid (∀ m, Bt [S, V] w1 (z.drewN m) ∧ (z.drewN m).heap[S]? = some (.cells #[.int .i64 p0, .int .i64 p1, .int .i64 p2, .int .i64 p3] 119 (0, 0)) ∧ (z.drewN m).heap[V]? = some (.cells #[.int .i64 v0, .int .i64 v1] 117 (0, 0))) := fun m => ⟨HZ.out.1.drewN m, HZ.out.2⟩
        simp only [← hmo]
        clear ok hqk hz hK hmo HW c0 c1 c2 c3 c4 HZ hleft
        go_cut [10] from 19 to 25 (fun p wc => p = .int .i64 left ∧ ∃ m, wc = z.drewN m)
        case first =>
          go_quiet (fail)
          go_wp2_with fail
          go_meet
          case rel => exact ⟨congrArg (Value.int .i64) HLE.out.symm, _, rfl⟩
        case rest =>
          obtain ⟨rfl, m, hwc⟩ := hcut
          have HD := hide' (HWD.out m)
          have km : wc.cell? ⟨K, 1, none⟩ = some (.int .i64 mo) := by rw [hwc]; exact HK1.out m
          rw [← hwc] at HD
          have s1 : wc.cell? ⟨S, 1, none⟩ = some (.int .i64 p1) := (cells_at HD.out.2.1 1).trans rfl
          have t1 := frozen_no HD.out.2.1 1
          have u1 : ∀ x, (wc.setCell ⟨S, 1, none⟩ x).cell? ⟨V, 1, none⟩ = some (.int .i64 v1) := fun x => (cells_at ((Below.heap_setCell _ _ _ V (fun e => HSVN.out e.symm)).trans HD.out.2.2) 1).trans rfl
          have f1 : ∀ x, (wc.setCell ⟨S, 1, none⟩ x).frozen? ⟨V, 1, none⟩ = false := fun x => frozen_no ((Below.heap_setCell _ _ _ V (fun e => HSVN.out e.symm)).trans HD.out.2.2) 1
          have HDS : Hid (∀ x y, Bt [S, V] w1 ((wc.setCell ⟨S, 1, none⟩ x).setCell ⟨V, 1, none⟩ y) ∧ ((wc.setCell ⟨S, 1, none⟩ x).setCell ⟨V, 1, none⟩ y).heap[S]? = some (.cells (#[.int .i64 p0, .int .i64 p1, .int .i64 p2, .int .i64 p3].setIfInBounds 1 x) 119 (0, 0)) ∧ ((wc.setCell ⟨S, 1, none⟩ x).setCell ⟨V, 1, none⟩ y).heap[V]? = some (.cells (#[.int .i64 v0, .int .i64 v1].setIfInBounds 1 y) 117 (0, 0))) := fun x y => ⟨(HD.out.1.set (List.mem_cons_self ..) _ _).set (List.mem_cons_of_mem _ (List.mem_cons_self ..)) _ _, (Below.heap_setCell _ _ _ S HSVN.out).trans (set_any HD.out.2.1 1 x), set_any ((Below.heap_setCell _ _ _ V (fun e => HSVN.out e.symm)).trans HD.out.2.2) 1 y⟩
          have hlv2 : (if mo < left then mo else left) = lev := hlev.symm
          clear hlev hwc HWD HK1
          have b0 : ∀ x y, ((wc.setCell ⟨S, 1, none⟩ x).setCell ⟨V, 1, none⟩ y).cell? ⟨B, 0, none⟩ = some (.slice (some ⟨lb, lo, none⟩) L cl) := fun x y => (cells_at ((HDS.out x y).1.keep HQB.out HNB.out) 0).trans rfl
          have h2 : L = 2 := by omega
          subst h2
          go_wp2_with fail
          go_roundw
          case rel => exact ⟨2, by go_num, by omega, (HDS.out _ _).1, by rw [(HDS.out _ _).2.1]; exact HNX.out lev HLV.out, by rw [(HDS.out _ _).2.2]; exact HNV.out (left - lev) HSP.out⟩
          case measure => simp [intOf]
    · obtain rfl : k = L := by omega
      have y0 : wr.cell? ⟨S, 0, none⟩ = some (.int .i64 p0) := (cells_at HW.out.2.1 0).trans rfl
      go_upto_region 10 with fail
      clear y0
      refine wp_region_tail (fun W => (W.heap[S]? = some (.cells #[.int .i64 p0, .int .i64 p1, .int .i64 p2, .int .i64 p3] 119 (0, 0)) ∧ W.heap[V]? = some (.cells #[.int .i64 v0, .int .i64 v1] 117 (0, 0)))) 3 (by kernel_rfl) ?_
      refine wpAnyT_letter (fun W => Bt [S, V] w1 W ∧ W.heap[S]? = some (.cells #[.int .i64 p0, .int .i64 p1, .int .i64 p2, .int .i64 p3] 119 (0, 0)) ∧ W.heap[V]? = some (.cells #[.int .i64 v0, .int .i64 v1] 117 (0, 0))) ⟨HW.out.1.drew, HW.out.2⟩ ?_
      clear HW
      rintro zz ⟨hbt, hzs, hzv⟩
      refine wpAnyD_takeAt 0 (some 59) (v := ?_) rfl (by kernel_rfl) (by kernel_rfl) (by kernel_rfl) (by kernel_rfl) (by kernel_rfl) (fun _ _ _ h => h) (by exact ⟨hzs, hzv⟩) (fun o hop => ?_) ?_
      rotate_left
      · injection hop with hop
        subst hop
        refine ⟨rfl, fun W hW => ?_⟩
        obtain ⟨s0, s1⟩ := hW
        have c0 : W.cell? ⟨S, 0, none⟩ = some (.int .i64 p0) := (cells_at s0 0).trans rfl
        have c1 : W.cell? ⟨S, 1, none⟩ = some (.int .i64 p1) := (cells_at s0 1).trans rfl
        have c2 : W.cell? ⟨S, 2, none⟩ = some (.int .i64 p2) := (cells_at s0 2).trans rfl
        have c3 : W.cell? ⟨S, 3, none⟩ = some (.int .i64 p3) := (cells_at s0 3).trans rfl
        go_simp
        first
        | rfl
        | (constructor <;> rfl)
        | rw [if_neg (by omega)]
      try simp only [Act.put, List.setIfInBounds_toArray, List.set_cons_zero, List.set_cons_succ]
      refine wpAnyD_takeAt 1 (some 60) (v := ?_) rfl (by kernel_rfl) (by kernel_rfl) (by kernel_rfl) (by kernel_rfl) (by kernel_rfl) (fun _ _ _ h => h) (by exact ⟨hzs, hzv⟩) (fun o hop => ?_) ?_
      rotate_left
      · injection hop with hop
        subst hop
        refine ⟨rfl, fun W hW => ?_⟩
        obtain ⟨s0, s1⟩ := hW
        have c0 : W.cell? ⟨V, 0, none⟩ = some (.int .i64 v0) := (cells_at s1 0).trans rfl
        have c1 : W.cell? ⟨V, 1, none⟩ = some (.int .i64 v1) := (cells_at s1 1).trans rfl
        go_simp
        first
        | rfl
        | (constructor <;> rfl)
        | rw [if_neg (by omega)]
      try simp only [Act.put, List.setIfInBounds_toArray, List.set_cons_zero, List.set_cons_succ]
      have s0 : zz.cell? ⟨S, 0, none⟩ = some (.int .i64 p0) := (cells_at hzs 0).trans rfl
      have s1 : zz.cell? ⟨S, 1, none⟩ = some (.int .i64 p1) := (cells_at hzs 1).trans rfl
      have s2 : zz.cell? ⟨S, 2, none⟩ = some (.int .i64 p2) := (cells_at hzs 2).trans rfl
      have s3 : zz.cell? ⟨S, 3, none⟩ = some (.int .i64 p3) := (cells_at hzs 3).trans rfl
      have t0 := frozen_no hzs 0
      have t1 := frozen_no hzs 1
      have t2 := frozen_no hzs 2
      have t3 := frozen_no hzs 3
      have HF : Hid (Bt [S, V] w1 ((((zz.setCell ⟨S, 0, none⟩ (.int .i64 p0)).setCell ⟨S, 1, none⟩ (.int .i64 p1)).setCell ⟨S, 2, none⟩ (.int .i64 p2)).setCell ⟨S, 3, none⟩ (.int .i64 p3)) ∧ ((((zz.setCell ⟨S, 0, none⟩ (.int .i64 p0)).setCell ⟨S, 1, none⟩ (.int .i64 p1)).setCell ⟨S, 2, none⟩ (.int .i64 p2)).setCell ⟨S, 3, none⟩ (.int .i64 p3)).heap[S]? = some (.cells #[.int .i64 p0, .int .i64 p1, .int .i64 p2, .int .i64 p3] 119 (0, 0)) ∧ ((((zz.setCell ⟨S, 0, none⟩ (.int .i64 p0)).setCell ⟨S, 1, none⟩ (.int .i64 p1)).setCell ⟨S, 2, none⟩ (.int .i64 p2)).setCell ⟨S, 3, none⟩ (.int .i64 p3)).heap[V]? = some (.cells #[.int .i64 v0, .int .i64 v1] 117 (0, 0))) := ⟨(((hbt.set (List.mem_cons_self ..) _ _).set (List.mem_cons_self ..) _ _).set (List.mem_cons_self ..) _ _).set (List.mem_cons_self ..) _ _, set_four hzs _ _ _ _, by rw [Below.heap_setCell _ _ _ V (fun e => HSVN.out e.symm), Below.heap_setCell _ _ _ V (fun e => HSVN.out e.symm), Below.heap_setCell _ _ _ V (fun e => HSVN.out e.symm), Below.heap_setCell _ _ _ V (fun e => HSVN.out e.symm)]; exact hzv⟩
      refine wpAnyT_one (i := 2) (by kernel_rfl) rfl rfl (fun K' hK => ?_)
      go_simp
      refine hK.out _ _ (fun _ => HF.out.2) ?_
      clear hK K' s0 s1 s2 s3 t0 t1 t2 t3 hbt hzs hzv
      refine wpAnyT_letter (fun W => Bt [S, V] w1 W ∧ W.heap[S]? = some (.cells #[.int .i64 p0, .int .i64 p1, .int .i64 p2, .int .i64 p3] 119 (0, 0)) ∧ W.heap[V]? = some (.cells #[.int .i64 v0, .int .i64 v1] 117 (0, 0))) HF.out ?_
      clear HF
      rintro yy ⟨hbt, hzs, hzv⟩
      have s0 : yy.cell? ⟨V, 0, none⟩ = some (.int .i64 v0) := (cells_at hzv 0).trans rfl
      have s1 : yy.cell? ⟨V, 1, none⟩ = some (.int .i64 v1) := (cells_at hzv 1).trans rfl
      have t0 := frozen_no hzv 0
      have t1 := frozen_no hzv 1
      have HG : Hid (Below w.heap.size w ((yy.setCell ⟨V, 0, none⟩ (.int .i64 v0)).setCell ⟨V, 1, none⟩ (.int .i64 v1)) ∧ ((yy.setCell ⟨V, 0, none⟩ (.int .i64 v0)).setCell ⟨V, 1, none⟩ (.int .i64 v1)).heap[S]? = some (.cells #[.int .i64 p0, .int .i64 p1, .int .i64 p2, .int .i64 p3] 119 (0, 0)) ∧ ((yy.setCell ⟨V, 0, none⟩ (.int .i64 v0)).setCell ⟨V, 1, none⟩ (.int .i64 v1)).heap[V]? = some (.cells #[.int .i64 v0, .int .i64 v1] 117 (0, 0))) := ⟨((hbt.set (List.mem_cons_of_mem _ (List.mem_cons_self ..)) _ _).set (List.mem_cons_of_mem _ (List.mem_cons_self ..)) _ _).below HB1.out (Nat.le_refl _) (fun m hm => by have := HGE.out; simp at hm; omega), by rw [Below.heap_setCell _ _ _ S HSVN.out, Below.heap_setCell _ _ _ S HSVN.out]; exact hzs, set_two hzv _ _⟩
      refine wpAnyT_one (i := 3) (by kernel_rfl) rfl rfl (fun K' hK => ?_)
      go_simp
      refine hK.out _ _ (fun h => absurd rfl h) ?_
      clear hK K' s0 s1 t0 t1 hbt hzs hzv
      refine wpAnyT_done (by kernel_rfl) ?_ _
      go_wp2_with fail
      refine bodyPost_ret (results_two rfl _ _ S V 119 117 _ _ (0, 0) (0, 0) _ _ rfl HG.out.2.1 rfl HG.out.2.2 Try.underlying119 rfl (by kernel_rfl) Try.underlying117 rfl (by kernel_rfl)) rfl ?_
      exact ⟨by rw [← HVS.out, ← HVV.out], HG.out.1⟩
end Go.Proofs.Ytnhddmcdmcpkeaj
