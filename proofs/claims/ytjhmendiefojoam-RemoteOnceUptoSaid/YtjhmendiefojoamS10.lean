/- What a station does with a message. -/
import Derived.Test.YtjhmendiefojoamYc
import Derived.Test.YtjhmendiefojoamS4
import Derived.Test.YtjhmendiefojoamYt
namespace Go.Proofs.Ytjhmendiefojoam
open Go.RowKit Go.Shelf

structure MsM where
  kind : Int
  no : Int
  pt : Int
  wt : Bool
def MsM.cells (m : MsM) : Array Value := #[.int .i64 m.kind, .int .i64 m.no, .int .i64 m.pt, .bool m.wt]
/-- What comes of a Select. -/
def ChooseR (n : Nat) (S : StM) (m : MsM) (r : Int) (T : StM) : Prop :=
  (m.no = S.last ∧ r = 4 ∧ T = S) ∨ (m.no ≠ S.last ∧ (m.no < S.last ∨ m.no < S.armed) ∧ r = 0 ∧ T = S) ∨ (S.last < m.no ∧ S.armed ≤ m.no ∧ ¬ (0 ≤ m.pt ∧ m.pt ≤ n - 1) ∧ r = 5 ∧ T = S) ∨ (S.last < m.no ∧ S.armed ≤ m.no ∧ (0 ≤ m.pt ∧ m.pt ≤ n - 1) ∧ r = 2 ∧ T = ⟨S.last, m.no, m.pt, m.wt, S.pat, S.pat⟩)
/-- What comes of an Operate. -/
def OperR (l : List Bool) (n : Nat) (S : StM) (m : MsM) (l1 : List Bool) (r : Int) (T : StM) : Prop :=
  (m.no = S.last ∧ r = 4 ∧ T = S ∧ l1 = l) ∨ (m.no < S.last ∧ r = 0 ∧ T = S ∧ l1 = l) ∨ (S.last < m.no ∧ (m.no ≠ S.armed ∨ m.pt ≠ S.point ∨ m.wt ≠ S.want) ∧ r = 5 ∧ T = S ∧ l1 = l) ∨ (S.last < m.no ∧ m.no = S.armed ∧ m.pt = S.point ∧ m.wt = S.want ∧ (0 ≤ m.pt ∧ m.pt < n) ∧ r = 4 ∧ T = ⟨m.no, -1, 0, false, 0, S.pat⟩ ∧ l1 = l.set m.pt.toNat m.wt)
def ActO (B K n c : Nat) (a : Option Addr) (l1 : List Bool) (T : StM) (r : Int) (w : World) (e : Ending) (w' : World) : Prop := e = .returned (.int .i64 r) ∧ w'.heap[K]? = some (.cells (T.cells (.slice a n c)) 60 (0, 0)) ∧ w'.ownsRow B 4 1 (.slice a n c) n (l1.map Value.bool) ∧ Below B w w'
theorem own_drewN {w : World} {B e sz n : Nat} {v : Value} {xs : List Value} (h : w.ownsRow B e sz v n xs) (q : Nat) : (w.drewN q).ownsRow B e sz v n xs := own_below h (below_drewN (Below.refl _ w) q) (Nat.le_refl _)
def SS (Y K : Nat) (no pt : Int) (wt : Bool) (pat : Int) (W : World) : Prop := W.cell? ⟨Y, 1, none⟩ = some (.int .i64 no) ∧ W.cell? ⟨Y, 2, none⟩ = some (.int .i64 pt) ∧ W.cell? ⟨Y, 3, none⟩ = some (.bool wt) ∧ W.cell? ⟨K, 6, none⟩ = some (.int .i64 pat)
theorem SS.set {Y K : Nat} {no pt : Int} {wt : Bool} {pat : Int} {W : World} (h : SS Y K no pt wt pat W) (hne : Y ≠ K) {j : Nat} (hj : j ≠ 6) (x : Value) : SS Y K no pt wt pat (W.setCell ⟨K, j, none⟩ x) := by
  obtain ⟨h1, h2, h3, h4⟩ := h
  refine ⟨?_, ?_, ?_, ?_⟩
  · exact (World.cell?_setCell_far W ⟨K, j, none⟩ ⟨Y, 1, none⟩ x (fun e => hne e.symm)).trans h1
  · exact (World.cell?_setCell_far W ⟨K, j, none⟩ ⟨Y, 2, none⟩ x (fun e => hne e.symm)).trans h2
  · exact (World.cell?_setCell_far W ⟨K, j, none⟩ ⟨Y, 3, none⟩ x (fun e => hne e.symm)).trans h3
  · exact (World.cell?_setCell_other (w := W) (v := x) (a := ⟨K, j, none⟩) (b := ⟨K, 6, none⟩) (fun e => hj (congrArg Addr.off e))).trans h4
theorem arm4 {w : World} {K e : Nat} {S : StM} {v : Value} (h : w.heap[K]? = some (.cells (S.cells v) e (0, 0))) (no pt : Int) (wt : Bool) (x : Int) : ((((w.setCell ⟨K, 2, none⟩ (.int .i64 no)).setCell ⟨K, 3, none⟩ (.int .i64 pt)).setCell ⟨K, 4, none⟩ (.bool wt)).setCell ⟨K, 5, none⟩ (.int .i64 x)).heap[K]? = some (.cells ((⟨S.last, no, pt, wt, x, S.pat⟩ : StM).cells v) e (0, 0)) ∧ But K w ((((w.setCell ⟨K, 2, none⟩ (.int .i64 no)).setCell ⟨K, 3, none⟩ (.int .i64 pt)).setCell ⟨K, 4, none⟩ (.bool wt)).setCell ⟨K, 5, none⟩ (.int .i64 x)) := by
  refine ⟨?_, But.set (But.set (But.set (But.set (But.refl K w) _ _) _ _) _ _) _ _⟩
  exact (set_any (set_any (set_any (set_any h 2 _) 3 _) 4 _) 5 _).trans (by unfold StM.cells; simp only [List.setIfInBounds_toArray, List.set_cons_zero, List.set_cons_succ])
set_option maxRecDepth 100000 in
set_option maxHeartbeats 4000000 in
theorem choose_any (S : StM) (m : MsM) (l : List Bool) (B K n c : Nat) (a : Option Addr) (w : World) (hK : w.heap[K]? = some (.cells (S.cells (.slice a n c)) 60 (0, 0))) (ho : w.ownsRow B 4 1 (.slice a n c) n (l.map Value.bool)) (hB : B ≤ K) (hn : n ≤ 9000000000000000000) (r : Int) (T : StM) (hR : ChooseR n S m r T) : Calls Try.prog 56 #[.pointer (some ⟨K, 0, none⟩), .agg m.cells] w (ActO B K n c a l T r w) := by
  have HBS : Hid (B ≤ w.heap.size) := by have := lt_heap hK; show _ ≤ _; omega
  have HH := hide' (fun w' (e : w'.heap[K]? = w.heap[K]?) => has_any S K n c a m.pt w' (e.trans hK) hn)
  have HKK := hide' hK
  have HO := hide' ho
  unfold ActO
  unfold ChooseR at hR
  obtain ⟨last, armed, point, want, left, pat⟩ := S
  obtain ⟨kind, no, pt, wt⟩ := m
  unfold StM.cells at hK
  unfold MsM.cells
  simp only at hR HH HKK ⊢
  clear ho
  go_enter Try.func56, Try.ntmps56
  go_upto_region 1 with fail
  have hqY := alloc_new w (.cells #[.int .i64 kind, .int .i64 no, .int .i64 pt, .bool wt] 39)
  have hb1 := below_al w (.cells #[.int .i64 kind, .int .i64 no, .int .i64 pt, .bool wt] 39)
  obtain ⟨w1, hw1⟩ : ∃ x, x = (w.alloc (.cells #[.int .i64 kind, .int .i64 no, .int .i64 pt, .bool wt] 39)) := ⟨_, rfl⟩
  rw [← hw1] at hqY hb1 ⊢
  obtain ⟨Y, hnY⟩ : ∃ x, x = w.heap.size := ⟨_, rfl⟩
  have HNE : Hid (w.heap.size ≤ Y) := by show _ ≤ _; omega
  rw [← hnY] at hqY
  rw [show (Value.pointer (some { block := w.heap.size, off := 0 })) = Value.pointer (some { block := Y, off := 0 }) by rw [hnY]]
  have HQY := hide' hqY
  have HB1 := hide' hb1
  clear hqY hb1 hw1 hnY
  have HK1 : Hid (w1.heap[K]? = some (.cells #[.slice a n c, .int .i64 last, .int .i64 armed, .int .i64 point, .bool want, .int .i64 left, .int .i64 pat] 60 (0, 0))) := (HB1.out.block K (lt_heap hK)).trans hK
  have HO1 := hide' (own_below HO.out HB1.out (Nat.le_refl _))
  have HH1 := hide' (fun q => HH.out (w1.drewN q) (HB1.out.block K (lt_heap hK)))
  have HB1' := hide' (HB1.out.mono HBS.out)
  have HB1s := hide' HB1.out.size
  have HYK0 : Hid (Y ≠ K) := by have := lt_heap hK; have := HNE.out; show _ ≠ _; omega
  obtain ⟨m0, m1, m2, m3⟩ := cellsP4 HQY.out
  obtain ⟨-, c1, c2, c3, c4, c5, c6⟩ := cellsP7 HK1.out
  clear hK HKK HO HH HB1 hn
  rcases hR with ⟨h1, rfl, rfl⟩ | ⟨h1, h2, rfl, rfl⟩ | ⟨h1, h2, h3, rfl, rfl⟩ | ⟨h1, h2, h3, rfl, rfl⟩
  · go_wp2_with fail
    go_quiet (fail)
    go_wp2
    go_ret
    exact ⟨rfl, HK1.out, by first | exact own_drewN HO1.out _ | exact own_drewN (own_drewN HO1.out _) _, by first | exact below_drewN HB1'.out _ | exact below_drewN (below_drewN HB1'.out _) _⟩
  · have hne : no ≠ last := h1
    have h2' : no < last ∨ (last < no ∧ no < armed) := by omega
    clear h2
    rcases h2' with h2 | ⟨h2, h3⟩
    · go_wp2_with fail
      go_quiet (fail)
      go_wp2_with fail
      go_quiet (fail)
      go_wp2
      go_ret
      exact ⟨rfl, HK1.out, by first | exact own_drewN HO1.out _ | exact own_drewN (own_drewN HO1.out _) _, by first | exact below_drewN HB1'.out _ | exact below_drewN (below_drewN HB1'.out _) _⟩
    · have hnl : ¬ no < last := by omega
      go_wp2_with fail
      go_quiet (fail)
      go_wp2_with fail
      go_quiet (fail)
      go_wp2
      go_ret
      exact ⟨rfl, HK1.out, by first | exact own_drewN HO1.out _ | exact own_drewN (own_drewN HO1.out _) _, by first | exact below_drewN HB1'.out _ | exact below_drewN (below_drewN HB1'.out _) _⟩
  · have hx : (decide (0 ≤ pt) && decide (pt ≤ (n : Int) - 1)) = false := by simp; omega
    rw [hx] at HH1
    clear hx
    have hnl : ¬ no < last := by omega
    have hne : no ≠ last := by omega
    have hna : ¬ no < armed := by omega
    go_wp2_with fail
    go_quiet (fail)
    go_wp2_with fail
    go_quiet (fail)
    go_wp2_with fail
    refine (HH1.out _).mono ?_
    rintro e w2 ⟨rfl, rfl⟩
    go_wp2
    go_ret
    exact ⟨rfl, HK1.out, by first | exact own_drewN HO1.out _ | exact own_drewN (own_drewN HO1.out _) _, by first | exact below_drewN HB1'.out _ | exact below_drewN (below_drewN HB1'.out _) _⟩
  · have hx : (decide (0 ≤ pt) && decide (pt ≤ (n : Int) - 1)) = true := by simp; omega
    rw [hx] at HH1
    clear hx
    have hnl : ¬ no < last := by omega
    have hne : no ≠ last := by omega
    have hna : ¬ no < armed := by omega
    go_wp2_with fail
    go_quiet (fail)
    go_wp2_with fail
    go_quiet (fail)
    go_wp2_with fail
    refine (HH1.out _).mono ?_
    rintro e w2 ⟨rfl, rfl⟩
    go_upto_region 7 with fail
    have HSS : Hid (SS Y K no pt wt pat w1) := ⟨m1, m2, m3, c6⟩
    have HYK : Hid (Y ≠ K) := HYK0.out
    obtain ⟨-, -, f2, f3, f4, f5⟩ := frozenP6 HK1.out
    refine wp_region_tail (SS Y K no pt wt pat) 30 (by kernel_rfl) ?_
    refine wpAnyD_takeAt 0 (some 39) (v := ?_) rfl (by kernel_rfl) (by kernel_rfl) (by kernel_rfl) (by kernel_rfl) (by kernel_rfl) (fun _ _ _ h => h) (by exact HSS.out) (fun o hop => ?_) ?_
    rotate_left
    · injection hop with hop
      subst hop
      refine ⟨rfl, fun W hW => ?_⟩
      obtain ⟨s0, s1, s2, s3⟩ := hW
      go_simp
      try rfl
    try simp only [Act.put, List.setIfInBounds_toArray, List.set_cons_zero, List.set_cons_succ]
    refine wpAnyD_takeAt 1 (some 40) (v := ?_) rfl (by kernel_rfl) (by kernel_rfl) (by kernel_rfl) (by kernel_rfl) (by kernel_rfl) (fun _ _ _ h => h) (by exact HSS.out) (fun o hop => ?_) ?_
    rotate_left
    · injection hop with hop
      subst hop
      refine ⟨rfl, fun W hW => ?_⟩
      obtain ⟨s0, s1, s2, s3⟩ := hW
      go_simp
      try rfl
    try simp only [Act.put, List.setIfInBounds_toArray, List.set_cons_zero, List.set_cons_succ]
    refine wpAnyD_takeAt 2 (some 41) (v := ?_) rfl (by kernel_rfl) (by kernel_rfl) (by kernel_rfl) (by kernel_rfl) (by kernel_rfl) (fun _ _ _ h => h) (by exact HSS.out) (fun o hop => ?_) ?_
    rotate_left
    · injection hop with hop
      subst hop
      refine ⟨rfl, fun W hW => ?_⟩
      obtain ⟨s0, s1, s2, s3⟩ := hW
      go_simp
      try rfl
    try simp only [Act.put, List.setIfInBounds_toArray, List.set_cons_zero, List.set_cons_succ]
    refine wpAnyD_takeAt 3 (some 42) (v := ?_) rfl (by kernel_rfl) (by kernel_rfl) (by kernel_rfl) (by kernel_rfl) (by kernel_rfl) (fun _ _ _ h => h) (by exact HSS.out) (fun o hop => ?_) ?_
    rotate_left
    · injection hop with hop
      subst hop
      refine ⟨rfl, fun W hW => ?_⟩
      obtain ⟨s0, s1, s2, s3⟩ := hW
      go_simp
      try rfl
    try simp only [Act.put, List.setIfInBounds_toArray, List.set_cons_zero, List.set_cons_succ]
    refine wpAnyD_takeAt 4 (some 43) (v := ?_) rfl (by kernel_rfl) (by kernel_rfl) (by kernel_rfl) (by kernel_rfl) (by kernel_rfl) (fun _ _ _ h => h) (by exact HSS.out) (fun o hop => ?_) ?_
    rotate_left
    · injection hop with hop
      subst hop
      refine ⟨rfl, fun W hW => ?_⟩
      obtain ⟨s0, s1, s2, s3⟩ := hW
      go_simp
      try rfl
    try simp only [Act.put, List.setIfInBounds_toArray, List.set_cons_zero, List.set_cons_succ]
    refine wpAnyD_takeAt 5 (some 44) (v := ?_) rfl (by kernel_rfl) (by kernel_rfl) (by kernel_rfl) (by kernel_rfl) (by kernel_rfl) (fun _ _ _ h => h) (by exact HSS.out) (fun o hop => ?_) ?_
    rotate_left
    · injection hop with hop
      subst hop
      refine ⟨rfl, fun W hW => ?_⟩
      obtain ⟨s0, s1, s2, s3⟩ := hW
      go_simp
      try rfl
    try simp only [Act.put, List.setIfInBounds_toArray, List.set_cons_zero, List.set_cons_succ]
    refine wpAnyD_takeAt 6 (some 45) (v := ?_) rfl (by kernel_rfl) (by kernel_rfl) (by kernel_rfl) (by kernel_rfl) (by kernel_rfl) (fun _ _ _ h => h) (by exact HSS.out) (fun o hop => ?_) ?_
    rotate_left
    · injection hop with hop
      subst hop
      refine ⟨rfl, fun W hW => ?_⟩
      obtain ⟨s0, s1, s2, s3⟩ := hW
      go_simp
      try rfl
    try simp only [Act.put, List.setIfInBounds_toArray, List.set_cons_zero, List.set_cons_succ]
    refine wpAnyD_takeAt 7 (some 46) (v := ?_) rfl (by kernel_rfl) (by kernel_rfl) (by kernel_rfl) (by kernel_rfl) (by kernel_rfl) (fun _ _ _ h => h) (by exact HSS.out) (fun o hop => ?_) ?_
    rotate_left
    · injection hop with hop
      subst hop
      refine ⟨rfl, fun W hW => ?_⟩
      obtain ⟨s0, s1, s2, s3⟩ := hW
      go_simp
      try rfl
    try simp only [Act.put, List.setIfInBounds_toArray, List.set_cons_zero, List.set_cons_succ]
    refine wpAnyD_takeAt 8 (some 47) (v := ?_) rfl (by kernel_rfl) (by kernel_rfl) (by kernel_rfl) (by kernel_rfl) (by kernel_rfl) (fun _ _ _ h => h) (by exact HSS.out) (fun o hop => ?_) ?_
    rotate_left
    · injection hop with hop
      subst hop
      refine ⟨rfl, fun W hW => ?_⟩
      obtain ⟨s0, s1, s2, s3⟩ := hW
      go_simp
      try rfl
    try simp only [Act.put, List.setIfInBounds_toArray, List.set_cons_zero, List.set_cons_succ]
    refine wpAnyD_takeAt 9 (some 48) (v := ?_) rfl (by kernel_rfl) (by kernel_rfl) (by kernel_rfl) (by kernel_rfl) (by kernel_rfl) (fun _ _ _ h => h) (by exact HSS.out) (fun o hop => ?_) ?_
    rotate_left
    · injection hop with hop
      subst hop
      refine ⟨rfl, fun W hW => ?_⟩
      obtain ⟨s0, s1, s2, s3⟩ := hW
      go_simp
      try rfl
    try simp only [Act.put, List.setIfInBounds_toArray, List.set_cons_zero, List.set_cons_succ]
    refine wpAnyD_takeAt 10 (some 49) (v := ?_) rfl (by kernel_rfl) (by kernel_rfl) (by kernel_rfl) (by kernel_rfl) (by kernel_rfl) (fun _ _ _ h => h) (by exact HSS.out) (fun o hop => ?_) ?_
    rotate_left
    · injection hop with hop
      subst hop
      refine ⟨rfl, fun W hW => ?_⟩
      obtain ⟨s0, s1, s2, s3⟩ := hW
      go_simp
      try rfl
    try simp only [Act.put, List.setIfInBounds_toArray, List.set_cons_zero, List.set_cons_succ]
    refine wpAnyD_takeAt 11 (some 50) (v := ?_) rfl (by kernel_rfl) (by kernel_rfl) (by kernel_rfl) (by kernel_rfl) (by kernel_rfl) (fun _ _ _ h => h) (by exact HSS.out) (fun o hop => ?_) ?_
    rotate_left
    · injection hop with hop
      subst hop
      refine ⟨rfl, fun W hW => ?_⟩
      obtain ⟨s0, s1, s2, s3⟩ := hW
      go_simp
      try rfl
    try simp only [Act.put, List.setIfInBounds_toArray, List.set_cons_zero, List.set_cons_succ]
    refine wpAnyD_takeAt 12 (some 51) (v := ?_) rfl (by kernel_rfl) (by kernel_rfl) (by kernel_rfl) (by kernel_rfl) (by kernel_rfl) (fun _ _ _ h => h) (by exact HSS.out) (fun o hop => ?_) ?_
    rotate_left
    · injection hop with hop
      subst hop
      refine ⟨rfl, fun W hW => ?_⟩
      obtain ⟨s0, s1, s2, s3⟩ := hW
      go_simp
      try rfl
    try simp only [Act.put, List.setIfInBounds_toArray, List.set_cons_zero, List.set_cons_succ]
    refine wpAnyD_takeAt 13 (some 52) (v := ?_) rfl (by kernel_rfl) (by kernel_rfl) (by kernel_rfl) (by kernel_rfl) (by kernel_rfl) (fun _ _ _ h => h) (by exact HSS.out) (fun o hop => ?_) ?_
    rotate_left
    · injection hop with hop
      subst hop
      refine ⟨rfl, fun W hW => ?_⟩
      obtain ⟨s0, s1, s2, s3⟩ := hW
      go_simp
      try rfl
    try simp only [Act.put, List.setIfInBounds_toArray, List.set_cons_zero, List.set_cons_succ]
    refine wpAnyD_takeAt 14 (some 53) (v := ?_) rfl (by kernel_rfl) (by kernel_rfl) (by kernel_rfl) (by kernel_rfl) (by kernel_rfl) (fun _ _ _ h => h) (by exact HSS.out) (fun o hop => ?_) ?_
    rotate_left
    · injection hop with hop
      subst hop
      refine ⟨rfl, fun W hW => ?_⟩
      obtain ⟨s0, s1, s2, s3⟩ := hW
      go_simp
      try rfl
    try simp only [Act.put, List.setIfInBounds_toArray, List.set_cons_zero, List.set_cons_succ]
    refine wpAnyT_one (i := 15) (by kernel_rfl) rfl rfl (fun K' hK => ?_)
    go_simp
    refine hK.out _ _ (fun _ => by exact HSS.out) ?_
    clear hK K'
    try simp only [Act.put, List.setIfInBounds_toArray, List.set_cons_zero, List.set_cons_succ]
    refine wpAnyT_one (i := 16) (by kernel_rfl) rfl rfl (fun K' hK => ?_)
    go_simp
    refine hK.out _ _ (fun _ => by exact HSS.out) ?_
    clear hK K'
    try simp only [Act.put, List.setIfInBounds_toArray, List.set_cons_zero, List.set_cons_succ]
    refine wpAnyT_one (i := 17) (by kernel_rfl) rfl rfl (fun K' hK => ?_)
    go_simp
    refine hK.out _ _ (fun _ => by exact HSS.out) ?_
    clear hK K'
    try simp only [Act.put, List.setIfInBounds_toArray, List.set_cons_zero, List.set_cons_succ]
    refine wpAnyT_one (i := 18) (by kernel_rfl) rfl rfl (fun K' hK => ?_)
    go_simp
    refine hK.out _ _ (fun _ => by exact (HSS.out.set HYK.out (by decide) _)) ?_
    clear hK K'
    try simp only [Act.put, List.setIfInBounds_toArray, List.set_cons_zero, List.set_cons_succ]
    refine wpAnyT_one (i := 19) (by kernel_rfl) rfl rfl (fun K' hK => ?_)
    go_simp
    refine hK.out _ _ (fun _ => by exact (HSS.out.set HYK.out (by decide) _)) ?_
    clear hK K'
    try simp only [Act.put, List.setIfInBounds_toArray, List.set_cons_zero, List.set_cons_succ]
    refine wpAnyT_one (i := 20) (by kernel_rfl) rfl rfl (fun K' hK => ?_)
    go_simp
    refine hK.out _ _ (fun _ => by exact (HSS.out.set HYK.out (by decide) _)) ?_
    clear hK K'
    try simp only [Act.put, List.setIfInBounds_toArray, List.set_cons_zero, List.set_cons_succ]
    refine wpAnyT_one (i := 21) (by kernel_rfl) rfl rfl (fun K' hK => ?_)
    go_simp
    refine hK.out _ _ (fun _ => by exact (HSS.out.set HYK.out (by decide) _)) ?_
    clear hK K'
    try simp only [Act.put, List.setIfInBounds_toArray, List.set_cons_zero, List.set_cons_succ]
    refine wpAnyT_one (i := 22) (by kernel_rfl) rfl rfl (fun K' hK => ?_)
    go_simp
    refine hK.out _ _ (fun _ => by exact ((HSS.out.set HYK.out (by decide) _).set HYK.out (by decide) _)) ?_
    clear hK K'
    try simp only [Act.put, List.setIfInBounds_toArray, List.set_cons_zero, List.set_cons_succ]
    refine wpAnyT_one (i := 23) (by kernel_rfl) rfl rfl (fun K' hK => ?_)
    go_simp
    refine hK.out _ _ (fun _ => by exact ((HSS.out.set HYK.out (by decide) _).set HYK.out (by decide) _)) ?_
    clear hK K'
    try simp only [Act.put, List.setIfInBounds_toArray, List.set_cons_zero, List.set_cons_succ]
    refine wpAnyT_one (i := 24) (by kernel_rfl) rfl rfl (fun K' hK => ?_)
    go_simp
    refine hK.out _ _ (fun _ => by exact ((HSS.out.set HYK.out (by decide) _).set HYK.out (by decide) _)) ?_
    clear hK K'
    try simp only [Act.put, List.setIfInBounds_toArray, List.set_cons_zero, List.set_cons_succ]
    refine wpAnyT_one (i := 25) (by kernel_rfl) rfl rfl (fun K' hK => ?_)
    go_simp
    refine hK.out _ _ (fun _ => by exact ((HSS.out.set HYK.out (by decide) _).set HYK.out (by decide) _)) ?_
    clear hK K'
    try simp only [Act.put, List.setIfInBounds_toArray, List.set_cons_zero, List.set_cons_succ]
    refine wpAnyT_one (i := 26) (by kernel_rfl) rfl rfl (fun K' hK => ?_)
    go_simp
    refine hK.out _ _ (fun _ => by exact (((HSS.out.set HYK.out (by decide) _).set HYK.out (by decide) _).set HYK.out (by decide) _)) ?_
    clear hK K'
    try simp only [Act.put, List.setIfInBounds_toArray, List.set_cons_zero, List.set_cons_succ]
    refine wpAnyT_one (i := 27) (by kernel_rfl) rfl rfl (fun K' hK => ?_)
    go_simp
    refine hK.out _ _ (fun _ => by exact (((HSS.out.set HYK.out (by decide) _).set HYK.out (by decide) _).set HYK.out (by decide) _)) ?_
    clear hK K'
    try simp only [Act.put, List.setIfInBounds_toArray, List.set_cons_zero, List.set_cons_succ]
    refine wpAnyT_one (i := 28) (by kernel_rfl) rfl rfl (fun K' hK => ?_)
    go_simp
    refine hK.out _ _ (fun _ => by exact (((HSS.out.set HYK.out (by decide) _).set HYK.out (by decide) _).set HYK.out (by decide) _)) ?_
    clear hK K'
    try simp only [Act.put, List.setIfInBounds_toArray, List.set_cons_zero, List.set_cons_succ]
    refine wpAnyT_one (i := 29) (by kernel_rfl) rfl rfl (fun K' hK => ?_)
    go_simp
    refine hK.out _ _ (fun _ => by exact (((HSS.out.set HYK.out (by decide) _).set HYK.out (by decide) _).set HYK.out (by decide) _)) ?_
    clear hK K'
    try simp only [Act.put, List.setIfInBounds_toArray, List.set_cons_zero, List.set_cons_succ]
    refine wpAnyT_one (i := 30) (by kernel_rfl) rfl rfl (fun K' hK => ?_)
    go_simp
    refine hK.out _ _ (fun h => absurd rfl h) ?_
    clear hK K'
    try simp only [Act.put, List.setIfInBounds_toArray, List.set_cons_zero, List.set_cons_succ]
    refine wpAnyT_done (by kernel_rfl) ?_ _
    go_wp2
    go_ret
    refine ⟨rfl, (arm4 (S := ⟨last, armed, point, want, left, pat⟩) (by exact HK1.out) no pt wt pat).1, ?_, ?_⟩
    · exact own_keep (own_drewN HO1.out _) (but_keep (arm4 (S := ⟨last, armed, point, want, left, pat⟩) (by exact HK1.out) no pt wt pat).2 (by exact HK1.out)) (by decide)
    · exact (below_drewN HB1'.out _).trans ((arm4 (S := ⟨last, armed, point, want, left, pat⟩) (by exact HK1.out) no pt wt pat).2.below hB (by exact Nat.le_trans HBS.out HB1s.out))
end Go.Proofs.Ytjhmendiefojoam
