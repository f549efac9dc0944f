/- Many steps, pure; what Run answers. -/
import Derived.Test.YtligmokepafnbajH5
namespace Go.Proofs.Ytligmokepafnbaj
open Go.RowKit Go.Shelf

/-- one step: the stages watch, then the frequency moves -/
def stepS (damp mass dt : Option Nat) (st : List StM × Option Nat) (x : Nat × Nat) : List StM × Option Nat :=
  (watchS st.1 st.2, stepO st.2 (nm x.1) (fop .mul (nm x.2) (keptO (watchS st.1 st.2))) damp mass dt)

/-- the stages and the frequency behind k steps -/
def runS (damp mass dt : Option Nat) (S : List StM) (f : Option Nat) (xs : List (Nat × Nat)) (k : Nat) : List StM × Option Nat := (xs.take k).foldl (stepS damp mass dt) (S, f)

theorem runS_next {damp mass dt : Option Nat} {S : List StM} {f : Option Nat} {md dr : List Nat} {k : Nat} (h : k < md.length) (hd : dr.length = md.length) :
    runS damp mass dt S f (md.zip dr) (k + 1) = stepS damp mass dt (runS damp mass dt S f (md.zip dr) k) (md.getD k 0, dr.getD k 0) := by
  have hz : k < (md.zip dr).length := by rw [List.length_zip]; omega
  have e1 : md.getD k 0 = md[k] := by rw [List.getD_eq_getElem?_getD, List.getElem?_eq_getElem h]; rfl
  have e2 : dr.getD k 0 = dr[k]'(by omega) := by rw [List.getD_eq_getElem?_getD, List.getElem?_eq_getElem (by omega)]; rfl
  unfold runS
  rw [List.take_add_one, List.getElem?_eq_getElem hz, List.foldl_append, List.getElem_zip, e1, e2]
  rfl
theorem fold_len (damp mass dt : Option Nat) (xs : List (Nat × Nat)) : ∀ (S : List StM) (f : Option Nat), (xs.foldl (stepS damp mass dt) (S, f)).1.length = S.length := by
  induction xs with
  | nil => intro S f; rfl
  | cons x r ih =>
    intro S f
    rw [List.foldl_cons]
    exact (ih _ _).trans (watch_len _ _)
theorem runS_len (damp mass dt : Option Nat) (S : List StM) (f : Option Nat) (xs : List (Nat × Nat)) (k : Nat) : (runS damp mass dt S f xs k).1.length = S.length := fold_len _ _ _ _ _ _

/-- F behind each of the first k steps -/
def toldS (damp mass dt : Option Nat) (S : List StM) (f : Option Nat) (xs : List (Nat × Nat)) (k : Nat) : List (Option Nat) := (List.range k).map fun j => (runS damp mass dt S f xs (j + 1)).2
theorem told_next (damp mass dt : Option Nat) (S : List StM) (f : Option Nat) (xs : List (Nat × Nat)) (k : Nat) : toldS damp mass dt S f xs (k + 1) = toldS damp mass dt S f xs k ++ [(runS damp mass dt S f xs (k + 1)).2] := by
  unfold toldS
  rw [List.range_succ, List.map_append]
  rfl
theorem told_len (damp mass dt : Option Nat) (S : List StM) (f : Option Nat) (xs : List (Nat × Nat)) (k : Nat) : (toldS damp mass dt S f xs k).length = k := by simp [toldS]

def zero2 : Array Value := #[.float .f64 0, .slice none 0 0]

/-- May it be run? -/
def RunMay (md dr : List Nat) (l : List (Nat × Nat)) (g : List Bool) : Prop := md.length = dr.length ∧ md.length ≤ 50 ∧ l.length ≤ 6 ∧ g.length = l.length

/-- What Run answers. -/
def RunO (f damp mass dt : Nat) (md dr : List Nat) (l : List (Nat × Nat)) (g : List Bool) (w : World) (e : Ending) (w' : World) : Prop :=
  ((¬ RunMay md dr l g ∧ e = .returned (.tuple #[.agg #[.float .f64 0, .slice none 0 0], .slice none 0 0, .int .i64 2])) ∨
    (RunMay md dr l g ∧ ∃ (r : Nat) (vg vt : Value) (tl : List Nat), e = .returned (.tuple #[.agg #[.float .f64 r, vg], vt, .int .i64 0]) ∧
      nm r = (runS (nm damp) (nm mass) (nm dt) (atWorkS l g) (nm f) (md.zip dr) md.length).2 ∧
      w'.ownsRow w.heap.size 4 1 vg l.length ((((runS (nm damp) (nm mass) (nm dt) (atWorkS l g) (nm f) (md.zip dr) md.length).1).map StM.gone).map Value.bool) ∧
      w'.ownsRow w.heap.size 22 1 vt md.length (fls tl) ∧ tl.map nm = toldS (nm damp) (nm mass) (nm dt) (atWorkS l g) (nm f) (md.zip dr) md.length)) ∧ Below w.heap.size w w'

theorem atWork_len (l : List (Nat × Nat)) (g : List Bool) (h : g.length = l.length) : (atWorkS l g).length = l.length := by
  unfold atWorkS; rw [List.length_map, List.length_zip]; omega

/-- Where the run's blocks lie: the answer's, the stages', the told row's. -/
structure RB (w wr : World) (A K T : Nat) (S : List StM) (tl : List Nat) : Prop where
  hA : wr.heap[A]? = some (.cells zero2 25 (0, 0))
  hS : SAt wr K S
  hT : wr.heap[T]? = some (.cells (fls tl).toArray 22 (0, 0))
  sA : w.heap.size ≤ A
  sK : w.heap.size ≤ K
  sT : w.heap.size ≤ T
  nAK : A ≠ K
  nAT : A ≠ T
  nKT : K ≠ T
  bel : Below w.heap.size w wr
theorem lt_heap {w : World} {k : Nat} {o : Obj} (h : w.heap[k]? = some o) : k < w.heap.size := (Array.getElem?_eq_some_iff.1 h).1
theorem RB.more {w wr wr' : World} {A K T : Nat} {S : List StM} {tl : List Nat} (h : RB w wr A K T S tl) (hb : Below wr.heap.size wr wr') : RB w wr' A K T S tl :=
  ⟨(hb.block A (lt_heap h.hA)).trans h.hA, h.hS.below hb h.hS.lt, (hb.block T (lt_heap h.hT)).trans h.hT, h.sA, h.sK, h.sT, h.nAK, h.nAT, h.nKT, h.bel.trans (hb.mono h.bel.size)⟩
theorem RB.watch {w wr wr' : World} {A K T : Nat} {S S' : List StM} {tl : List Nat} (h : RB w wr A K T S tl) (hs : SAt wr' K S') (hb : But K wr wr') : RB w wr' A K T S' tl :=
  ⟨(hb.block A (lt_heap h.hA) h.nAK).trans h.hA, hs, (hb.block T (lt_heap h.hT) (Ne.symm h.nKT)).trans h.hT, h.sA, h.sK, h.sT, h.nAK, h.nAT, h.nKT, h.bel.trans ⟨hb.os, hb.tape, hb.output, hb.size, fun j hj => hb.block j (Nat.lt_of_lt_of_le hj h.bel.size) (Nat.ne_of_lt (Nat.lt_of_lt_of_le hj h.sK))⟩⟩
theorem RB.set {w wr : World} {A K T : Nat} {S : List StM} {tl : List Nat} (h : RB w wr A K T S tl) (j x : Nat) : RB w (wr.setCell ⟨T, j, none⟩ (.float .f64 x)) A K T S (tl.set j x) := by
  refine ⟨(Below.heap_setCell _ _ _ A h.nAT).trans h.hA, ?_, ?_, h.sA, h.sK, h.sT, h.nAK, h.nAT, h.nKT, h.bel.setCell (p := ⟨T, j, none⟩) h.sT _⟩
  · exact (Below.heap_setCell _ _ _ K h.nKT).trans h.hS
  · rw [set_any h.hT, List.setIfInBounds_toArray]
    unfold fls
    rw [List.map_set]
theorem fls_own {w : World} {B T n : Nat} {l : List Nat} (h : w.heap[T]? = some (.cells (fls l).toArray 22 (0, 0))) (hs : B ≤ T) (hl : l.length = n) (hn : n ≤ 1000) : w.ownsRow B 22 1 (.slice (some ⟨T, 0, none⟩) n n) n (fls l) := by
  subst hl
  exact ⟨by rw [fls_len, Nat.mul_one], .inr ⟨T, l.length, _, rfl, hs, h, Nat.le_refl _, by unfold maxLen; omega, by simp [fls_len], by rw [List.take_of_length_le (by simp [fls_len])]⟩⟩
theorem made_fl (n : Nat) : (madeCells (Value.float .f64 0).cells (n * 1)).toList = fls (List.replicate n 0) := by
  apply List.ext_getElem
  · simp [madeCells, fls]
  · intro i h1 h2
    simp [madeCells, Value.cells, Nat.mod_one, fls]
theorem take_set (tl : List Nat) (k x : Nat) (hk : k < tl.length) : (tl.set k x).take (k + 1) = tl.take k ++ [x] := by
  rw [List.take_set, List.take_add_one, List.getElem?_eq_getElem hk]
  have h : (tl.take k).length = k := by rw [List.length_take]; omega
  rw [List.set_append_right _ _ (by omega), h, Nat.sub_self]
  rfl
theorem set2 (b0 b1 x0 x1 : Value) : (#[b0, b1].setIfInBounds 0 x0).setIfInBounds 1 x1 = #[x0, x1] := by simp only [List.setIfInBounds_toArray, List.set_cons_zero, List.set_cons_succ]

attribute [local go_sem] run_fadd run_fsub run_fmul run_fquo run_store_float

set_option maxRecDepth 100000 in
set_option maxHeartbeats 4000000 in
theorem Run_any (f damp mass dt : Nat) (md dr : List Nat) (l : List (Nat × Nat)) (g : List Bool) (vm vd vl vg : Value) (w : World)
    (hm : RowAt w vm md.length 1 (fls md)) (hd : RowAt w vd dr.length 1 (fls dr)) (hl : RowAt w vl l.length 2 (l.flatMap sgc)) (hg : RowAt w vg g.length 1 (g.map Value.bool)) :
    Calls Try.prog 8 #[.agg #[.float .f64 f, vg], .float .f64 damp, .float .f64 mass, .float .f64 dt, vm, vd, vl] w (RunO f damp mass dt md dr l g w) := by
  obtain ⟨i22, hi22, h220, h221, h222⟩ := info_parts Try.info22
  have HM := hide' hm
  have HD := hide' hd
  have HL := hide' hl
  have HGN := hide' hg
  obtain ⟨am, cm, rfl⟩ := rowAt_slice hm
  obtain ⟨ad, cd, rfl⟩ := rowAt_slice hd
  obtain ⟨al, cl, rfl⟩ := rowAt_slice hl
  obtain ⟨ag, cg, rfl⟩ := rowAt_slice hg
  obtain ⟨R, hR⟩ : ∃ R, R = RunO f damp mass dt md dr l g w := ⟨_, rfl⟩
  have HR := hide' hR
  rw [← hR]
  clear hm hd hl hg hR
  go_enter Try.func8, Try.ntmps8
  go_upto_region 1 with fail
  have HA0 : Hid (((w.alloc (.cells #[.float .f64 f, .slice ag g.length cg] 25)).alloc (.cells #[.float .f64 0, .slice none 0 0] 25)).heap[w.heap.size + 1]? = some (.cells zero2 25 (0, 0)) ∧ ((w.alloc (.cells #[.float .f64 f, .slice ag g.length cg] 25)).alloc (.cells #[.float .f64 0, .slice none 0 0] 25)).heap[w.heap.size]? = some (.cells #[.float .f64 f, .slice ag g.length cg] 25 (0, 0)) ∧ Below w.heap.size w ((w.alloc (.cells #[.float .f64 f, .slice ag g.length cg] 25)).alloc (.cells #[.float .f64 0, .slice none 0 0] 25)) ∧ w.heap.size ≤ w.heap.size + 1) := by
    have hA := alloc_new (w.alloc (.cells #[.float .f64 f, .slice ag g.length cg] 25)) (.cells #[.float .f64 0, .slice none 0 0] 25)
    rw [World.size_alloc] at hA
    exact ⟨hA, (alloc_old _ _ (by simp)).trans (alloc_new _ _), (below_al w _).alloc (by simp) _, by omega⟩
  obtain ⟨w1, hw1⟩ : ∃ x, x = ((w.alloc (.cells #[.float .f64 f, .slice ag g.length cg] 25)).alloc (.cells #[.float .f64 0, .slice none 0 0] 25)) := ⟨_, rfl⟩
  rw [← hw1] at HA0 ⊢
  obtain ⟨A, hA⟩ : ∃ S, S = w.heap.size + 1 := ⟨_, rfl⟩
  rw [← hA] at HA0 ⊢
  obtain ⟨Y, hY⟩ : ∃ S, S = w.heap.size := ⟨_, rfl⟩
  have HA1 : Hid (w1.heap[A]? = some (.cells zero2 25 (0, 0)) ∧ w1.heap[Y]? = some (.cells #[.float .f64 f, .slice ag g.length cg] 25 (0, 0)) ∧ Below w.heap.size w w1 ∧ w.heap.size ≤ A) := by rw [hY]; exact HA0
  rw [show (Value.pointer (some { block := w.heap.size, off := 0 })) = Value.pointer (some { block := Y, off := 0 }) by rw [hY]]
  clear hw1 hA hY HA0
  have y0 : w1.cell? ⟨Y, 0, none⟩ = some (.float .f64 f) := (cells_at HA1.out.2.1 0).trans rfl
  have y1 : w1.cell? ⟨Y, 1, none⟩ = some (.slice ag g.length cg) := (cells_at HA1.out.2.1 1).trans rfl
  by_cases hok : RunMay md dr l g
  · obtain ⟨k1, k2, k3, k4⟩ := hok
    have q1 : ((md.length : Int) != (dr.length : Int)) = false := by rw [k1]; simp
    have q2 : ¬ (50 : Int) < (md.length : Int) := by omega
    have q3 : ¬ (6 : Int) < (l.length : Int) := by omega
    have q4 : ((g.length : Int) != (l.length : Int)) = false := by rw [k4]; simp
    have HOK : Hid (md.length = dr.length ∧ md.length ≤ 50 ∧ l.length ≤ 6 ∧ g.length = l.length) := ⟨k1, k2, k3, k4⟩
    clear k1 k2 k3 k4
    have HAW : Hid (Calls Try.prog 20 #[.slice al l.length cl, .slice ag g.length cg] w1.drew fun e w' => e = .returned (.slice (some ⟨w1.heap.size, 0, none⟩) l.length l.length) ∧ SAt w' w1.heap.size (atWorkS l g) ∧ Below w1.heap.size w1 w') := by
      have hb := HA1.out.2.2.1.drew
      refine (atWork_any l g (.slice al l.length cl) (.slice ag g.length cg) w1.drew (HL.out.below hb (Nat.le_refl _)) ?_ HOK.out.2.2.2 (by have := HOK.out.2.2.1; omega)).mono ?_
      · have h2 := HGN.out.below hb (Nat.le_refl _)
        rw [HOK.out.2.2.2] at h2 ⊢
        exact h2
      · rintro e w' ⟨rfl, h1, h2⟩
        exact ⟨rfl, h1, (Below.refl _ w1).drew.trans h2⟩
    go_upto_region 5 with fail
    refine wp_region_tail (fun W => W.cell? ⟨Y, 0, none⟩ = some (.float .f64 f) ∧ W.cell? ⟨Y, 1, none⟩ = some (.slice ag g.length cg)) 7 (by kernel_rfl) ?_
    refine wpAnyD_takeAt 0 (some 46) (v := ?_) rfl (by kernel_rfl) (by kernel_rfl) (by kernel_rfl) (by kernel_rfl) (by kernel_rfl) (fun _ _ _ h => h) (by exact ⟨y0, y1⟩) (fun o hop => ?_) ?_
    rotate_left
    · injection hop with hop
      subst hop
      refine ⟨rfl, fun W hW => ?_⟩
      obtain ⟨s0, s1⟩ := hW
      go_simp
      first
      | rfl
      | rw [if_neg (by omega)]
    try simp only [Act.put, List.setIfInBounds_toArray, List.set_cons_zero, List.set_cons_succ]
    refine wpAnyD_takeAt 1 (some 47) (v := ?_) rfl (by kernel_rfl) (by kernel_rfl) (by kernel_rfl) (by kernel_rfl) (by kernel_rfl) (fun _ _ _ h => h) (by exact ⟨y0, y1⟩) (fun o hop => ?_) ?_
    rotate_left
    · injection hop with hop
      subst hop
      refine ⟨rfl, fun W hW => ?_⟩
      obtain ⟨s0, s1⟩ := hW
      go_simp
      first
      | rfl
      | rw [if_neg (by omega)]
    try simp only [Act.put, List.setIfInBounds_toArray, List.set_cons_zero, List.set_cons_succ]
    refine wpAnyD_takeAt 2 (some 48) (v := ?_) rfl (by kernel_rfl) (by kernel_rfl) (by kernel_rfl) (by kernel_rfl) (by kernel_rfl) (fun _ _ _ h => h) (by exact ⟨y0, y1⟩) (fun o hop => ?_) ?_
    rotate_left
    · injection hop with hop
      subst hop
      refine ⟨rfl, fun W hW => ?_⟩
      obtain ⟨s0, s1⟩ := hW
      go_simp
      first
      | rfl
      | rw [if_neg (by omega)]
    try simp only [Act.put, List.setIfInBounds_toArray, List.set_cons_zero, List.set_cons_succ]
    refine wpAnyD_takeAt 4 (some 50) (v := ?_) rfl (by kernel_rfl) (by kernel_rfl) (by kernel_rfl) (by kernel_rfl) (by kernel_rfl) (fun _ _ _ h => h) (by exact ⟨y0, y1⟩) (fun o hop => ?_) ?_
    rotate_left
    · injection hop with hop
      subst hop
      refine ⟨rfl, fun W hW => ?_⟩
      obtain ⟨s0, s1⟩ := hW
      go_simp
      first
      | rfl
      | rw [if_neg (by omega)]
    try simp only [Act.put, List.setIfInBounds_toArray, List.set_cons_zero, List.set_cons_succ]
    refine wpAnyD_takeAt 5 (some 51) (v := ?_) rfl (by kernel_rfl) (by kernel_rfl) (by kernel_rfl) (by kernel_rfl) (by kernel_rfl) (fun _ _ _ h => h) (by exact ⟨y0, y1⟩) (fun o hop => ?_) ?_
    rotate_left
    · injection hop with hop
      subst hop
      refine ⟨rfl, fun W hW => ?_⟩
      obtain ⟨s0, s1⟩ := hW
      go_simp
      first
      | rfl
      | rw [if_neg (by omega)]
    try simp only [Act.put, List.setIfInBounds_toArray, List.set_cons_zero, List.set_cons_succ]
    refine wpAnyT_one (i := 3) (by kernel_rfl) rfl rfl (fun K' hK => ?_)
    go_simp
    go_at_call 20
    refine HAW.out.mono ?_
    rintro e w2 ⟨rfl, hs2, hb2⟩
    have HS2 := hide' hs2
    have HB2 := hide' hb2
    have z0 := up_cell hb2 y0
    have z1 := up_cell hb2 y1
    refine hK.out _ _ (fun _ => by exact ⟨z0, z1⟩) ?_
    clear hK K' hs2 hb2 HAW y0 y1
    refine wpAnyT_one (i := 6) (by kernel_rfl) rfl rfl (fun K' hK => ?_)
    go_simp
    refine hK.out _ _ (fun _ => by exact ⟨z0, z1⟩) ?_
    clear hK K'
    refine wpAnyT_one (i := 7) (by kernel_rfl) rfl rfl (fun K' hK => ?_)
    go_simp
    refine hK.out _ _ (fun h => absurd rfl h) ?_
    clear hK K'
    refine wpAnyT_done (by kernel_rfl) ?_ _
    obtain ⟨K, hK⟩ : ∃ K, K = w1.heap.size := ⟨_, rfl⟩
    have HKE := hide' hK
    rw [← hK] at HS2 HB2 ⊢
    clear hK z0 z1
    go_wp2_with (at_make; refine wpList_make_full _ rfl _ _ 26 rfl w2.heap.size 22 i22 (.float .f64 0) 1 Try.underlying26 hi22 h220 h221 .i64 .i64 _ _ md.length rfl rfl rfl rfl (by rw [h222]; have := HOK.out.2.1; omega) (by have := HOK.out.2.1; unfold maxLen; omega) (Nat.le_refl _) ?_; intro w3 hown3 hgr3; refine Still.go ?_)
    unfold Still
    have HRB : Hid (RB w w3 A K w2.heap.size (atWorkS l g) (List.replicate md.length 0)) := by
      have hb3 : Below w2.heap.size w2 w3 := (Below.refl _ w2).grown hgr3 (Nat.le_refl _) (fun k e => by cases e)
      have h1 := row_cells hown3
      rw [made_fl] at h1
      have hA2 : w2.heap[A]? = some (.cells zero2 25 (0, 0)) := (HB2.out.block A (by rw [HKE.out]; exact lt_heap HA1.out.1)).trans HA1.out.1
      have hAK : A < K := by rw [HKE.out]; exact lt_heap HA1.out.1
      have hK2 : K < w2.heap.size := HS2.out.lt
      have hwK : w.heap.size ≤ K := Nat.le_trans HA1.out.2.2.2 (Nat.le_of_lt hAK)
      exact ⟨(hb3.block A (lt_heap hA2)).trans hA2, HS2.out.below hb3 hK2, h1, HA1.out.2.2.2, hwK, Nat.le_trans hwK (Nat.le_of_lt hK2), Nat.ne_of_lt hAK, Nat.ne_of_lt (Nat.lt_trans hAK hK2), Nat.ne_of_lt hK2, (HA1.out.2.2.1.trans (HB2.out.mono hwK)).trans (hb3.mono (Nat.le_trans hwK (Nat.le_of_lt hK2)))⟩
    obtain ⟨T, hT⟩ : ∃ T, T = w2.heap.size := ⟨_, rfl⟩
    rw [← hT] at HRB ⊢
    clear hown3 hgr3 hT HB2 HS2 HKE HA1
    obtain ⟨n, hn⟩ : ∃ n, n = md.length := ⟨_, rfl⟩
    have HN := hide' hn
    rw [← hn] at HRB HOK q1 q2 ⊢
    clear hn
    go_wp2_with fail
    go_loopw [18, 57] (fun x i wr => ∃ (k r : Nat), i = .int .i64 k ∧ x = .float .f64 r ∧ k ≤ n ∧ Hid (nm r = (runS (nm damp) (nm mass) (nm dt) (atWorkS l g) (nm f) (md.zip dr) k).2) ∧ Hid (∃ tl, RB w wr A K T (runS (nm damp) (nm mass) (nm dt) (atWorkS l g) (nm f) (md.zip dr) k).1 tl ∧ tl.length = n ∧ (tl.take k).map nm = (toldS (nm damp) (nm mass) (nm dt) (atWorkS l g) (nm f) (md.zip dr) k))) (fun _ i _ => n - (intOf i).toNat)
    case atStart => exact ⟨0, f, rfl, rfl, Nat.zero_le _, rfl, ⟨_, HRB.out, List.length_replicate, rfl⟩⟩
    case round =>
      obtain ⟨k, r, rfl, rfl, hk, HF, HT⟩ := hrel
      by_cases hlt : k < n
      · obtain ⟨tl, ht1, ht2, ht3⟩ := HT.out
        have hlt2 : k < dr.length := by rw [← HOK.out.1]; exact hlt
        have HNX := hide' (runS_next (damp := nm damp) (mass := nm mass) (dt := nm dt) (S := atWorkS l g) (f := nm f) (md := md) (dr := dr) (k := k) (by rw [← HN.out]; exact hlt) (by rw [← HN.out]; exact HOK.out.1.symm))
        have hSl : (runS (nm damp) (nm mass) (nm dt) (atWorkS l g) (nm f) (md.zip dr) k).1.length = l.length := (runS_len _ _ _ _ _ _ _).trans (atWork_len l g HOK.out.2.2.2)
        have HTN := hide' (told_next (nm damp) (nm mass) (nm dt) (atWorkS l g) (nm f) (md.zip dr) k)
        obtain ⟨bm, om, cm', exm, hcm⟩ := fl_cell HM.out k (by rw [← HN.out]; exact hlt)
        cases exm
        obtain ⟨bd, od, cd', exd, hcd⟩ := fl_cell HD.out k (by rw [← HOK.out.1]; exact hlt)
        cases exd
        have HWA : Hid (Calls Try.prog 21 #[.slice (some ⟨K, 0, none⟩) l.length l.length, .float .f64 r] wr fun e w' => e = .returned (.tuple #[]) ∧ SAt w' K (watchS (runS (nm damp) (nm mass) (nm dt) (atWorkS l g) (nm f) (md.zip dr) k).1 (runS (nm damp) (nm mass) (nm dt) (atWorkS l g) (nm f) (md.zip dr) k).2) ∧ But K wr w') := by
          have h1 := watch_any K (runS (nm damp) (nm mass) (nm dt) (atWorkS l g) (nm f) (md.zip dr) k).1 r wr ht1.hS (by rw [hSl]; have := HOK.out.2.2.1; omega)
          rw [hSl, HF.out] at h1
          exact h1
        obtain ⟨S, hS⟩ : ∃ S, S = (runS (nm damp) (nm mass) (nm dt) (atWorkS l g) (nm f) (md.zip dr) k).1 := ⟨_, rfl⟩
        obtain ⟨F, hF⟩ : ∃ F, F = (runS (nm damp) (nm mass) (nm dt) (atWorkS l g) (nm f) (md.zip dr) k).2 := ⟨_, rfl⟩
        have hpair : (runS (nm damp) (nm mass) (nm dt) (atWorkS l g) (nm f) (md.zip dr) k) = (S, F) := by rw [hS, hF]
        rw [hpair] at HNX
        rw [← hS] at ht1 HWA hSl
        rw [← hF] at HWA HF
        obtain ⟨x, hx⟩ : ∃ x, x = md.getD k 0 := ⟨_, rfl⟩
        obtain ⟨y, hy⟩ : ∃ y, y = dr.getD k 0 := ⟨_, rfl⟩
        rw [← hx] at hcm HNX
        rw [← hy] at hcd HNX
        have HCM := hide' hcm
        have HCD := hide' hcd
        have HST : Hid (RB w wr A K T S tl ∧ tl.length = n ∧ (tl.take k).map nm = (toldS (nm damp) (nm mass) (nm dt) (atWorkS l g) (nm f) (md.zip dr) k) ∧ S.length = l.length) := ⟨ht1, ht2, ht3, hSl⟩
        clear ht1 ht2 ht3 hSl hS hF hpair hx hy hcm hcd HT
        go_wp2_with (go_at_call 21; refine HWA.out.mono ?_; rintro e w4 ⟨rfl, hs4, hb4⟩; have HS4 := hide' hs4; have HB4 := hide' hb4; clear hs4 hb4; refine Still.go ?_)
        unfold Still
        have HR4 : Hid (RB w w4 A K T (watchS S F) tl) := HST.out.1.watch HS4.out HB4.out
        clear HS4 HB4 HWA
        go_upto_region 11 with fail
        have d0 : w4.drew.cell? ⟨bm, om + k, none⟩ = some (.float .f64 x) := up_cell HR4.out.bel.drew HCM.out
        have d1 : w4.drew.cell? ⟨bd, od + k, none⟩ = some (.float .f64 y) := up_cell HR4.out.bel.drew HCD.out
        have HKP : Hid (Calls Try.prog 22 #[.slice (some ⟨K, 0, none⟩) l.length l.length] w4.drew fun e w' => ∃ r n, e = .returned (.float .f64 r) ∧ nm r = keptO (watchS S F) ∧ w' = w4.drew.drewN n) := by
          have hl2 : (watchS S F).length = l.length := (watch_len _ _).trans HST.out.2.2.2
          have h1 := kept_any K (watchS S F) w4.drew HR4.out.hS (by rw [hl2]; have := HOK.out.2.2.1; omega)
          rw [hl2] at h1
          exact h1
        refine wp_region_tail (fun W => W.cell? ⟨bm, om + k, none⟩ = some (.float .f64 x) ∧ W.cell? ⟨bd, od + k, none⟩ = some (.float .f64 y)) 16 (by kernel_rfl) ?_
        refine wpAnyD_takeAt 0 (some 63) (v := ?_) rfl (by kernel_rfl) (by kernel_rfl) (by kernel_rfl) (by kernel_rfl) (by kernel_rfl) (fun _ _ _ h => h) (by exact ⟨d0, d1⟩) (fun o hop => ?_) ?_
        rotate_left
        · injection hop with hop
          subst hop
          refine ⟨rfl, fun W hW => ?_⟩
          obtain ⟨s0, s1⟩ := hW
          go_simp
          first
          | rfl
          | rw [if_neg (by omega)]
        try simp only [Act.put, List.setIfInBounds_toArray, List.set_cons_zero, List.set_cons_succ]
        refine wpAnyD_takeAt 1 (some 64) (v := ?_) rfl (by kernel_rfl) (by kernel_rfl) (by kernel_rfl) (by kernel_rfl) (by kernel_rfl) (fun _ _ _ h => h) (by exact ⟨d0, d1⟩) (fun o hop => ?_) ?_
        rotate_left
        · injection hop with hop
          subst hop
          refine ⟨rfl, fun W hW => ?_⟩
          obtain ⟨s0, s1⟩ := hW
          go_simp
          first
          | rfl
          | rw [if_neg (by omega)]
        try simp only [Act.put, List.setIfInBounds_toArray, List.set_cons_zero, List.set_cons_succ]
        refine wpAnyD_takeAt 2 (some 65) (v := ?_) rfl (by kernel_rfl) (by kernel_rfl) (by kernel_rfl) (by kernel_rfl) (by kernel_rfl) (fun _ _ _ h => h) (by exact ⟨d0, d1⟩) (fun o hop => ?_) ?_
        rotate_left
        · injection hop with hop
          subst hop
          refine ⟨rfl, fun W hW => ?_⟩
          obtain ⟨s0, s1⟩ := hW
          go_simp
          first
          | rfl
          | rw [if_neg (by omega)]
        try simp only [Act.put, List.setIfInBounds_toArray, List.set_cons_zero, List.set_cons_succ]
        refine wpAnyD_takeAt 3 (some 66) (v := ?_) rfl (by kernel_rfl) (by kernel_rfl) (by kernel_rfl) (by kernel_rfl) (by kernel_rfl) (fun _ _ _ h => h) (by exact ⟨d0, d1⟩) (fun o hop => ?_) ?_
        rotate_left
        · injection hop with hop
          subst hop
          refine ⟨rfl, fun W hW => ?_⟩
          obtain ⟨s0, s1⟩ := hW
          go_simp
          first
          | rfl
          | rw [if_neg (by omega)]
        try simp only [Act.put, List.setIfInBounds_toArray, List.set_cons_zero, List.set_cons_succ]
        refine wpAnyD_takeAt 4 (some 67) (v := ?_) rfl (by kernel_rfl) (by kernel_rfl) (by kernel_rfl) (by kernel_rfl) (by kernel_rfl) (fun _ _ _ h => h) (by exact ⟨d0, d1⟩) (fun o hop => ?_) ?_
        rotate_left
        · injection hop with hop
          subst hop
          refine ⟨rfl, fun W hW => ?_⟩
          obtain ⟨s0, s1⟩ := hW
          go_simp
          first
          | rfl
          | rw [if_neg (by omega)]
        try simp only [Act.put, List.setIfInBounds_toArray, List.set_cons_zero, List.set_cons_succ]
        refine wpAnyD_takeAt 5 (some 68) (v := ?_) rfl (by kernel_rfl) (by kernel_rfl) (by kernel_rfl) (by kernel_rfl) (by kernel_rfl) (fun _ _ _ h => h) (by exact ⟨d0, d1⟩) (fun o hop => ?_) ?_
        rotate_left
        · injection hop with hop
          subst hop
          refine ⟨rfl, fun W hW => ?_⟩
          obtain ⟨s0, s1⟩ := hW
          go_simp
          first
          | rfl
          | rw [if_neg (by omega)]
        try simp only [Act.put, List.setIfInBounds_toArray, List.set_cons_zero, List.set_cons_succ]
        refine wpAnyD_takeAt 6 (some 69) (v := ?_) rfl (by kernel_rfl) (by kernel_rfl) (by kernel_rfl) (by kernel_rfl) (by kernel_rfl) (fun _ _ _ h => h) (by exact ⟨d0, d1⟩) (fun o hop => ?_) ?_
        rotate_left
        · injection hop with hop
          subst hop
          refine ⟨rfl, fun W hW => ?_⟩
          obtain ⟨s0, s1⟩ := hW
          go_simp
          first
          | rfl
          | rw [if_neg (by omega)]
        try simp only [Act.put, List.setIfInBounds_toArray, List.set_cons_zero, List.set_cons_succ]
        refine wpAnyD_takeAt 7 (some 70) (v := ?_) rfl (by kernel_rfl) (by kernel_rfl) (by kernel_rfl) (by kernel_rfl) (by kernel_rfl) (fun _ _ _ h => h) (by exact ⟨d0, d1⟩) (fun o hop => ?_) ?_
        rotate_left
        · injection hop with hop
          subst hop
          refine ⟨rfl, fun W hW => ?_⟩
          obtain ⟨s0, s1⟩ := hW
          go_simp
          first
          | rfl
          | rw [if_neg (by omega)]
        try simp only [Act.put, List.setIfInBounds_toArray, List.set_cons_zero, List.set_cons_succ]
        refine wpAnyD_takeAt 8 (some 71) (v := ?_) rfl (by kernel_rfl) (by kernel_rfl) (by kernel_rfl) (by kernel_rfl) (by kernel_rfl) (fun _ _ _ h => h) (by exact ⟨d0, d1⟩) (fun o hop => ?_) ?_
        rotate_left
        · injection hop with hop
          subst hop
          refine ⟨rfl, fun W hW => ?_⟩
          obtain ⟨s0, s1⟩ := hW
          go_simp
          first
          | rfl
          | rw [if_neg (by omega)]
        try simp only [Act.put, List.setIfInBounds_toArray, List.set_cons_zero, List.set_cons_succ]
        refine wpAnyD_takeAt 9 (some 72) (v := ?_) rfl (by kernel_rfl) (by kernel_rfl) (by kernel_rfl) (by kernel_rfl) (by kernel_rfl) (fun _ _ _ h => h) (by exact ⟨d0, d1⟩) (fun o hop => ?_) ?_
        rotate_left
        · injection hop with hop
          subst hop
          refine ⟨rfl, fun W hW => ?_⟩
          obtain ⟨s0, s1⟩ := hW
          go_simp
          first
          | rfl
          | rw [if_neg (by omega)]
        try simp only [Act.put, List.setIfInBounds_toArray, List.set_cons_zero, List.set_cons_succ]
        refine wpAnyD_takeAt 12 (some 75) (v := ?_) rfl (by kernel_rfl) (by kernel_rfl) (by kernel_rfl) (by kernel_rfl) (by kernel_rfl) (fun _ _ _ h => h) (by exact ⟨d0, d1⟩) (fun o hop => ?_) ?_
        rotate_left
        · injection hop with hop
          subst hop
          refine ⟨rfl, fun W hW => ?_⟩
          obtain ⟨s0, s1⟩ := hW
          go_simp
          first
          | rfl
          | rw [if_neg (by omega)]
        try simp only [Act.put, List.setIfInBounds_toArray, List.set_cons_zero, List.set_cons_succ]
        refine wpAnyD_takeAt 13 (some 76) (v := ?_) rfl (by kernel_rfl) (by kernel_rfl) (by kernel_rfl) (by kernel_rfl) (by kernel_rfl) (fun _ _ _ h => h) (by exact ⟨d0, d1⟩) (fun o hop => ?_) ?_
        rotate_left
        · injection hop with hop
          subst hop
          refine ⟨rfl, fun W hW => ?_⟩
          obtain ⟨s0, s1⟩ := hW
          go_simp
          first
          | rfl
          | rw [if_neg (by omega)]
        try simp only [Act.put, List.setIfInBounds_toArray, List.set_cons_zero, List.set_cons_succ]
        refine wpAnyD_takeAt 14 (some 77) (v := ?_) rfl (by kernel_rfl) (by kernel_rfl) (by kernel_rfl) (by kernel_rfl) (by kernel_rfl) (fun _ _ _ h => h) (by exact ⟨d0, d1⟩) (fun o hop => ?_) ?_
        rotate_left
        · injection hop with hop
          subst hop
          refine ⟨rfl, fun W hW => ?_⟩
          obtain ⟨s0, s1⟩ := hW
          go_simp
          first
          | rfl
          | rw [if_neg (by omega)]
        try simp only [Act.put, List.setIfInBounds_toArray, List.set_cons_zero, List.set_cons_succ]
        refine wpAnyT_one (i := 10) (by kernel_rfl) rfl rfl (fun K' hK => ?_)
        go_simp
        go_at_call 22
        refine HKP.out.mono ?_
        rintro e w5 ⟨rk, n5, rfl, hrk, hw5⟩
        have HRK := hide' hrk
        have HW5 : Hid (Below w4.heap.size w4 w5) := by show Below _ _ _; rw [hw5]; exact below_drewN (Below.refl _ w4).drew n5
        have e0 := up_cell HW5.out (a := ⟨bm, om + k, none⟩) (u := .float .f64 x) d0
        have e1 := up_cell HW5.out (a := ⟨bd, od + k, none⟩) (u := .float .f64 y) d1
        refine hK.out _ _ (fun _ => by exact ⟨e0, e1⟩) ?_
        clear hK K' hrk hw5 HKP d0 d1
        refine wpAnyT_one (i := 11) (by kernel_rfl) rfl rfl (fun K' hK => ?_)
        go_simp
        have HW6 : Hid (∀ m, Below w4.heap.size w4 (w5.drewN m)) := fun m => below_drewN HW5.out m
        have HRM : Hid (∀ W, nm (fres .mul W y rk) = fop .mul (nm y) (keptO (watchS S F))) := fun W => by rw [nm_fres, HRK.out]
        refine hK.out _ _ (fun _ => by exact ⟨e0, e1⟩) ?_
        clear hK K' HRK
        have HSP := hide' (Step_any r x (fres .mul w5 y rk) damp mass dt (w5.drewN (fdr .mul y rk)))
        refine wpAnyT_one (i := 15) (by kernel_rfl) rfl rfl (fun K' hK => ?_)
        go_simp
        go_at_call 19
        refine HSP.out.mono ?_
        rintro e w7 ⟨r7, n7, rfl, hr7, hw7⟩
        have HB7 : Hid (Below w4.heap.size w4 w7) := by show Below _ _ _; rw [hw7]; exact below_drewN (HW6.out _) n7
        have HF7 : Hid (nm r7 = (runS (nm damp) (nm mass) (nm dt) (atWorkS l g) (nm f) (md.zip dr) (k + 1)).2) := by show _ = _; rw [hr7, HRM.out, HNX.out, HF.out]; rfl
        have e2 := up_cell HB7.out (a := ⟨bm, om + k, none⟩) (u := .float .f64 x) (up_cell (w := w) HR4.out.bel HCM.out)
        have e3 := up_cell HB7.out (a := ⟨bd, od + k, none⟩) (u := .float .f64 y) (up_cell (w := w) HR4.out.bel HCD.out)
        refine hK.out _ _ (fun _ => by exact ⟨e2, e3⟩) ?_
        clear hK K' HSP hr7 hw7 HRM HW6 HW5 e0 e1
        refine wpAnyT_one (i := 16) (by kernel_rfl) rfl rfl (fun K' hK => ?_)
        go_simp
        refine hK.out _ _ (fun h => absurd rfl h) ?_
        clear hK K' e2 e3
        refine wpAnyT_done (by kernel_rfl) ?_ _
        have HR7 : Hid (RB w w7 A K T (runS (nm damp) (nm mass) (nm dt) (atWorkS l g) (nm f) (md.zip dr) (k + 1)).1 tl) := by show RB _ _ _ _ _ _ _; rw [HNX.out]; exact HR4.out.more HB7.out
        have cT : w7.cell? ⟨T, k, none⟩ = some (.float .f64 (tl[k]'(by rw [HST.out.2.1]; exact hlt))) := by
          rw [cells_at HR7.out.hT, List.getElem?_toArray, fls, List.getElem?_map, List.getElem?_eq_getElem (by rw [HST.out.2.1]; exact hlt)]; rfl
        obtain ⟨xT, hxT⟩ : ∃ x, x = tl[k]'(by rw [HST.out.2.1]; exact hlt) := ⟨_, rfl⟩
        rw [← hxT] at cT
        have fT : w7.frozen? ⟨T, k, none⟩ = false := frozen_no HR7.out.hT k
        have HEN : Hid (∃ tl, RB w (w7.setCell ⟨T, k, none⟩ (.float .f64 r7)) A K T (runS (nm damp) (nm mass) (nm dt) (atWorkS l g) (nm f) (md.zip dr) (k + 1)).1 tl ∧ tl.length = n ∧ (tl.take (k + 1)).map nm = (toldS (nm damp) (nm mass) (nm dt) (atWorkS l g) (nm f) (md.zip dr) (k + 1))) := by
          refine ⟨_, HR7.out.set k r7, by rw [List.length_set]; exact HST.out.2.1, ?_⟩
          rw [take_set _ _ _ (by rw [HST.out.2.1]; exact hlt), List.map_append, HST.out.2.2.1, HTN.out, ← HF7.out]
          rfl
        clear hxT HR4 HB7 HR7 HST HNX HTN
        go_wp2
        go_roundw
        case rel => exact ⟨k + 1, r7, by go_num, rfl, by omega, HF7.out, HEN.out⟩
        case measure => simp [intOf]; omega
      · have hkn : k = n := by omega
        subst hkn
        obtain ⟨tl, ht1, ht2, ht3⟩ := HT.out
        rw [← ht2, List.take_length, ht2] at ht3
        have hSl : (runS (nm damp) (nm mass) (nm dt) (atWorkS l g) (nm f) (md.zip dr) k).1.length = l.length := (runS_len _ _ _ _ _ _ _).trans (atWork_len l g HOK.out.2.2.2)
        have HHS : Hid (Calls Try.prog 23 #[.slice (some ⟨K, 0, none⟩) l.length l.length] wr fun e w' => ∃ v, e = .returned v ∧ w'.ownsRow wr.heap.size 4 1 v l.length (((runS (nm damp) (nm mass) (nm dt) (atWorkS l g) (nm f) (md.zip dr) k).1.map StM.gone).map Value.bool) ∧ Below wr.heap.size wr w') := by
          have h1 := haveShed_any K (runS (nm damp) (nm mass) (nm dt) (atWorkS l g) (nm f) (md.zip dr) k).1 wr ht1.hS (by rw [hSl]; have := HOK.out.2.2.1; omega)
          rw [hSl] at h1
          exact h1
        have HST := hide' ht1
        have HTL : Hid (tl.length = k ∧ tl.map nm = (toldS (nm damp) (nm mass) (nm dt) (atWorkS l g) (nm f) (md.zip dr) k)) := ⟨ht2, ht3⟩
        clear ht1 ht2 ht3 hSl HT
        go_wp2_with (go_at_call 23; refine HHS.out.mono ?_; rintro e w5 ⟨v5, rfl, hv5, hb5⟩; have HV5 := hide' hv5; have HB5 := hide' hb5; clear hb5; obtain ⟨a5, c5, ex5⟩ := own_slice hv5; subst ex5; clear hv5; refine Still.go ?_)
        unfold Still
        have HR5 := hide' (HST.out.more HB5.out)
        have a0 : w5.cell? ⟨A, 0, none⟩ = some (.float .f64 0) := (cells_at HR5.out.hA 0).trans rfl
        have a1 : w5.cell? ⟨A, 1, none⟩ = some (.slice none 0 0) := (cells_at HR5.out.hA 1).trans rfl
        have f0 := frozen_no HR5.out.hA 0
        have f1 := frozen_no HR5.out.hA 1
        have HAA : Hid (((w5.setCell ⟨A, 0, none⟩ (.float .f64 r)).setCell ⟨A, 1, none⟩ (.slice a5 l.length c5)).heap[A]? = some (.cells #[.float .f64 r, .slice a5 l.length c5] 25 (0, 0))) := (set_any (set_any HR5.out.hA 0 _) 1 _).trans (congrArg (fun c => some (Obj.cells c 25 (0, 0))) (set2 _ _ _ _))
        have HBF : Hid (Below w.heap.size w ((w5.setCell ⟨A, 0, none⟩ (.float .f64 r)).setCell ⟨A, 1, none⟩ (.slice a5 l.length c5))) := (HR5.out.bel.setCell (p := ⟨A, 0, none⟩) HR5.out.sA _).setCell (p := ⟨A, 1, none⟩) HR5.out.sA _
        have HOG : Hid (((w5.setCell ⟨A, 0, none⟩ (.float .f64 r)).setCell ⟨A, 1, none⟩ (.slice a5 l.length c5)).ownsRow w.heap.size 4 1 (.slice a5 l.length c5) l.length (((runS (nm damp) (nm mass) (nm dt) (atWorkS l g) (nm f) (md.zip dr) k).1.map StM.gone).map Value.bool)) := by
          refine own_base (own_other HV5.out fun j hj => ?_) HST.out.bel.size
          have hne : j ≠ A := fun e => by
            have h1 := own_at HV5.out j hj
            have h2 := lt_heap HST.out.hA
            omega
          rw [Below.heap_setCell _ _ _ j hne, Below.heap_setCell _ _ _ j hne]
        have HOT : Hid (((w5.setCell ⟨A, 0, none⟩ (.float .f64 r)).setCell ⟨A, 1, none⟩ (.slice a5 l.length c5)).ownsRow w.heap.size 22 1 (.slice (some ⟨T, 0, none⟩) k k) k (fls tl)) := by
          refine fls_own ?_ HR5.out.sT HTL.out.1 (by have := HOK.out.2.1; omega)
          rw [Below.heap_setCell _ _ _ T (Ne.symm HR5.out.nAT), Below.heap_setCell _ _ _ T (Ne.symm HR5.out.nAT)]
          exact HR5.out.hT
        clear HST HHS HV5 HB5 HR5
        go_wp2
        refine bodyPost_ret (results_cell_row2 rfl _ _ A 25 _ (0, 0) _ rfl HAA.out Try.underlying25 rfl (by kernel_rfl)) rfl ?_
        rw [HR.out]
        refine ⟨.inr ⟨?_, r, .slice a5 l.length c5, .slice (some ⟨T, 0, none⟩) k k, tl, rfl, ?_, ?_, ?_, ?_⟩, HBF.out⟩
        · obtain ⟨o1, o2, o3, o4⟩ := HOK.out
          exact ⟨by rw [← HN.out]; exact o1, by rw [← HN.out]; exact o2, o3, o4⟩
        · rw [← HN.out]; exact HF.out
        · rw [← HN.out]; exact HOG.out
        · rw [← HN.out]; exact HOT.out
        · rw [← HN.out]; exact HTL.out.2
  · have HNO := hide' hok
    have a0 : w1.cell? ⟨A, 0, none⟩ = some (.float .f64 0) := (cells_at HA1.out.1 0).trans rfl
    have a1 : w1.cell? ⟨A, 1, none⟩ = some (.slice none 0 0) := (cells_at HA1.out.1 1).trans rfl
    have f0 := frozen_no HA1.out.1 0
    have f1 := frozen_no HA1.out.1 1
    have HAA : Hid (((w1.setCell ⟨A, 0, none⟩ (.float .f64 0)).setCell ⟨A, 1, none⟩ (.slice none 0 0)).heap[A]? = some (.cells zero2 25 (0, 0))) := (set_any (set_any HA1.out.1 0 _) 1 _).trans (congrArg (fun c => some (Obj.cells c 25 (0, 0))) (set2 _ _ _ _))
    have HBF : Hid (Below w.heap.size w ((w1.setCell ⟨A, 0, none⟩ (.float .f64 0)).setCell ⟨A, 1, none⟩ (.slice none 0 0))) := (HA1.out.2.2.1.setCell (p := ⟨A, 0, none⟩) HA1.out.2.2.2 _).setCell (p := ⟨A, 1, none⟩) HA1.out.2.2.2 _
    by_cases c1 : md.length = dr.length
    · have q1 : ((md.length : Int) != (dr.length : Int)) = false := by rw [c1]; simp
      by_cases c2 : md.length ≤ 50
      · have q2 : ¬ (50 : Int) < (md.length : Int) := by omega
        by_cases c3 : l.length ≤ 6
        · have q3 : ¬ (6 : Int) < (l.length : Int) := by omega
          have q4 : ((g.length : Int) != (l.length : Int)) = true := by
            have : g.length ≠ l.length := fun h => hok ⟨c1, c2, c3, h⟩
            simp; omega
          clear hok c1 c2 c3 HA1
          go_wp2
          refine bodyPost_ret (results_cell_row2 rfl _ _ A 25 _ (0, 0) _ rfl HAA.out Try.underlying25 rfl (by kernel_rfl)) rfl ?_
          rw [HR.out]
          exact ⟨.inl ⟨HNO.out, rfl⟩, HBF.out⟩
        · have q3 : (6 : Int) < (l.length : Int) := by omega
          clear hok c1 c2 c3 HA1
          go_wp2
          refine bodyPost_ret (results_cell_row2 rfl _ _ A 25 _ (0, 0) _ rfl HAA.out Try.underlying25 rfl (by kernel_rfl)) rfl ?_
          rw [HR.out]
          exact ⟨.inl ⟨HNO.out, rfl⟩, HBF.out⟩
      · have q2 : (50 : Int) < (md.length : Int) := by omega
        clear hok c1 c2 HA1
        go_wp2
        refine bodyPost_ret (results_cell_row2 rfl _ _ A 25 _ (0, 0) _ rfl HAA.out Try.underlying25 rfl (by kernel_rfl)) rfl ?_
        rw [HR.out]
        exact ⟨.inl ⟨HNO.out, rfl⟩, HBF.out⟩
    · have q1 : ((md.length : Int) != (dr.length : Int)) = true := by simp; omega
      clear hok c1 HA1
      go_wp2
      refine bodyPost_ret (results_cell_row2 rfl _ _ A 25 _ (0, 0) _ rfl HAA.out Try.underlying25 rfl (by kernel_rfl)) rfl ?_
      rw [HR.out]
      exact ⟨.inl ⟨HNO.out, rfl⟩, HBF.out⟩
end Go.Proofs.Ytligmokepafnbaj
