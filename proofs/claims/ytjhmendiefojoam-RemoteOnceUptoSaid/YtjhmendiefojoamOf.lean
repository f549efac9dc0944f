/- The station hears, at the end of a line: nothing is carried out. -/
import Derived.Test.YtjhmendiefojoamYc
import Derived.Test.YtjhmendiefojoamOc
namespace Go.Proofs.Ytjhmendiefojoam
open Go.RowKit Go.Shelf

theorem WAt.but' {w w' : World} {B K A : Nat} {W : Wl} {pv dv uv ov av cv : Value} (h : WAt w B K W pv dv uv ov av cv) (hb : But A w w') (hne : K ≠ A) (hp : ∀ g, pv.ownBlock = some g → g ≠ A) (hd : ∀ g, dv.ownBlock = some g → g ≠ A) (hu : ∀ g, uv.ownBlock = some g → g ≠ A) (ho : ∀ g, ov.ownBlock = some g → g ≠ A) (ha : ∀ g, av.ownBlock = some g → g ≠ A) (hc : ∀ g, cv.ownBlock = some g → g ≠ A) : WAt w' B K W pv dv uv ov av cv :=
  ⟨(hb.block K (lt_heap h.cell) hne).trans h.cell, h.bk, own_other h.pts (fun k ek => hb.block k (own_lt h.pts ek) (hp k ek)), own_other h.dn (fun k ek => hb.block k (own_lt h.dn ek) (hd k ek)), own_other h.up (fun k ek => hb.block k (own_lt h.up ek) (hu k ek)), own_other h.od (fun k ek => hb.block k (own_lt h.od ek) (ho k ek)), own_other h.ak (fun k ek => hb.block k (own_lt h.ak ek) (ha k ek)), own_other h.ac (fun k ek => hb.block k (own_lt h.ac ek) (hc k ek)), h.adu, h.ado, h.ada, h.auo, h.aua, h.aoa⟩
set_option maxRecDepth 100000 in
set_option maxHeartbeats 8000000 in
theorem hear_same (W : Wl) (B K : Nat) (pa : Option Addr) (pc : Nat) (dv uv ov av cv : Value) (x : MsM) (w : World) (hW : WAt w B K W (.slice pa 4 pc) dv uv ov av cv) (h4 : W.l.length = 4) (l1 : List Bool) (T : StM) (rs : List MsM) (hH : ∀ w', Below w.heap.size w w' → Calls Try.prog 52 #[.agg (W.s.cells (.slice pa 4 pc)), .agg x.cells] w' (HearO l1 T rs 0 w')) (hl1 : l1.length = 4) (hrs : rs.length ≤ 1) (hup : W.up.length ≤ 1000000) (hak : W.asked.length ≤ 1000000) (hT : T.last = W.s.last) (hl : l1 = W.l) (hla : W.s.last < W.asked.length) : Calls Try.prog 40 #[.pointer (some ⟨K, 0, none⟩), .agg x.cells] w fun e w' => e = .returned (.bool true) ∧ (∃ pv' uv', WAt w' B K ⟨W.m, l1, T, W.down, W.up ++ rs, W.old, W.asked, W.acted⟩ pv' dv uv' ov av cv) ∧ Bl B w w' := by
  obtain ⟨i39, hi39, h390, h391, h392⟩ := info_parts Try.info39'
  have HT := hide' hT
  have HLL := hide' hl
  clear hT hl
  have HW := hide' hW
  have HB0 : Hid (B ≤ w.heap.size) := Nat.le_trans hW.bk (Nat.le_of_lt (lt_heap hW.cell))
  have HH := hide' hH
  have H4 := hide' h4
  have HL1 := hide' hl1
  clear hW hH h4
  obtain ⟨xk, xn, xp, xw⟩ := x
  obtain ⟨tl, ta, tp, tw, tf, tq⟩ := T
  unfold HearO StM.cells at HH
  unfold MsM.cells at HH ⊢
  rw [hl1] at HH
  simp only at HH ⊢
  clear hl1
  go_enter Try.func40, Try.ntmps40
  go_upto_region 1 with fail
  have hqZ := alloc_new w (.cells #[.int .i64 xk, .int .i64 xn, .int .i64 xp, .bool xw] 39)
  have hb1 := below_al w (.cells #[.int .i64 xk, .int .i64 xn, .int .i64 xp, .bool xw] 39)
  obtain ⟨w1, hw1⟩ : ∃ x, x = (w.alloc (.cells #[.int .i64 xk, .int .i64 xn, .int .i64 xp, .bool xw] 39)) := ⟨_, rfl⟩
  rw [← hw1] at hqZ hb1 ⊢
  obtain ⟨Z, hnZ⟩ : ∃ x, x = w.heap.size := ⟨_, rfl⟩
  have HNE : Hid (w.heap.size ≤ Z) := by show _ ≤ _; omega
  rw [← hnZ] at hqZ
  rw [show (Value.pointer (some { block := w.heap.size, off := 0 })) = Value.pointer (some { block := Z, off := 0 }) by rw [hnZ]]
  have HQZ := hide' hqZ
  have HB1 := hide' hb1
  clear hqZ hb1 hw1 hnZ
  have HW1 := hide' (HW.out.below HB1.out)
  have HBB : Hid (Bl B w w1) := bl_of HB1.out HB0.out
  have HS : Hid (w1.drew.heap[K]? = some (.cells #[.int .i64 W.m.no, .int .i64 W.m.ph, .int .i64 W.m.now, .int .i64 W.m.pt, .bool W.m.want, .int .i64 W.m.timer, .int .i64 W.m.pat, .int .i64 W.m.tries, .int .i64 W.m.lim, .bool W.m.gave, .slice pa 4 pc, .int .i64 W.s.last, .int .i64 W.s.armed, .int .i64 W.s.point, .bool W.s.want, .int .i64 W.s.left, .int .i64 W.s.pat, dv, uv, ov, av, cv] 52 (0, 0)) ∧ w1.drew.heap[Z]? = some (.cells #[.int .i64 xk, .int .i64 xn, .int .i64 xp, .bool xw] 39 (0, 0))) := ⟨HW1.out.cell, HQZ.out⟩
  have HC1 := hide' (HH.out w1.drew HB1.out.drew)
  have HC2 := hide' (fun z (hz : Below w1.heap.size w1 z) => HH.out z (HB1.out.trans (hz.mono HB1.out.size)))
  have HKZ : Hid (K < w1.heap.size ∧ Z < w1.heap.size ∧ w.heap.size ≤ w1.heap.size) := ⟨lt_heap HW1.out.cell, lt_heap HQZ.out, HB1.out.size⟩
  clear HB1 HQZ HH HW
  go_cut [5, 6, 7] from 11 to 20 (fun p5 p6 p7 wc => ∃ (E : Nat) (a1 : Option Addr) (c1 : Nat) (va : Option Addr) (vc : Nat), p5 = .pointer (some ⟨E, 0, none⟩) ∧ p6 = .slice va rs.length vc ∧ p7 = .int .i64 0 ∧ Hid (wc.heap[E]? = some (.cells #[.slice a1 4 c1, .int .i64 tl, .int .i64 ta, .int .i64 tp, .bool tw, .int .i64 tf, .int .i64 tq] 24 (0, 0)) ∧ (K ≠ E ∧ B ≤ E) ∧ wc.ownsRow 0 4 1 (.slice a1 4 c1) 4 (l1.map Value.bool) ∧ wc.ownsRow 0 39 4 (.slice va rs.length vc) rs.length (msgs rs) ∧ WAt wc B K W (.slice pa 4 pc) dv uv ov av cv ∧ Bl B w wc))
  case first =>
    refine wp_region_tail (fun W' => W'.heap[K]? = some (.cells #[.int .i64 W.m.no, .int .i64 W.m.ph, .int .i64 W.m.now, .int .i64 W.m.pt, .bool W.m.want, .int .i64 W.m.timer, .int .i64 W.m.pat, .int .i64 W.m.tries, .int .i64 W.m.lim, .bool W.m.gave, .slice pa 4 pc, .int .i64 W.s.last, .int .i64 W.s.armed, .int .i64 W.s.point, .bool W.s.want, .int .i64 W.s.left, .int .i64 W.s.pat, dv, uv, ov, av, cv] 52 (0, 0)) ∧ W'.heap[Z]? = some (.cells #[.int .i64 xk, .int .i64 xn, .int .i64 xp, .bool xw] 39 (0, 0))) 13 (by kernel_rfl) ?_
    refine wpAnyD_takeAt 0 (some 12) (v := ?_) rfl (by kernel_rfl) (by kernel_rfl) (by kernel_rfl) (by kernel_rfl) (by kernel_rfl) (fun _ _ _ h => h) (by exact HS.out) (fun o hop => ?_) ?_
    rotate_left
    · injection hop with hop
      subst hop
      refine ⟨rfl, fun W' hW => ?_⟩
      obtain ⟨-, -, -, -, -, -, -, -, -, -, g10, g11, g12, g13, g14, g15, g16⟩ := cellsP17 hW.1
      obtain ⟨z0, z1, z2, z3⟩ := cellsP4 hW.2
      go_simp
      first
      | rfl
      | (constructor <;> rfl)
    try simp only [Act.put, List.setIfInBounds_toArray, List.set_cons_zero, List.set_cons_succ]
    refine wpAnyD_takeAt 1 (some 13) (v := ?_) rfl (by kernel_rfl) (by kernel_rfl) (by kernel_rfl) (by kernel_rfl) (by kernel_rfl) (fun _ _ _ h => h) (by exact HS.out) (fun o hop => ?_) ?_
    rotate_left
    · injection hop with hop
      subst hop
      refine ⟨rfl, fun W' hW => ?_⟩
      obtain ⟨-, -, -, -, -, -, -, -, -, -, g10, g11, g12, g13, g14, g15, g16⟩ := cellsP17 hW.1
      obtain ⟨z0, z1, z2, z3⟩ := cellsP4 hW.2
      go_simp
      first
      | rfl
      | (constructor <;> rfl)
    try simp only [Act.put, List.setIfInBounds_toArray, List.set_cons_zero, List.set_cons_succ]
    refine wpAnyD_takeAt 2 (some 14) (v := ?_) rfl (by kernel_rfl) (by kernel_rfl) (by kernel_rfl) (by kernel_rfl) (by kernel_rfl) (fun _ _ _ h => h) (by exact HS.out) (fun o hop => ?_) ?_
    rotate_left
    · injection hop with hop
      subst hop
      refine ⟨rfl, fun W' hW => ?_⟩
      obtain ⟨-, -, -, -, -, -, -, -, -, -, g10, g11, g12, g13, g14, g15, g16⟩ := cellsP17 hW.1
      obtain ⟨z0, z1, z2, z3⟩ := cellsP4 hW.2
      go_simp
      first
      | rfl
      | (constructor <;> rfl)
    try simp only [Act.put, List.setIfInBounds_toArray, List.set_cons_zero, List.set_cons_succ]
    refine wpAnyD_takeAt 3 (some 15) (v := ?_) rfl (by kernel_rfl) (by kernel_rfl) (by kernel_rfl) (by kernel_rfl) (by kernel_rfl) (fun _ _ _ h => h) (by exact HS.out) (fun o hop => ?_) ?_
    rotate_left
    · injection hop with hop
      subst hop
      refine ⟨rfl, fun W' hW => ?_⟩
      obtain ⟨-, -, -, -, -, -, -, -, -, -, g10, g11, g12, g13, g14, g15, g16⟩ := cellsP17 hW.1
      obtain ⟨z0, z1, z2, z3⟩ := cellsP4 hW.2
      go_simp
      first
      | rfl
      | (constructor <;> rfl)
    try simp only [Act.put, List.setIfInBounds_toArray, List.set_cons_zero, List.set_cons_succ]
    refine wpAnyD_takeAt 4 (some 16) (v := ?_) rfl (by kernel_rfl) (by kernel_rfl) (by kernel_rfl) (by kernel_rfl) (by kernel_rfl) (fun _ _ _ h => h) (by exact HS.out) (fun o hop => ?_) ?_
    rotate_left
    · injection hop with hop
      subst hop
      refine ⟨rfl, fun W' hW => ?_⟩
      obtain ⟨-, -, -, -, -, -, -, -, -, -, g10, g11, g12, g13, g14, g15, g16⟩ := cellsP17 hW.1
      obtain ⟨z0, z1, z2, z3⟩ := cellsP4 hW.2
      go_simp
      first
      | rfl
      | (constructor <;> rfl)
    try simp only [Act.put, List.setIfInBounds_toArray, List.set_cons_zero, List.set_cons_succ]
    refine wpAnyT_two (i := 5) (j := 10) (by kernel_rfl) rfl rfl rfl rfl (fun K' hK => ?_) (fun K' hK => ?_)
    · go_simp
      go_at_call 52
      refine HC1.out.mono ?_
      rintro e w4 ⟨a1, c1, v, rfl, hra, hrb, hb4⟩
      obtain ⟨va, vc, hve⟩ := own_slice hrb
      subst hve
      have hb1 : Below w1.heap.size w1 w4 := ⟨hb4.os, hb4.tape, hb4.output, hb4.size, hb4.block⟩
      have HS4 : Hid (w4.heap[K]? = some (.cells #[.int .i64 W.m.no, .int .i64 W.m.ph, .int .i64 W.m.now, .int .i64 W.m.pt, .bool W.m.want, .int .i64 W.m.timer, .int .i64 W.m.pat, .int .i64 W.m.tries, .int .i64 W.m.lim, .bool W.m.gave, .slice pa 4 pc, .int .i64 W.s.last, .int .i64 W.s.armed, .int .i64 W.s.point, .bool W.s.want, .int .i64 W.s.left, .int .i64 W.s.pat, dv, uv, ov, av, cv] 52 (0, 0)) ∧ w4.heap[Z]? = some (.cells #[.int .i64 xk, .int .i64 xn, .int .i64 xp, .bool xw] 39 (0, 0))) := ⟨(hb1.block K HKZ.out.1).trans HS.out.1, (hb1.block Z HKZ.out.2.1).trans HS.out.2⟩
      refine hK.out _ _ (fun _ => HS4.out) ?_
      clear hK K'
      try simp only [Act.put, List.setIfInBounds_toArray, List.set_cons_zero, List.set_cons_succ]
      refine wpAnyD_takeAt 6 (some 11) (v := ?_) rfl (by kernel_rfl) (by kernel_rfl) (by kernel_rfl) (by kernel_rfl) (by kernel_rfl) (fun _ _ _ h => h) (by exact HS4.out) (fun o hop => ?_) ?_
      rotate_left
      · injection hop with hop
        subst hop
        refine ⟨rfl, fun W' hW => ?_⟩
        obtain ⟨-, -, -, -, -, -, -, -, -, -, g10, g11, g12, g13, g14, g15, g16⟩ := cellsP17 hW.1
        obtain ⟨z0, z1, z2, z3⟩ := cellsP4 hW.2
        go_simp
        first
        | rfl
        | (constructor <;> rfl)
      try simp only [Act.put, List.setIfInBounds_toArray, List.set_cons_zero, List.set_cons_succ]
      refine wpAnyD_takeAt 7 (some 18) (v := ?_) rfl (by kernel_rfl) (by kernel_rfl) (by kernel_rfl) (by kernel_rfl) (by kernel_rfl) (fun _ _ _ h => h) (by exact HS4.out) (fun o hop => ?_) ?_
      rotate_left
      · injection hop with hop
        subst hop
        refine ⟨rfl, fun W' hW => ?_⟩
        obtain ⟨-, -, -, -, -, -, -, -, -, -, g10, g11, g12, g13, g14, g15, g16⟩ := cellsP17 hW.1
        obtain ⟨z0, z1, z2, z3⟩ := cellsP4 hW.2
        go_simp
        first
        | rfl
        | (constructor <;> rfl)
      try simp only [Act.put, List.setIfInBounds_toArray, List.set_cons_zero, List.set_cons_succ]
      refine wpAnyD_takeAt 8 (some 19) (v := ?_) rfl (by kernel_rfl) (by kernel_rfl) (by kernel_rfl) (by kernel_rfl) (by kernel_rfl) (fun _ _ _ h => h) (by exact HS4.out) (fun o hop => ?_) ?_
      rotate_left
      · injection hop with hop
        subst hop
        refine ⟨rfl, fun W' hW => ?_⟩
        obtain ⟨-, -, -, -, -, -, -, -, -, -, g10, g11, g12, g13, g14, g15, g16⟩ := cellsP17 hW.1
        obtain ⟨z0, z1, z2, z3⟩ := cellsP4 hW.2
        go_simp
        first
        | rfl
        | (constructor <;> rfl)
      try simp only [Act.put, List.setIfInBounds_toArray, List.set_cons_zero, List.set_cons_succ]
      refine wpAnyD_takeAt 9 (some 20) (v := ?_) rfl (by kernel_rfl) (by kernel_rfl) (by kernel_rfl) (by kernel_rfl) (by kernel_rfl) (fun _ _ _ h => h) (by exact HS4.out) (fun o hop => ?_) ?_
      rotate_left
      · injection hop with hop
        subst hop
        refine ⟨rfl, fun W' hW => ?_⟩
        obtain ⟨-, -, -, -, -, -, -, -, -, -, g10, g11, g12, g13, g14, g15, g16⟩ := cellsP17 hW.1
        obtain ⟨z0, z1, z2, z3⟩ := cellsP4 hW.2
        go_simp
        first
        | rfl
        | (constructor <;> rfl)
      try simp only [Act.put, List.setIfInBounds_toArray, List.set_cons_zero, List.set_cons_succ]
      have hba := below_al w4 (.cells #[.slice none 0 0, .int .i64 0, .int .i64 0, .int .i64 0, .bool false, .int .i64 0, .int .i64 0] 24)
      have HEz := hide' (alloc_new w4 (.cells #[.slice none 0 0, .int .i64 0, .int .i64 0, .int .i64 0, .bool false, .int .i64 0, .int .i64 0] 24))
      refine wpAnyT_one (i := 10) (by kernel_rfl) rfl rfl (fun K' hK => ?_)
      go_simp
      have HSz : Hid ((w4.alloc (.cells #[.slice none 0 0, .int .i64 0, .int .i64 0, .int .i64 0, .bool false, .int .i64 0, .int .i64 0] 24)).heap[K]? = some (.cells #[.int .i64 W.m.no, .int .i64 W.m.ph, .int .i64 W.m.now, .int .i64 W.m.pt, .bool W.m.want, .int .i64 W.m.timer, .int .i64 W.m.pat, .int .i64 W.m.tries, .int .i64 W.m.lim, .bool W.m.gave, .slice pa 4 pc, .int .i64 W.s.last, .int .i64 W.s.armed, .int .i64 W.s.point, .bool W.s.want, .int .i64 W.s.left, .int .i64 W.s.pat, dv, uv, ov, av, cv] 52 (0, 0)) ∧ (w4.alloc (.cells #[.slice none 0 0, .int .i64 0, .int .i64 0, .int .i64 0, .bool false, .int .i64 0, .int .i64 0] 24)).heap[Z]? = some (.cells #[.int .i64 xk, .int .i64 xn, .int .i64 xp, .bool xw] 39 (0, 0))) := ⟨(hba.block K (lt_heap HS4.out.1)).trans HS4.out.1, (hba.block Z (lt_heap HS4.out.2)).trans HS4.out.2⟩
      refine hK.out _ _ (fun _ => HSz.out) ?_
      clear hK K'
      try simp only [Act.put, List.setIfInBounds_toArray, List.set_cons_zero, List.set_cons_succ]
      have HRA := hide' (own_below hra hba (Nat.le_refl _))
      have HRB := hide' (own_below hrb hba (Nat.le_refl _))
      have HWz := hide' ((HW1.out.below hb1).below hba)
      have HBz : Hid (Bl B w (w4.alloc (.cells #[.slice none 0 0, .int .i64 0, .int .i64 0, .int .i64 0, .bool false, .int .i64 0, .int .i64 0] 24))) := (HBB.out.trans (bl_of hb1 (Nat.le_trans HB0.out HKZ.out.2.2))).trans (bl_of hba (Nat.le_trans HB0.out (Nat.le_trans HKZ.out.2.2 hb1.size)))
      obtain ⟨E, hE⟩ : ∃ q, q = w4.heap.size := ⟨_, rfl⟩
      have HEK : Hid (K ≠ E ∧ Z ≠ E ∧ B ≤ E) := by have q1 := HKZ.out; have q2 := hb1.size; have q3 := HB0.out; show _ ∧ _ ∧ _; omega
      obtain ⟨z, hz⟩ : ∃ q, q = w4.alloc (.cells #[.slice none 0 0, .int .i64 0, .int .i64 0, .int .i64 0, .bool false, .int .i64 0, .int .i64 0] 24) := ⟨_, rfl⟩
      rw [← hE, ← hz] at HEz
      rw [← hz] at HSz HRA HRB HWz HBz ⊢
      rw [show (Value.pointer (some { block := w4.heap.size, off := 0 })) = Value.pointer (some { block := E, off := 0 }) by rw [hE]]
      clear hE hz hba hra hrb hb4 hb1 HS4
      obtain ⟨b0, b1, b2, b3, b4, b5, b6⟩ := cellsP7 HEz.out
      obtain ⟨e0, e1, e2, e3, e4, e5, e6⟩ := frozenP7 HEz.out
      have HPE := hide' (put7v HEz.out (.slice a1 4 c1) (.int .i64 tl) (.int .i64 ta) (.int .i64 tp) (.bool tw) (.int .i64 tf) (.int .i64 tq))
      have HSF : Hid ((((((((z.setCell ⟨E, 0, none⟩ (.slice a1 4 c1)).setCell ⟨E, 1, none⟩ (.int .i64 tl)).setCell ⟨E, 2, none⟩ (.int .i64 ta)).setCell ⟨E, 3, none⟩ (.int .i64 tp)).setCell ⟨E, 4, none⟩ (.bool tw)).setCell ⟨E, 5, none⟩ (.int .i64 tf)).setCell ⟨E, 6, none⟩ (.int .i64 tq)).heap[K]? = some (.cells #[.int .i64 W.m.no, .int .i64 W.m.ph, .int .i64 W.m.now, .int .i64 W.m.pt, .bool W.m.want, .int .i64 W.m.timer, .int .i64 W.m.pat, .int .i64 W.m.tries, .int .i64 W.m.lim, .bool W.m.gave, .slice pa 4 pc, .int .i64 W.s.last, .int .i64 W.s.armed, .int .i64 W.s.point, .bool W.s.want, .int .i64 W.s.left, .int .i64 W.s.pat, dv, uv, ov, av, cv] 52 (0, 0)) ∧ (((((((z.setCell ⟨E, 0, none⟩ (.slice a1 4 c1)).setCell ⟨E, 1, none⟩ (.int .i64 tl)).setCell ⟨E, 2, none⟩ (.int .i64 ta)).setCell ⟨E, 3, none⟩ (.int .i64 tp)).setCell ⟨E, 4, none⟩ (.bool tw)).setCell ⟨E, 5, none⟩ (.int .i64 tf)).setCell ⟨E, 6, none⟩ (.int .i64 tq)).heap[Z]? = some (.cells #[.int .i64 xk, .int .i64 xn, .int .i64 xp, .bool xw] 39 (0, 0))) := ⟨(HPE.out.2.block K (lt_heap HSz.out.1) HEK.out.1).trans HSz.out.1, (HPE.out.2.block Z (lt_heap HSz.out.2) HEK.out.2.1).trans HSz.out.2⟩
      have HFN : Hid ((((((((z.setCell ⟨E, 0, none⟩ (.slice a1 4 c1)).setCell ⟨E, 1, none⟩ (.int .i64 tl)).setCell ⟨E, 2, none⟩ (.int .i64 ta)).setCell ⟨E, 3, none⟩ (.int .i64 tp)).setCell ⟨E, 4, none⟩ (.bool tw)).setCell ⟨E, 5, none⟩ (.int .i64 tf)).setCell ⟨E, 6, none⟩ (.int .i64 tq)).heap[E]? = some (.cells #[.slice a1 4 c1, .int .i64 tl, .int .i64 ta, .int .i64 tp, .bool tw, .int .i64 tf, .int .i64 tq] 24 (0, 0)) ∧ (K ≠ E ∧ B ≤ E) ∧ (((((((z.setCell ⟨E, 0, none⟩ (.slice a1 4 c1)).setCell ⟨E, 1, none⟩ (.int .i64 tl)).setCell ⟨E, 2, none⟩ (.int .i64 ta)).setCell ⟨E, 3, none⟩ (.int .i64 tp)).setCell ⟨E, 4, none⟩ (.bool tw)).setCell ⟨E, 5, none⟩ (.int .i64 tf)).setCell ⟨E, 6, none⟩ (.int .i64 tq)).ownsRow 0 4 1 (.slice a1 4 c1) 4 (l1.map Value.bool) ∧ (((((((z.setCell ⟨E, 0, none⟩ (.slice a1 4 c1)).setCell ⟨E, 1, none⟩ (.int .i64 tl)).setCell ⟨E, 2, none⟩ (.int .i64 ta)).setCell ⟨E, 3, none⟩ (.int .i64 tp)).setCell ⟨E, 4, none⟩ (.bool tw)).setCell ⟨E, 5, none⟩ (.int .i64 tf)).setCell ⟨E, 6, none⟩ (.int .i64 tq)).ownsRow 0 39 4 (.slice va rs.length vc) rs.length (msgs rs) ∧ WAt (((((((z.setCell ⟨E, 0, none⟩ (.slice a1 4 c1)).setCell ⟨E, 1, none⟩ (.int .i64 tl)).setCell ⟨E, 2, none⟩ (.int .i64 ta)).setCell ⟨E, 3, none⟩ (.int .i64 tp)).setCell ⟨E, 4, none⟩ (.bool tw)).setCell ⟨E, 5, none⟩ (.int .i64 tf)).setCell ⟨E, 6, none⟩ (.int .i64 tq)) B K W (.slice pa 4 pc) dv uv ov av cv ∧ Bl B w (((((((z.setCell ⟨E, 0, none⟩ (.slice a1 4 c1)).setCell ⟨E, 1, none⟩ (.int .i64 tl)).setCell ⟨E, 2, none⟩ (.int .i64 ta)).setCell ⟨E, 3, none⟩ (.int .i64 tp)).setCell ⟨E, 4, none⟩ (.bool tw)).setCell ⟨E, 5, none⟩ (.int .i64 tf)).setCell ⟨E, 6, none⟩ (.int .i64 tq))) := ⟨HPE.out.1, ⟨HEK.out.1, HEK.out.2.2⟩, own_putE HRA.out HEz.out HPE.out.2 (by decide), own_putE HRB.out HEz.out HPE.out.2 (by decide), HWz.out.putE HEz.out HPE.out.2 HEK.out.1 (by decide) (by decide) (by decide), HBz.out.trans (but_bl HPE.out.2 HEz.out (by decide) HEK.out.2.2 (Nat.le_trans HEK.out.2.2 (Nat.le_of_lt (lt_heap HEz.out))))⟩
      clear HRA HRB HWz HBz
      refine wpAnyT_one (i := 11) (by kernel_rfl) rfl rfl (fun K' hK => ?_)
      go_simp
      refine hK.out _ _ (fun _ => HSF.out) ?_
      clear hK K'
      try simp only [Act.put, List.setIfInBounds_toArray, List.set_cons_zero, List.set_cons_succ]
      refine wpAnyT_one (i := 12) (by kernel_rfl) rfl rfl (fun K' hK => ?_)
      go_simp
      refine hK.out _ _ (fun _ => HSF.out) ?_
      clear hK K'
      try simp only [Act.put, List.setIfInBounds_toArray, List.set_cons_zero, List.set_cons_succ]
      refine wpAnyT_one (i := 13) (by kernel_rfl) rfl rfl (fun K' hK => ?_)
      go_simp
      refine hK.out _ _ (fun h => absurd rfl h) ?_
      clear hK K'
      try simp only [Act.put, List.setIfInBounds_toArray, List.set_cons_zero, List.set_cons_succ]
      refine wpAnyT_done (by kernel_rfl) ?_ _
      clear b0 b1 b2 b3 b4 b5 b6 e0 e1 e2 e3 e4 e5 e6 HPE HEz
      go_wp2_with fail
      go_meet
      case rel => exact ⟨E, a1, c1, va, vc, rfl, rfl, rfl, HFN.out⟩
    · go_simp
      have hba := below_al w1.drew (.cells #[.slice none 0 0, .int .i64 0, .int .i64 0, .int .i64 0, .bool false, .int .i64 0, .int .i64 0] 24)
      have hb1 : Below w1.heap.size w1 (w1.drew.alloc (.cells #[.slice none 0 0, .int .i64 0, .int .i64 0, .int .i64 0, .bool false, .int .i64 0, .int .i64 0] 24)) := (Below.refl _ w1).drew.trans hba
      have HEq := hide' (alloc_new w1.drew (.cells #[.slice none 0 0, .int .i64 0, .int .i64 0, .int .i64 0, .bool false, .int .i64 0, .int .i64 0] 24))
      have HSq : Hid ((w1.drew.alloc (.cells #[.slice none 0 0, .int .i64 0, .int .i64 0, .int .i64 0, .bool false, .int .i64 0, .int .i64 0] 24)).heap[K]? = some (.cells #[.int .i64 W.m.no, .int .i64 W.m.ph, .int .i64 W.m.now, .int .i64 W.m.pt, .bool W.m.want, .int .i64 W.m.timer, .int .i64 W.m.pat, .int .i64 W.m.tries, .int .i64 W.m.lim, .bool W.m.gave, .slice pa 4 pc, .int .i64 W.s.last, .int .i64 W.s.armed, .int .i64 W.s.point, .bool W.s.want, .int .i64 W.s.left, .int .i64 W.s.pat, dv, uv, ov, av, cv] 52 (0, 0)) ∧ (w1.drew.alloc (.cells #[.slice none 0 0, .int .i64 0, .int .i64 0, .int .i64 0, .bool false, .int .i64 0, .int .i64 0] 24)).heap[Z]? = some (.cells #[.int .i64 xk, .int .i64 xn, .int .i64 xp, .bool xw] 39 (0, 0))) := ⟨(hba.block K HKZ.out.1).trans HS.out.1, (hba.block Z HKZ.out.2.1).trans HS.out.2⟩
      refine hK.out _ _ (fun _ => HSq.out) ?_
      clear hK K'
      try simp only [Act.put, List.setIfInBounds_toArray, List.set_cons_zero, List.set_cons_succ]
      obtain ⟨E, hE⟩ : ∃ q, q = w1.heap.size := ⟨_, rfl⟩
      have HEK : Hid (K ≠ E ∧ Z ≠ E ∧ B ≤ E) := by have q1 := HKZ.out; have q3 := HB0.out; show _ ∧ _ ∧ _; omega
      have HEq2 : Hid ((w1.drew.alloc (.cells #[.slice none 0 0, .int .i64 0, .int .i64 0, .int .i64 0, .bool false, .int .i64 0, .int .i64 0] 24)).heap[E]? = some (.cells #[.slice none 0 0, .int .i64 0, .int .i64 0, .int .i64 0, .bool false, .int .i64 0, .int .i64 0] 24 (0, 0))) := by rw [hE]; exact HEq.out
      rw [show (Value.pointer (some { block := w1.heap.size, off := 0 })) = Value.pointer (some { block := E, off := 0 }) by rw [hE]]
      refine wpAnyT_letter (fun z => Hid (Below w1.heap.size w1 z ∧ z.heap[E]? = some (.cells #[.slice none 0 0, .int .i64 0, .int .i64 0, .int .i64 0, .bool false, .int .i64 0, .int .i64 0] 24 (0, 0)) ∧ (z.heap[K]? = some (.cells #[.int .i64 W.m.no, .int .i64 W.m.ph, .int .i64 W.m.now, .int .i64 W.m.pt, .bool W.m.want, .int .i64 W.m.timer, .int .i64 W.m.pat, .int .i64 W.m.tries, .int .i64 W.m.lim, .bool W.m.gave, .slice pa 4 pc, .int .i64 W.s.last, .int .i64 W.s.armed, .int .i64 W.s.point, .bool W.s.want, .int .i64 W.s.left, .int .i64 W.s.pat, dv, uv, ov, av, cv] 52 (0, 0)) ∧ z.heap[Z]? = some (.cells #[.int .i64 xk, .int .i64 xn, .int .i64 xp, .bool xw] 39 (0, 0))))) ⟨hb1, HEq2.out, HSq.out⟩ ?_
      clear HSq HEq2 HEq hE hba hb1
      intro z1 HZ1
      have HB1z := hide' HZ1.out.1
      have HEq2 := hide' HZ1.out.2.1
      have HSq := hide' HZ1.out.2.2
      have HCz := hide' (HC2.out z1 HZ1.out.1)
      clear HZ1
      refine wpAnyT_one (i := 5) (by kernel_rfl) rfl rfl (fun K' hK => ?_)
      go_simp
      go_at_call 52
      refine HCz.out.mono ?_
      rintro e w4 ⟨a1, c1, v, rfl, hra, hrb, hb4⟩
      obtain ⟨va, vc, hve⟩ := own_slice hrb
      subst hve
      have HSz : Hid (w4.heap[K]? = some (.cells #[.int .i64 W.m.no, .int .i64 W.m.ph, .int .i64 W.m.now, .int .i64 W.m.pt, .bool W.m.want, .int .i64 W.m.timer, .int .i64 W.m.pat, .int .i64 W.m.tries, .int .i64 W.m.lim, .bool W.m.gave, .slice pa 4 pc, .int .i64 W.s.last, .int .i64 W.s.armed, .int .i64 W.s.point, .bool W.s.want, .int .i64 W.s.left, .int .i64 W.s.pat, dv, uv, ov, av, cv] 52 (0, 0)) ∧ w4.heap[Z]? = some (.cells #[.int .i64 xk, .int .i64 xn, .int .i64 xp, .bool xw] 39 (0, 0))) := ⟨(hb4.block K (lt_heap HSq.out.1)).trans HSq.out.1, (hb4.block Z (lt_heap HSq.out.2)).trans HSq.out.2⟩
      refine hK.out _ _ (fun _ => HSz.out) ?_
      clear hK K'
      try simp only [Act.put, List.setIfInBounds_toArray, List.set_cons_zero, List.set_cons_succ]
      refine wpAnyD_takeAt 6 (some 11) (v := ?_) rfl (by kernel_rfl) (by kernel_rfl) (by kernel_rfl) (by kernel_rfl) (by kernel_rfl) (fun _ _ _ h => h) (by exact HSz.out) (fun o hop => ?_) ?_
      rotate_left
      · injection hop with hop
        subst hop
        refine ⟨rfl, fun W' hW => ?_⟩
        obtain ⟨-, -, -, -, -, -, -, -, -, -, g10, g11, g12, g13, g14, g15, g16⟩ := cellsP17 hW.1
        obtain ⟨z0, z1, z2, z3⟩ := cellsP4 hW.2
        go_simp
        first
        | rfl
        | (constructor <;> rfl)
      try simp only [Act.put, List.setIfInBounds_toArray, List.set_cons_zero, List.set_cons_succ]
      refine wpAnyD_takeAt 7 (some 18) (v := ?_) rfl (by kernel_rfl) (by kernel_rfl) (by kernel_rfl) (by kernel_rfl) (by kernel_rfl) (fun _ _ _ h => h) (by exact HSz.out) (fun o hop => ?_) ?_
      rotate_left
      · injection hop with hop
        subst hop
        refine ⟨rfl, fun W' hW => ?_⟩
        obtain ⟨-, -, -, -, -, -, -, -, -, -, g10, g11, g12, g13, g14, g15, g16⟩ := cellsP17 hW.1
        obtain ⟨z0, z1, z2, z3⟩ := cellsP4 hW.2
        go_simp
        first
        | rfl
        | (constructor <;> rfl)
      try simp only [Act.put, List.setIfInBounds_toArray, List.set_cons_zero, List.set_cons_succ]
      refine wpAnyD_takeAt 8 (some 19) (v := ?_) rfl (by kernel_rfl) (by kernel_rfl) (by kernel_rfl) (by kernel_rfl) (by kernel_rfl) (fun _ _ _ h => h) (by exact HSz.out) (fun o hop => ?_) ?_
      rotate_left
      · injection hop with hop
        subst hop
        refine ⟨rfl, fun W' hW => ?_⟩
        obtain ⟨-, -, -, -, -, -, -, -, -, -, g10, g11, g12, g13, g14, g15, g16⟩ := cellsP17 hW.1
        obtain ⟨z0, z1, z2, z3⟩ := cellsP4 hW.2
        go_simp
        first
        | rfl
        | (constructor <;> rfl)
      try simp only [Act.put, List.setIfInBounds_toArray, List.set_cons_zero, List.set_cons_succ]
      refine wpAnyD_takeAt 9 (some 20) (v := ?_) rfl (by kernel_rfl) (by kernel_rfl) (by kernel_rfl) (by kernel_rfl) (by kernel_rfl) (fun _ _ _ h => h) (by exact HSz.out) (fun o hop => ?_) ?_
      rotate_left
      · injection hop with hop
        subst hop
        refine ⟨rfl, fun W' hW => ?_⟩
        obtain ⟨-, -, -, -, -, -, -, -, -, -, g10, g11, g12, g13, g14, g15, g16⟩ := cellsP17 hW.1
        obtain ⟨z0, z1, z2, z3⟩ := cellsP4 hW.2
        go_simp
        first
        | rfl
        | (constructor <;> rfl)
      try simp only [Act.put, List.setIfInBounds_toArray, List.set_cons_zero, List.set_cons_succ]
      have HEz := hide' ((hb4.block E (lt_heap HEq2.out)).trans HEq2.out)
      have HRA := hide' hra
      have HRB := hide' hrb
      have HWz := hide' ((HW1.out.below HB1z.out).below hb4)
      have HBz : Hid (Bl B w w4) := (HBB.out.trans (bl_of HB1z.out (Nat.le_trans HB0.out HKZ.out.2.2))).trans (bl_of hb4 (Nat.le_trans HB0.out (Nat.le_trans HKZ.out.2.2 HB1z.out.size)))
      clear hra hrb hb4 HSq HEq2 HCz
      obtain ⟨b0, b1, b2, b3, b4, b5, b6⟩ := cellsP7 HEz.out
      obtain ⟨e0, e1, e2, e3, e4, e5, e6⟩ := frozenP7 HEz.out
      have HPE := hide' (put7v HEz.out (.slice a1 4 c1) (.int .i64 tl) (.int .i64 ta) (.int .i64 tp) (.bool tw) (.int .i64 tf) (.int .i64 tq))
      have HSF : Hid ((((((((w4.setCell ⟨E, 0, none⟩ (.slice a1 4 c1)).setCell ⟨E, 1, none⟩ (.int .i64 tl)).setCell ⟨E, 2, none⟩ (.int .i64 ta)).setCell ⟨E, 3, none⟩ (.int .i64 tp)).setCell ⟨E, 4, none⟩ (.bool tw)).setCell ⟨E, 5, none⟩ (.int .i64 tf)).setCell ⟨E, 6, none⟩ (.int .i64 tq)).heap[K]? = some (.cells #[.int .i64 W.m.no, .int .i64 W.m.ph, .int .i64 W.m.now, .int .i64 W.m.pt, .bool W.m.want, .int .i64 W.m.timer, .int .i64 W.m.pat, .int .i64 W.m.tries, .int .i64 W.m.lim, .bool W.m.gave, .slice pa 4 pc, .int .i64 W.s.last, .int .i64 W.s.armed, .int .i64 W.s.point, .bool W.s.want, .int .i64 W.s.left, .int .i64 W.s.pat, dv, uv, ov, av, cv] 52 (0, 0)) ∧ (((((((w4.setCell ⟨E, 0, none⟩ (.slice a1 4 c1)).setCell ⟨E, 1, none⟩ (.int .i64 tl)).setCell ⟨E, 2, none⟩ (.int .i64 ta)).setCell ⟨E, 3, none⟩ (.int .i64 tp)).setCell ⟨E, 4, none⟩ (.bool tw)).setCell ⟨E, 5, none⟩ (.int .i64 tf)).setCell ⟨E, 6, none⟩ (.int .i64 tq)).heap[Z]? = some (.cells #[.int .i64 xk, .int .i64 xn, .int .i64 xp, .bool xw] 39 (0, 0))) := ⟨(HPE.out.2.block K (lt_heap HSz.out.1) HEK.out.1).trans HSz.out.1, (HPE.out.2.block Z (lt_heap HSz.out.2) HEK.out.2.1).trans HSz.out.2⟩
      have HFN : Hid ((((((((w4.setCell ⟨E, 0, none⟩ (.slice a1 4 c1)).setCell ⟨E, 1, none⟩ (.int .i64 tl)).setCell ⟨E, 2, none⟩ (.int .i64 ta)).setCell ⟨E, 3, none⟩ (.int .i64 tp)).setCell ⟨E, 4, none⟩ (.bool tw)).setCell ⟨E, 5, none⟩ (.int .i64 tf)).setCell ⟨E, 6, none⟩ (.int .i64 tq)).heap[E]? = some (.cells #[.slice a1 4 c1, .int .i64 tl, .int .i64 ta, .int .i64 tp, .bool tw, .int .i64 tf, .int .i64 tq] 24 (0, 0)) ∧ (K ≠ E ∧ B ≤ E) ∧ (((((((w4.setCell ⟨E, 0, none⟩ (.slice a1 4 c1)).setCell ⟨E, 1, none⟩ (.int .i64 tl)).setCell ⟨E, 2, none⟩ (.int .i64 ta)).setCell ⟨E, 3, none⟩ (.int .i64 tp)).setCell ⟨E, 4, none⟩ (.bool tw)).setCell ⟨E, 5, none⟩ (.int .i64 tf)).setCell ⟨E, 6, none⟩ (.int .i64 tq)).ownsRow 0 4 1 (.slice a1 4 c1) 4 (l1.map Value.bool) ∧ (((((((w4.setCell ⟨E, 0, none⟩ (.slice a1 4 c1)).setCell ⟨E, 1, none⟩ (.int .i64 tl)).setCell ⟨E, 2, none⟩ (.int .i64 ta)).setCell ⟨E, 3, none⟩ (.int .i64 tp)).setCell ⟨E, 4, none⟩ (.bool tw)).setCell ⟨E, 5, none⟩ (.int .i64 tf)).setCell ⟨E, 6, none⟩ (.int .i64 tq)).ownsRow 0 39 4 (.slice va rs.length vc) rs.length (msgs rs) ∧ WAt (((((((w4.setCell ⟨E, 0, none⟩ (.slice a1 4 c1)).setCell ⟨E, 1, none⟩ (.int .i64 tl)).setCell ⟨E, 2, none⟩ (.int .i64 ta)).setCell ⟨E, 3, none⟩ (.int .i64 tp)).setCell ⟨E, 4, none⟩ (.bool tw)).setCell ⟨E, 5, none⟩ (.int .i64 tf)).setCell ⟨E, 6, none⟩ (.int .i64 tq)) B K W (.slice pa 4 pc) dv uv ov av cv ∧ Bl B w (((((((w4.setCell ⟨E, 0, none⟩ (.slice a1 4 c1)).setCell ⟨E, 1, none⟩ (.int .i64 tl)).setCell ⟨E, 2, none⟩ (.int .i64 ta)).setCell ⟨E, 3, none⟩ (.int .i64 tp)).setCell ⟨E, 4, none⟩ (.bool tw)).setCell ⟨E, 5, none⟩ (.int .i64 tf)).setCell ⟨E, 6, none⟩ (.int .i64 tq))) := ⟨HPE.out.1, ⟨HEK.out.1, HEK.out.2.2⟩, own_putE HRA.out HEz.out HPE.out.2 (by decide), own_putE HRB.out HEz.out HPE.out.2 (by decide), HWz.out.putE HEz.out HPE.out.2 HEK.out.1 (by decide) (by decide) (by decide), HBz.out.trans (but_bl HPE.out.2 HEz.out (by decide) HEK.out.2.2 (Nat.le_trans HEK.out.2.2 (Nat.le_of_lt (lt_heap HEz.out))))⟩
      clear HRA HRB HWz HBz
      refine wpAnyT_one (i := 11) (by kernel_rfl) rfl rfl (fun K' hK => ?_)
      go_simp
      refine hK.out _ _ (fun _ => HSF.out) ?_
      clear hK K'
      try simp only [Act.put, List.setIfInBounds_toArray, List.set_cons_zero, List.set_cons_succ]
      refine wpAnyT_one (i := 12) (by kernel_rfl) rfl rfl (fun K' hK => ?_)
      go_simp
      refine hK.out _ _ (fun _ => HSF.out) ?_
      clear hK K'
      try simp only [Act.put, List.setIfInBounds_toArray, List.set_cons_zero, List.set_cons_succ]
      refine wpAnyT_one (i := 13) (by kernel_rfl) rfl rfl (fun K' hK => ?_)
      go_simp
      refine hK.out _ _ (fun h => absurd rfl h) ?_
      clear hK K'
      try simp only [Act.put, List.setIfInBounds_toArray, List.set_cons_zero, List.set_cons_succ]
      refine wpAnyT_done (by kernel_rfl) ?_ _
      clear b0 b1 b2 b3 b4 b5 b6 e0 e1 e2 e3 e4 e5 e6 HPE HEz
      go_wp2_with fail
      go_meet
      case rel => exact ⟨E, a1, c1, va, vc, rfl, rfl, rfl, HFN.out⟩
  case rest =>
    obtain ⟨E, a1, c1, va, vc, rfl, rfl, rfl, HF⟩ := hcut
    have HEK := hide' HF.out.2.1
    have HFF : Hid (wc.heap[E]? = some (.cells #[.slice a1 4 c1, .int .i64 tl, .int .i64 ta, .int .i64 tp, .bool tw, .int .i64 tf, .int .i64 tq] 24 (0, 0)) ∧ wc.ownsRow 0 4 1 (.slice a1 4 c1) 4 (l1.map Value.bool) ∧ wc.ownsRow 0 39 4 (.slice va rs.length vc) rs.length (msgs rs) ∧ WAt wc B K W (.slice pa 4 pc) dv uv ov av cv ∧ Bl B w wc) := ⟨HF.out.1, HF.out.2.2.1, HF.out.2.2.2.1, HF.out.2.2.2.2.1, HF.out.2.2.2.2.2⟩
    obtain ⟨t0, t1⟩ := cellsP2 HFF.out.1
    obtain ⟨-, -, -, -, -, -, -, -, -, -, k10, k11⟩ := cellsP12 HFF.out.2.2.2.1.cell
    have hr1 : decide ((1 : Int) < (rs.length : Int)) = false := decide_eq_false (by omega)
    have hne : (tl != W.s.last) = false := by have q : tl = W.s.last := HT.out; rw [q]; simp
    have HNE2 := hide' hne
    clear HF HS HC1 HC2 HW1 HBB HKZ
    go_wp2_with fail
    go_upto_region 2 with fail
    go_quiet (fail)
    go_upto_region 4 with fail
    go_quiet (fail)
    go_upto_region 9 with fail
    refine code_letter (fun z => Hid (z.heap[E]? = some (.cells #[.slice a1 4 c1, .int .i64 tl, .int .i64 ta, .int .i64 tp, .bool tw, .int .i64 tf, .int .i64 tq] 24 (0, 0)) ∧ z.ownsRow 0 4 1 (.slice a1 4 c1) 4 (l1.map Value.bool) ∧ z.ownsRow 0 39 4 (.slice va rs.length vc) rs.length (msgs rs) ∧ WAt z B K W (.slice pa 4 pc) dv uv ov av cv ∧ Bl B w z)) (by first | exact ⟨((below_drewN (Below.refl _ wc) _).block E (lt_heap HFF.out.1)).trans HFF.out.1, own_below HFF.out.2.1 (below_drewN (Below.refl _ wc) _) (Nat.le_refl _), own_below HFF.out.2.2.1 (below_drewN (Below.refl _ wc) _) (Nat.le_refl _), HFF.out.2.2.2.1.below (below_drewN (Below.refl _ wc) _), HFF.out.2.2.2.2.trans (bl_of (below_drewN (Below.refl _ wc) _) (Nat.le_trans HFF.out.2.2.2.1.bk (Nat.le_of_lt (lt_heap HFF.out.2.2.2.1.cell))))⟩ | exact ⟨((below_drewN (below_drewN (Below.refl _ wc) _) _).block E (lt_heap HFF.out.1)).trans HFF.out.1, own_below HFF.out.2.1 (below_drewN (below_drewN (Below.refl _ wc) _) _) (Nat.le_refl _), own_below HFF.out.2.2.1 (below_drewN (below_drewN (Below.refl _ wc) _) _) (Nat.le_refl _), HFF.out.2.2.2.1.below (below_drewN (below_drewN (Below.refl _ wc) _) _), HFF.out.2.2.2.2.trans (bl_of (below_drewN (below_drewN (Below.refl _ wc) _) _) (Nat.le_trans HFF.out.2.2.2.1.bk (Nat.le_of_lt (lt_heap HFF.out.2.2.2.1.cell))))⟩) ?_
    clear t0 t1 k10 k11 HFF hne
    intro w2 HF2
    obtain ⟨Ab, rfl, hAb⟩ := own_some HF2.out.2.1 (by decide)
    obtain ⟨Pb, rfl, hPb⟩ := own_some (by have q := HF2.out.2.2.2.1.pts; rw [H4.out] at q; exact q) (by decide)
    clear hAb hPb
    by_cases hneg : tl < 0
    · go_wp2_with fail
      go_loopw [9] (fun iv wr => ∃ (i : Nat), iv = .int .i64 i ∧ i ≤ 4 ∧ Hid (wr.heap[E]? = some (.cells #[.slice (some ⟨Ab, 0, none⟩) 4 c1, .int .i64 tl, .int .i64 ta, .int .i64 tp, .bool tw, .int .i64 tf, .int .i64 tq] 24 (0, 0)) ∧ wr.ownsRow 0 4 1 (.slice (some ⟨Ab, 0, none⟩) 4 c1) 4 (l1.map Value.bool) ∧ wr.ownsRow 0 39 4 (.slice va rs.length vc) rs.length (msgs rs) ∧ WAt wr B K W (.slice (some ⟨Pb, 0, none⟩) 4 pc) dv uv ov av cv ∧ Bl B w wr)) (fun iv _ => 4 - (intOf iv).toNat)
      case atStart => exact ⟨0, rfl, Nat.zero_le _, HF2.out⟩
      case round =>
        obtain ⟨i, rfl, hi, HR⟩ := hrel
        by_cases hlt : i < 4
        · have t0 : wr.cell? ⟨E, 0, none⟩ = some (.slice (some ⟨Ab, 0, none⟩) 4 c1) := (cells_at HR.out.1 0).trans rfl
          go_upto_region 13 with fail
          have hbC := below_al wr (.cells #[.int .i64 0, .int .i64 0, .int .i64 (-1), .bool false] 39)
          have hqC := alloc_new wr (.cells #[.int .i64 0, .int .i64 0, .int .i64 (-1), .bool false] 39)
          obtain ⟨Cb, hCb⟩ : ∃ q, q = wr.heap.size := ⟨_, rfl⟩
          obtain ⟨z1, hz1⟩ : ∃ q, q = wr.alloc (.cells #[.int .i64 0, .int .i64 0, .int .i64 (-1), .bool false] 39) := ⟨_, rfl⟩
          rw [← hz1] at hbC
          rw [← hz1, ← hCb] at hqC
          rw [← hz1]
          rw [show (Value.pointer (some { block := wr.heap.size, off := 0 })) = Value.pointer (some { block := Cb, off := 0 }) by rw [hCb]]
          have H1 : Hid (z1.heap[E]? = some (.cells #[.slice (some ⟨Ab, 0, none⟩) 4 c1, .int .i64 tl, .int .i64 ta, .int .i64 tp, .bool tw, .int .i64 tf, .int .i64 tq] 24 (0, 0)) ∧ z1.ownsRow 0 4 1 (.slice (some ⟨Ab, 0, none⟩) 4 c1) 4 (l1.map Value.bool) ∧ z1.ownsRow 0 39 4 (.slice va rs.length vc) rs.length (msgs rs) ∧ WAt z1 B K W (.slice (some ⟨Pb, 0, none⟩) 4 pc) dv uv ov av cv ∧ Bl B w z1) := ⟨(hbC.block E (lt_heap HR.out.1)).trans HR.out.1, own_below HR.out.2.1 hbC (Nat.le_refl _), own_below HR.out.2.2.1 hbC (Nat.le_refl _), HR.out.2.2.2.1.below hbC, HR.out.2.2.2.2.trans (bl_of hbC (Nat.le_trans HR.out.2.2.2.1.bk (Nat.le_of_lt (lt_heap HR.out.2.2.2.1.cell))))⟩
          have HQC := hide' hqC
          have HCE : Hid (E ≠ Cb ∧ K ≠ Cb ∧ B ≤ Cb ∧ Ab ≠ Cb ∧ Pb ≠ Cb) := by
            have q1 := lt_heap HR.out.1
            have q2 := lt_heap HR.out.2.2.2.1.cell
            have q3 := HR.out.2.2.2.1.bk
            have q4 := own_lt HR.out.2.1 (g := Ab) rfl
            have q5 := own_lt HR.out.2.2.2.1.pts (g := Pb) rfl
            show _ ∧ _ ∧ _ ∧ _ ∧ _
            omega
          clear hbC hqC hz1 hCb t0 HR
          obtain ⟨t0, t1⟩ := cellsP2 H1.out.1
          obtain ⟨-, -, -, -, -, -, -, -, -, -, k10, k11, -, -, -, -, -, -, -, -, k20⟩ := cellsP21 H1.out.2.2.2.1.cell
          have hg0 : decide ((0 : Int) ≤ tl) = false := decide_eq_false (by omega)
          go_quiet (fail)
          go_upto_region 15 with fail
          refine code_letter (fun z => Hid ((z.heap[E]? = some (.cells #[.slice (some ⟨Ab, 0, none⟩) 4 c1, .int .i64 tl, .int .i64 ta, .int .i64 tp, .bool tw, .int .i64 tf, .int .i64 tq] 24 (0, 0)) ∧ z.ownsRow 0 4 1 (.slice (some ⟨Ab, 0, none⟩) 4 c1) 4 (l1.map Value.bool) ∧ z.ownsRow 0 39 4 (.slice va rs.length vc) rs.length (msgs rs) ∧ WAt z B K W (.slice (some ⟨Pb, 0, none⟩) 4 pc) dv uv ov av cv ∧ Bl B w z) ∧ z.heap[Cb]? = some (.cells #[.int .i64 0, .int .i64 0, .int .i64 (-1), .bool false] 39 (0, 0)))) ⟨⟨((below_drewN (Below.refl _ z1) _).block E (lt_heap H1.out.1)).trans H1.out.1, own_below H1.out.2.1 (below_drewN (Below.refl _ z1) _) (Nat.le_refl _), own_below H1.out.2.2.1 (below_drewN (Below.refl _ z1) _) (Nat.le_refl _), H1.out.2.2.2.1.below (below_drewN (Below.refl _ z1) _), H1.out.2.2.2.2.trans (bl_of (below_drewN (Below.refl _ z1) _) (Nat.le_trans H1.out.2.2.2.1.bk (Nat.le_of_lt (lt_heap H1.out.2.2.2.1.cell))))⟩, HQC.out⟩ ?_
          clear t0 t1 k10 k11 k20 H1 HQC
          intro z3 HZ3
          have H3 := hide' HZ3.out.1
          have HQ3 := hide' HZ3.out.2
          clear HZ3
          obtain ⟨t0, t1⟩ := cellsP2 H3.out.1
          obtain ⟨-, -, -, -, -, -, -, -, -, -, k10, k11⟩ := cellsP12 H3.out.2.2.2.1.cell
          obtain ⟨q0, q1, q2, q3⟩ := cellsP4 HQ3.out
          have ca : z3.cell? ⟨Ab, i, none⟩ = some (.bool (l1.getD i false)) := (own_bool H3.out.2.1 hlt).1
          have cp : z3.cell? ⟨Pb, i, none⟩ = some (.bool (W.l.getD i false)) := (own_bool (by have q := H3.out.2.2.2.1.pts; rw [H4.out] at q; exact q) hlt).1
          have hiz : (0 : Int) ≤ (i : Int) ∧ (i : Int) < 4 := by omega
          rw [HLL.out] at ca
          obtain ⟨bb, hbb⟩ : ∃ q, q = W.l.getD i false := ⟨_, rfl⟩
          rw [← hbb] at ca cp
          clear hbb
          have hne : (tl != W.s.last) = false := HNE2.out
          go_quiet (fail)
          go_upto_region 17 with fail
          go_quiet (fail)
          go_wp2_with fail
          go_roundw
          case rel => exact ⟨i + 1, by go_num, by omega, ⟨((below_drewN (Below.refl _ z3) _).block E (lt_heap H3.out.1)).trans H3.out.1, own_below H3.out.2.1 (below_drewN (Below.refl _ z3) _) (Nat.le_refl _), own_below H3.out.2.2.1 (below_drewN (Below.refl _ z3) _) (Nat.le_refl _), H3.out.2.2.2.1.below (below_drewN (Below.refl _ z3) _), H3.out.2.2.2.2.trans (bl_of (below_drewN (Below.refl _ z3) _) (Nat.le_trans H3.out.2.2.2.1.bk (Nat.le_of_lt (lt_heap H3.out.2.2.2.1.cell))))⟩⟩
          case measure => simp [intOf]; omega
        · obtain rfl : i = 4 := by omega
          obtain ⟨t0, t1, t2, t3, t4, t5, t6⟩ := cellsP7 HR.out.1
          have k10 : wr.cell? ⟨K, 10, none⟩ = some (.slice (some ⟨Pb, 0, none⟩) 4 pc) := (cells_at HR.out.2.2.2.1.cell 10).trans rfl
          have f10 : wr.frozen? ⟨K, 10, none⟩ = false := frozen_no HR.out.2.2.2.1.cell _
          have k11 : wr.cell? ⟨K, 11, none⟩ = some (.int .i64 W.s.last) := (cells_at HR.out.2.2.2.1.cell 11).trans rfl
          have f11 : wr.frozen? ⟨K, 11, none⟩ = false := frozen_no HR.out.2.2.2.1.cell _
          have k12 : wr.cell? ⟨K, 12, none⟩ = some (.int .i64 W.s.armed) := (cells_at HR.out.2.2.2.1.cell 12).trans rfl
          have f12 : wr.frozen? ⟨K, 12, none⟩ = false := frozen_no HR.out.2.2.2.1.cell _
          have k13 : wr.cell? ⟨K, 13, none⟩ = some (.int .i64 W.s.point) := (cells_at HR.out.2.2.2.1.cell 13).trans rfl
          have f13 : wr.frozen? ⟨K, 13, none⟩ = false := frozen_no HR.out.2.2.2.1.cell _
          have k14 : wr.cell? ⟨K, 14, none⟩ = some (.bool W.s.want) := (cells_at HR.out.2.2.2.1.cell 14).trans rfl
          have f14 : wr.frozen? ⟨K, 14, none⟩ = false := frozen_no HR.out.2.2.2.1.cell _
          have k15 : wr.cell? ⟨K, 15, none⟩ = some (.int .i64 W.s.left) := (cells_at HR.out.2.2.2.1.cell 15).trans rfl
          have f15 : wr.frozen? ⟨K, 15, none⟩ = false := frozen_no HR.out.2.2.2.1.cell _
          have k16 : wr.cell? ⟨K, 16, none⟩ = some (.int .i64 W.s.pat) := (cells_at HR.out.2.2.2.1.cell 16).trans rfl
          have f16 : wr.frozen? ⟨K, 16, none⟩ = false := frozen_no HR.out.2.2.2.1.cell _
          have HPS := hide' (putS HR.out.2.2.2.1.cell (.slice (some ⟨Ab, 0, none⟩) 4 c1) (.int .i64 tl) (.int .i64 ta) (.int .i64 tp) (.bool tw) (.int .i64 tf) (.int .i64 tq))
          have HTT := hide' (HR.out.2.2.2.1.turn HPS.out.2 (m := W.m) (l := l1) (s := ⟨tl, ta, tp, tw, tf, tq⟩) (pv' := .slice (some ⟨Ab, 0, none⟩) 4 c1) HPS.out.1 (by rw [HL1.out]; exact own_keep HR.out.2.1 (but_keep HPS.out.2 HR.out.2.2.2.1.cell) (by decide)))
          have HRB2 := hide' (own_keep HR.out.2.2.1 (but_keep HPS.out.2 HR.out.2.2.2.1.cell) (by decide))
          have HBW := hide' (HR.out.2.2.2.2.trans HTT.out.2)
          go_upto_region 20 with fail
          obtain ⟨w6, hw6⟩ : ∃ q, q = (((((((wr.setCell ⟨K, 10, none⟩ (.slice (some ⟨Ab, 0, none⟩) 4 c1)).setCell ⟨K, 11, none⟩ (.int .i64 tl)).setCell ⟨K, 12, none⟩ (.int .i64 ta)).setCell ⟨K, 13, none⟩ (.int .i64 tp)).setCell ⟨K, 14, none⟩ (.bool tw)).setCell ⟨K, 15, none⟩ (.int .i64 tf)).setCell ⟨K, 16, none⟩ (.int .i64 tq)) := ⟨_, rfl⟩
          rw [← hw6] at HPS HTT HRB2 HBW ⊢
          have HW6 := hide' HTT.out.1
          clear hw6 HTT HPS HR t0 t1 t2 t3 t4 t5 t6 k10 k11 k12 k13 k14 k15 k16 f10 f11 f12 f13 f14 f15 f16
          obtain ⟨ua, uc, hue⟩ := own_slice HW6.out.up
          have hue2 : uv = .slice ua W.up.length uc := hue
          subst hue2
          have HU6 : Hid (w6.ownsRow B 39 4 (.slice ua W.up.length uc) W.up.length (msgs W.up)) := HW6.out.up
          have HC6 : Hid (w6.heap[K]? = some (.cells #[.int .i64 W.m.no, .int .i64 W.m.ph, .int .i64 W.m.now, .int .i64 W.m.pt, .bool W.m.want, .int .i64 W.m.timer, .int .i64 W.m.pat, .int .i64 W.m.tries, .int .i64 W.m.lim, .bool W.m.gave, .slice (some ⟨Ab, 0, none⟩) 4 c1, .int .i64 tl, .int .i64 ta, .int .i64 tp, .bool tw, .int .i64 tf, .int .i64 tq, dv, .slice ua W.up.length uc, ov, av, cv] 52 (0, 0))) := HW6.out.cell
          have k18 : w6.cell? ⟨K, 18, none⟩ = some (.slice ua W.up.length uc) := (cells_at HC6.out 18).trans rfl
          have hs6 : B ≤ w6.heap.size := Nat.le_trans HW6.out.bk (Nat.le_of_lt (lt_heap HC6.out))
          clear hue
          go_wp2_with (at_builtin; refine wpList_append_anyAt _ rfl _ _ 33 rfl B 39 i39 _ 4 32 Try.underlying33 hi39 h390 h391 h392 rfl (by decide) _ _ _ rfl HU6.out _ _ _ rfl (rowAt_of_own HRB2.out) (msgs_one _) (by unfold maxLen; omega) (by omega) hs6 ?_; intro v7 w7 ho7 hg7 ha7; refine Still.go ?_)
          unfold Still
          have HT7 := hide' (WAt.up' HW6.out (d := W.up ++ rs) (by rw [msgs_app]; exact ho7) (by rw [List.length_append]) hg7 ha7)
          obtain ⟨va7, vc7, hve7⟩ := own_slice ho7
          subst hve7
          have HC7 : Hid (w7.heap[K]? = some (.cells #[.int .i64 W.m.no, .int .i64 W.m.ph, .int .i64 W.m.now, .int .i64 W.m.pt, .bool W.m.want, .int .i64 W.m.timer, .int .i64 W.m.pat, .int .i64 W.m.tries, .int .i64 W.m.lim, .bool W.m.gave, .slice (some ⟨Ab, 0, none⟩) 4 c1, .int .i64 tl, .int .i64 ta, .int .i64 tp, .bool tw, .int .i64 tf, .int .i64 tq, dv, .slice ua W.up.length uc, ov, av, cv] 52 (0, 0))) := (KeepE.grown HU6.out hg7 K _ 52 (0, 0) HC6.out (by decide)).trans HC6.out
          have k18' : w7.cell? ⟨K, 18, none⟩ = some (.slice ua W.up.length uc) := (cells_at HC7.out 18).trans rfl
          have e18' : w7.frozen? ⟨K, 18, none⟩ = false := frozen_no HC7.out _
          have HFI := hide' (And.intro HT7.out.1 (HBW.out.trans HT7.out.2))
          clear ho7 hg7 ha7 k18 HU6 HC6 HC7 HW6 hs6 HT7 HBW HRB2
          go_wp2
          go_ret
          exact ⟨rfl, ⟨_, _, HFI.out.1⟩, HFI.out.2⟩
    · obtain ⟨kk, hkk⟩ : ∃ kk : Nat, tl = (kk : Int) := ⟨tl.toNat, by omega⟩
      subst hkk
      have hkl : kk < W.asked.length := by have q : (kk : Int) = W.s.last := HT.out; omega
      clear hneg hla
      obtain ⟨⟨qk, qn, qp, qw⟩, hq⟩ : ∃ c, W.asked[kk]? = some c := ⟨_, List.getElem?_eq_getElem (by omega)⟩
      have HQQ := hide' hq
      have hak0 := HF2.out.2.2.2.1.ak
      obtain ⟨qa, qc, hqe⟩ := own_slice hak0
      have hqe2 : av = .slice qa W.asked.length qc := hqe
      subst hqe2
      obtain ⟨Qb, hQb, hQB⟩ := own_some hak0 (by show 0 < W.asked.length; omega)
      subst hQb
      clear hq hqe hak0 hQB
      go_wp2_with fail
      go_loopw [9] (fun iv wr => ∃ (i : Nat), iv = .int .i64 i ∧ i ≤ 4 ∧ Hid (wr.heap[E]? = some (.cells #[.slice (some ⟨Ab, 0, none⟩) 4 c1, .int .i64 (kk : Int), .int .i64 ta, .int .i64 tp, .bool tw, .int .i64 tf, .int .i64 tq] 24 (0, 0)) ∧ wr.ownsRow 0 4 1 (.slice (some ⟨Ab, 0, none⟩) 4 c1) 4 (l1.map Value.bool) ∧ wr.ownsRow 0 39 4 (.slice va rs.length vc) rs.length (msgs rs) ∧ WAt wr B K W (.slice (some ⟨Pb, 0, none⟩) 4 pc) dv uv ov (.slice (some ⟨Qb, 0, none⟩) W.asked.length qc) cv ∧ Bl B w wr)) (fun iv _ => 4 - (intOf iv).toNat)
      case atStart => exact ⟨0, rfl, Nat.zero_le _, HF2.out⟩
      case round =>
        obtain ⟨i, rfl, hi, HR⟩ := hrel
        by_cases hlt : i < 4
        · have t0 : wr.cell? ⟨E, 0, none⟩ = some (.slice (some ⟨Ab, 0, none⟩) 4 c1) := (cells_at HR.out.1 0).trans rfl
          go_upto_region 13 with fail
          have hbC := below_al wr (.cells #[.int .i64 0, .int .i64 0, .int .i64 (-1), .bool false] 39)
          have hqC := alloc_new wr (.cells #[.int .i64 0, .int .i64 0, .int .i64 (-1), .bool false] 39)
          obtain ⟨Cb, hCb⟩ : ∃ q, q = wr.heap.size := ⟨_, rfl⟩
          obtain ⟨z1, hz1⟩ : ∃ q, q = wr.alloc (.cells #[.int .i64 0, .int .i64 0, .int .i64 (-1), .bool false] 39) := ⟨_, rfl⟩
          rw [← hz1] at hbC
          rw [← hz1, ← hCb] at hqC
          rw [← hz1]
          rw [show (Value.pointer (some { block := wr.heap.size, off := 0 })) = Value.pointer (some { block := Cb, off := 0 }) by rw [hCb]]
          have H1 : Hid (z1.heap[E]? = some (.cells #[.slice (some ⟨Ab, 0, none⟩) 4 c1, .int .i64 (kk : Int), .int .i64 ta, .int .i64 tp, .bool tw, .int .i64 tf, .int .i64 tq] 24 (0, 0)) ∧ z1.ownsRow 0 4 1 (.slice (some ⟨Ab, 0, none⟩) 4 c1) 4 (l1.map Value.bool) ∧ z1.ownsRow 0 39 4 (.slice va rs.length vc) rs.length (msgs rs) ∧ WAt z1 B K W (.slice (some ⟨Pb, 0, none⟩) 4 pc) dv uv ov (.slice (some ⟨Qb, 0, none⟩) W.asked.length qc) cv ∧ Bl B w z1) := ⟨(hbC.block E (lt_heap HR.out.1)).trans HR.out.1, own_below HR.out.2.1 hbC (Nat.le_refl _), own_below HR.out.2.2.1 hbC (Nat.le_refl _), HR.out.2.2.2.1.below hbC, HR.out.2.2.2.2.trans (bl_of hbC (Nat.le_trans HR.out.2.2.2.1.bk (Nat.le_of_lt (lt_heap HR.out.2.2.2.1.cell))))⟩
          have HQC := hide' hqC
          have HCE : Hid (E ≠ Cb ∧ K ≠ Cb ∧ B ≤ Cb ∧ Ab ≠ Cb ∧ Pb ≠ Cb) := by
            have q1 := lt_heap HR.out.1
            have q2 := lt_heap HR.out.2.2.2.1.cell
            have q3 := HR.out.2.2.2.1.bk
            have q4 := own_lt HR.out.2.1 (g := Ab) rfl
            have q5 := own_lt HR.out.2.2.2.1.pts (g := Pb) rfl
            show _ ∧ _ ∧ _ ∧ _ ∧ _
            omega
          have HVC : Hid ((∀ g, (Value.slice va rs.length vc).ownBlock = some g → g ≠ Cb) ∧ (∀ g, (Value.slice (some ⟨Pb, 0, none⟩) 4 pc).ownBlock = some g → g ≠ Cb) ∧ (∀ g, dv.ownBlock = some g → g ≠ Cb) ∧ (∀ g, uv.ownBlock = some g → g ≠ Cb) ∧ (∀ g, ov.ownBlock = some g → g ≠ Cb) ∧ (∀ g, (Value.slice (some ⟨Qb, 0, none⟩) W.asked.length qc).ownBlock = some g → g ≠ Cb) ∧ (∀ g, (cv).ownBlock = some g → g ≠ Cb)) := ⟨fun g hg => by have := own_lt HR.out.2.2.1 hg; omega, fun g hg => by have := own_lt HR.out.2.2.2.1.pts hg; omega, fun g hg => by have := own_lt HR.out.2.2.2.1.dn hg; omega, fun g hg => by have := own_lt HR.out.2.2.2.1.up hg; omega, fun g hg => by have := own_lt HR.out.2.2.2.1.od hg; omega, fun g hg => by have := own_lt HR.out.2.2.2.1.ak hg; omega, fun g hg => by have := own_lt HR.out.2.2.2.1.ac hg; omega⟩
          clear hbC hqC hz1 hCb t0 HR
          obtain ⟨t0, t1⟩ := cellsP2 H1.out.1
          obtain ⟨-, -, -, -, -, -, -, -, -, -, k10, k11, -, -, -, -, -, -, -, -, k20⟩ := cellsP21 H1.out.2.2.2.1.cell
          have hg0 : decide ((0 : Int) ≤ (kk : Int)) = true := decide_eq_true (by omega)
          have hg1 : decide ((kk : Int) < (W.asked.length : Int)) = true := decide_eq_true (by omega)
          go_quiet (fail)
          go_upto_region 14 with fail
          refine code_letter (fun z => Hid ((z.heap[E]? = some (.cells #[.slice (some ⟨Ab, 0, none⟩) 4 c1, .int .i64 (kk : Int), .int .i64 ta, .int .i64 tp, .bool tw, .int .i64 tf, .int .i64 tq] 24 (0, 0)) ∧ z.ownsRow 0 4 1 (.slice (some ⟨Ab, 0, none⟩) 4 c1) 4 (l1.map Value.bool) ∧ z.ownsRow 0 39 4 (.slice va rs.length vc) rs.length (msgs rs) ∧ WAt z B K W (.slice (some ⟨Pb, 0, none⟩) 4 pc) dv uv ov (.slice (some ⟨Qb, 0, none⟩) W.asked.length qc) cv ∧ Bl B w z) ∧ z.heap[Cb]? = some (.cells #[.int .i64 0, .int .i64 0, .int .i64 (-1), .bool false] 39 (0, 0)))) ⟨⟨((below_drewN (Below.refl _ z1) _).block E (lt_heap H1.out.1)).trans H1.out.1, own_below H1.out.2.1 (below_drewN (Below.refl _ z1) _) (Nat.le_refl _), own_below H1.out.2.2.1 (below_drewN (Below.refl _ z1) _) (Nat.le_refl _), H1.out.2.2.2.1.below (below_drewN (Below.refl _ z1) _), H1.out.2.2.2.2.trans (bl_of (below_drewN (Below.refl _ z1) _) (Nat.le_trans H1.out.2.2.2.1.bk (Nat.le_of_lt (lt_heap H1.out.2.2.2.1.cell))))⟩, HQC.out⟩ ?_
          clear t0 t1 k10 k11 k20
          intro z2 HZ2
          have H2 := hide' HZ2.out.1
          have HQ2 := hide' HZ2.out.2
          have HAKR : Hid (z2.ownsRow B 39 4 (.slice (some ⟨Qb, 0, none⟩) W.asked.length qc) W.asked.length (msgs W.asked)) := H2.out.2.2.2.1.ak
          have HSQ : Hid (z2.drew.cell? ⟨K, 20, none⟩ = some (.slice (some ⟨Qb, 0, none⟩) W.asked.length qc) ∧ z2.drew.cell? ⟨E, 1, none⟩ = some (.int .i64 (kk : Int)) ∧ z2.drew.cell? ⟨Qb, kk * 4, none⟩ = some (.int .i64 qk) ∧ z2.drew.cell? ⟨Qb, kk * 4 + 1, none⟩ = some (.int .i64 qn) ∧ z2.drew.cell? ⟨Qb, kk * 4 + 2, none⟩ = some (.int .i64 qp) ∧ z2.drew.cell? ⟨Qb, kk * 4 + 3, none⟩ = some (.bool qw)) := ⟨(cells_at H2.out.2.2.2.1.cell 20).trans rfl, (cells_at H2.out.1 1).trans rfl, (own_cell HAKR.out ((msgs_at HQQ.out 0 (by decide)).trans rfl)).1, (own_cell HAKR.out ((msgs_at HQQ.out 1 (by decide)).trans rfl)).1, (own_cell HAKR.out ((msgs_at HQQ.out 2 (by decide)).trans rfl)).1, (own_cell HAKR.out ((msgs_at HQQ.out 3 (by decide)).trans rfl)).1⟩
          have hkz : (0 : Int) ≤ (kk : Int) ∧ (kk : Int) < (W.asked.length : Int) := by omega
          clear HZ2 H1 HQC HAKR
          obtain ⟨b0, b1, b2, b3⟩ := cellsP4 HQ2.out
          obtain ⟨e0, e1, e2, e3⟩ := frozenP4 HQ2.out
          refine wp_region_tail (fun W' => W'.cell? ⟨K, 20, none⟩ = some (.slice (some ⟨Qb, 0, none⟩) W.asked.length qc) ∧ W'.cell? ⟨E, 1, none⟩ = some (.int .i64 (kk : Int)) ∧ W'.cell? ⟨Qb, kk * 4, none⟩ = some (.int .i64 qk) ∧ W'.cell? ⟨Qb, kk * 4 + 1, none⟩ = some (.int .i64 qn) ∧ W'.cell? ⟨Qb, kk * 4 + 2, none⟩ = some (.int .i64 qp) ∧ W'.cell? ⟨Qb, kk * 4 + 3, none⟩ = some (.bool qw)) 8 (by kernel_rfl) ?_
          refine wpAnyD_takeAt 0 (some 115) (v := ?_) rfl (by kernel_rfl) (by kernel_rfl) (by kernel_rfl) (by kernel_rfl) (by kernel_rfl) (fun _ _ _ h => h) (by exact HSQ.out) (fun o hop => ?_) ?_
          rotate_left
          · injection hop with hop
            subst hop
            refine ⟨rfl, fun W' hW => ?_⟩
            obtain ⟨s0, s1, s2, s3, s4, s5⟩ := hW
            go_simp
            first
            | rfl
            | (constructor <;> rfl)
          try simp only [Act.put, List.setIfInBounds_toArray, List.set_cons_zero, List.set_cons_succ]
          refine wpAnyD_takeAt 1 (some 116) (v := ?_) rfl (by kernel_rfl) (by kernel_rfl) (by kernel_rfl) (by kernel_rfl) (by kernel_rfl) (fun _ _ _ h => h) (by exact HSQ.out) (fun o hop => ?_) ?_
          rotate_left
          · injection hop with hop
            subst hop
            refine ⟨rfl, fun W' hW => ?_⟩
            obtain ⟨s0, s1, s2, s3, s4, s5⟩ := hW
            go_simp
            first
            | rfl
            | (constructor <;> rfl)
          try simp only [Act.put, List.setIfInBounds_toArray, List.set_cons_zero, List.set_cons_succ]
          refine wpAnyD_takeAt 2 (some 117) (v := ?_) rfl (by kernel_rfl) (by kernel_rfl) (by kernel_rfl) (by kernel_rfl) (by kernel_rfl) (fun _ _ _ h => h) (by exact HSQ.out) (fun o hop => ?_) ?_
          rotate_left
          · injection hop with hop
            subst hop
            refine ⟨rfl, fun W' hW => ?_⟩
            obtain ⟨s0, s1, s2, s3, s4, s5⟩ := hW
            go_simp
            first
            | rfl
            | (constructor <;> rfl)
          try simp only [Act.put, List.setIfInBounds_toArray, List.set_cons_zero, List.set_cons_succ]
          refine wpAnyD_takeAt 3 (some 118) (v := ?_) rfl (by kernel_rfl) (by kernel_rfl) (by kernel_rfl) (by kernel_rfl) (by kernel_rfl) (fun _ _ _ h => h) (by exact HSQ.out) (fun o hop => ?_) ?_
          rotate_left
          · injection hop with hop
            subst hop
            refine ⟨rfl, fun W' hW => ?_⟩
            obtain ⟨s0, s1, s2, s3, s4, s5⟩ := hW
            go_simp
            first
            | rfl
            | (constructor <;> rfl)
          try simp only [Act.put, List.setIfInBounds_toArray, List.set_cons_zero, List.set_cons_succ]
          refine wpAnyD_takeAt 4 (some 119) (v := ?_) rfl (by kernel_rfl) (by kernel_rfl) (by kernel_rfl) (by kernel_rfl) (by kernel_rfl) (fun _ _ _ h => h) (by exact HSQ.out) (fun o hop => ?_) ?_
          rotate_left
          · injection hop with hop
            subst hop
            refine ⟨rfl, fun W' hW => ?_⟩
            obtain ⟨s0, s1, s2, s3, s4, s5⟩ := hW
            go_simp
            first
            | rfl
            | (constructor <;> rfl)
          try simp only [Act.put, List.setIfInBounds_toArray, List.set_cons_zero, List.set_cons_succ]
          refine wpAnyD_takeAt 5 (some 120) (v := ?_) rfl (by kernel_rfl) (by kernel_rfl) (by kernel_rfl) (by kernel_rfl) (by kernel_rfl) (fun _ _ _ h => h) (by exact HSQ.out) (fun o hop => ?_) ?_
          rotate_left
          · injection hop with hop
            subst hop
            refine ⟨rfl, fun W' hW => ?_⟩
            obtain ⟨s0, s1, s2, s3, s4, s5⟩ := hW
            go_simp
            first
            | rfl
            | (constructor <;> rfl)
          try simp only [Act.put, List.setIfInBounds_toArray, List.set_cons_zero, List.set_cons_succ]
          refine wpAnyD_takeAt 6 (some 121) (v := ?_) rfl (by kernel_rfl) (by kernel_rfl) (by kernel_rfl) (by kernel_rfl) (by kernel_rfl) (fun _ _ _ h => h) (by exact HSQ.out) (fun o hop => ?_) ?_
          rotate_left
          · injection hop with hop
            subst hop
            refine ⟨rfl, fun W' hW => ?_⟩
            obtain ⟨s0, s1, s2, s3, s4, s5⟩ := hW
            go_simp
            first
            | rfl
            | (constructor <;> rfl)
          try simp only [Act.put, List.setIfInBounds_toArray, List.set_cons_zero, List.set_cons_succ]
          refine wpAnyD_takeAt 7 (some 122) (v := ?_) rfl (by kernel_rfl) (by kernel_rfl) (by kernel_rfl) (by kernel_rfl) (by kernel_rfl) (fun _ _ _ h => h) (by exact HSQ.out) (fun o hop => ?_) ?_
          rotate_left
          · injection hop with hop
            subst hop
            refine ⟨rfl, fun W' hW => ?_⟩
            obtain ⟨s0, s1, s2, s3, s4, s5⟩ := hW
            go_simp
            first
            | rfl
            | (constructor <;> rfl)
          try simp only [Act.put, List.setIfInBounds_toArray, List.set_cons_zero, List.set_cons_succ]
          refine wpAnyT_one (i := 8) (by kernel_rfl) rfl rfl (fun K' hK => ?_)
          go_simp
          refine hK.out _ _ (fun h => absurd rfl h) ?_
          clear hK K'
          try simp only [Act.put, List.setIfInBounds_toArray, List.set_cons_zero, List.set_cons_succ]
          refine wpAnyT_done (by kernel_rfl) ?_ _
          have HPQ := hide' (put4 (w := z2.drew) HQ2.out (.int .i64 qk) (.int .i64 qn) (.int .i64 qp) (.bool qw))
          clear b0 b1 b2 b3 e0 e1 e2 e3 HSQ
          go_upto_region 15 with fail
          refine code_letter (fun z => Hid ((z.heap[E]? = some (.cells #[.slice (some ⟨Ab, 0, none⟩) 4 c1, .int .i64 (kk : Int), .int .i64 ta, .int .i64 tp, .bool tw, .int .i64 tf, .int .i64 tq] 24 (0, 0)) ∧ z.ownsRow 0 4 1 (.slice (some ⟨Ab, 0, none⟩) 4 c1) 4 (l1.map Value.bool) ∧ z.ownsRow 0 39 4 (.slice va rs.length vc) rs.length (msgs rs) ∧ WAt z B K W (.slice (some ⟨Pb, 0, none⟩) 4 pc) dv uv ov (.slice (some ⟨Qb, 0, none⟩) W.asked.length qc) cv ∧ Bl B w z) ∧ z.heap[Cb]? = some (.cells #[.int .i64 qk, .int .i64 qn, .int .i64 qp, .bool qw] 39 (0, 0)))) ⟨⟨(HPQ.out.2.block E (lt_heap H2.out.1) HCE.out.1).trans H2.out.1, own_putE (w := z2.drew) (own_below H2.out.2.1 (Below.refl _ z2).drew (Nat.le_refl _)) HQ2.out HPQ.out.2 (by decide), own_other (own_below H2.out.2.2.1 (Below.refl _ z2).drew (Nat.le_refl _)) (fun k ek => HPQ.out.2.block k (own_lt (own_below H2.out.2.2.1 (Below.refl _ z2).drew (Nat.le_refl _)) ek) (HVC.out.1 k ek)), (H2.out.2.2.2.1.below (Below.refl _ z2).drew).but' HPQ.out.2 HCE.out.2.1 HVC.out.2.1 HVC.out.2.2.1 HVC.out.2.2.2.1 HVC.out.2.2.2.2.1 HVC.out.2.2.2.2.2.1 HVC.out.2.2.2.2.2.2, H2.out.2.2.2.2.drew.trans (but_bl HPQ.out.2 HQ2.out (by decide) HCE.out.2.2.1 (Nat.le_trans HCE.out.2.2.1 (Nat.le_of_lt (lt_heap HQ2.out))))⟩, HPQ.out.1⟩ ?_
          clear HPQ H2 HQ2
          intro z3 HZ3
          have H3 := hide' HZ3.out.1
          have HQ3 := hide' HZ3.out.2
          clear HZ3
          obtain ⟨t0, t1⟩ := cellsP2 H3.out.1
          obtain ⟨-, -, -, -, -, -, -, -, -, -, k10, k11⟩ := cellsP12 H3.out.2.2.2.1.cell
          obtain ⟨q0, q1, q2, q3⟩ := cellsP4 HQ3.out
          have ca : z3.cell? ⟨Ab, i, none⟩ = some (.bool (l1.getD i false)) := (own_bool H3.out.2.1 hlt).1
          have cp : z3.cell? ⟨Pb, i, none⟩ = some (.bool (W.l.getD i false)) := (own_bool (by have q := H3.out.2.2.2.1.pts; rw [H4.out] at q; exact q) hlt).1
          have hiz : (0 : Int) ≤ (i : Int) ∧ (i : Int) < 4 := by omega
          rw [HLL.out] at ca
          obtain ⟨bb, hbb⟩ : ∃ q, q = W.l.getD i false := ⟨_, rfl⟩
          rw [← hbb] at ca cp
          clear hbb
          have hne : ((kk : Int) != W.s.last) = false := HNE2.out
          go_quiet (fail)
          go_upto_region 17 with fail
          go_quiet (fail)
          go_wp2_with fail
          go_roundw
          case rel => exact ⟨i + 1, by go_num, by omega, ⟨((below_drewN (Below.refl _ z3) _).block E (lt_heap H3.out.1)).trans H3.out.1, own_below H3.out.2.1 (below_drewN (Below.refl _ z3) _) (Nat.le_refl _), own_below H3.out.2.2.1 (below_drewN (Below.refl _ z3) _) (Nat.le_refl _), H3.out.2.2.2.1.below (below_drewN (Below.refl _ z3) _), H3.out.2.2.2.2.trans (bl_of (below_drewN (Below.refl _ z3) _) (Nat.le_trans H3.out.2.2.2.1.bk (Nat.le_of_lt (lt_heap H3.out.2.2.2.1.cell))))⟩⟩
          case measure => simp [intOf]; omega
        · obtain rfl : i = 4 := by omega
          obtain ⟨t0, t1, t2, t3, t4, t5, t6⟩ := cellsP7 HR.out.1
          have k10 : wr.cell? ⟨K, 10, none⟩ = some (.slice (some ⟨Pb, 0, none⟩) 4 pc) := (cells_at HR.out.2.2.2.1.cell 10).trans rfl
          have f10 : wr.frozen? ⟨K, 10, none⟩ = false := frozen_no HR.out.2.2.2.1.cell _
          have k11 : wr.cell? ⟨K, 11, none⟩ = some (.int .i64 W.s.last) := (cells_at HR.out.2.2.2.1.cell 11).trans rfl
          have f11 : wr.frozen? ⟨K, 11, none⟩ = false := frozen_no HR.out.2.2.2.1.cell _
          have k12 : wr.cell? ⟨K, 12, none⟩ = some (.int .i64 W.s.armed) := (cells_at HR.out.2.2.2.1.cell 12).trans rfl
          have f12 : wr.frozen? ⟨K, 12, none⟩ = false := frozen_no HR.out.2.2.2.1.cell _
          have k13 : wr.cell? ⟨K, 13, none⟩ = some (.int .i64 W.s.point) := (cells_at HR.out.2.2.2.1.cell 13).trans rfl
          have f13 : wr.frozen? ⟨K, 13, none⟩ = false := frozen_no HR.out.2.2.2.1.cell _
          have k14 : wr.cell? ⟨K, 14, none⟩ = some (.bool W.s.want) := (cells_at HR.out.2.2.2.1.cell 14).trans rfl
          have f14 : wr.frozen? ⟨K, 14, none⟩ = false := frozen_no HR.out.2.2.2.1.cell _
          have k15 : wr.cell? ⟨K, 15, none⟩ = some (.int .i64 W.s.left) := (cells_at HR.out.2.2.2.1.cell 15).trans rfl
          have f15 : wr.frozen? ⟨K, 15, none⟩ = false := frozen_no HR.out.2.2.2.1.cell _
          have k16 : wr.cell? ⟨K, 16, none⟩ = some (.int .i64 W.s.pat) := (cells_at HR.out.2.2.2.1.cell 16).trans rfl
          have f16 : wr.frozen? ⟨K, 16, none⟩ = false := frozen_no HR.out.2.2.2.1.cell _
          have HPS := hide' (putS HR.out.2.2.2.1.cell (.slice (some ⟨Ab, 0, none⟩) 4 c1) (.int .i64 (kk : Int)) (.int .i64 ta) (.int .i64 tp) (.bool tw) (.int .i64 tf) (.int .i64 tq))
          have HTT := hide' (HR.out.2.2.2.1.turn HPS.out.2 (m := W.m) (l := l1) (s := ⟨(kk : Int), ta, tp, tw, tf, tq⟩) (pv' := .slice (some ⟨Ab, 0, none⟩) 4 c1) HPS.out.1 (by rw [HL1.out]; exact own_keep HR.out.2.1 (but_keep HPS.out.2 HR.out.2.2.2.1.cell) (by decide)))
          have HRB2 := hide' (own_keep HR.out.2.2.1 (but_keep HPS.out.2 HR.out.2.2.2.1.cell) (by decide))
          have HBW := hide' (HR.out.2.2.2.2.trans HTT.out.2)
          go_upto_region 20 with fail
          obtain ⟨w6, hw6⟩ : ∃ q, q = (((((((wr.setCell ⟨K, 10, none⟩ (.slice (some ⟨Ab, 0, none⟩) 4 c1)).setCell ⟨K, 11, none⟩ (.int .i64 (kk : Int))).setCell ⟨K, 12, none⟩ (.int .i64 ta)).setCell ⟨K, 13, none⟩ (.int .i64 tp)).setCell ⟨K, 14, none⟩ (.bool tw)).setCell ⟨K, 15, none⟩ (.int .i64 tf)).setCell ⟨K, 16, none⟩ (.int .i64 tq)) := ⟨_, rfl⟩
          rw [← hw6] at HPS HTT HRB2 HBW ⊢
          have HW6 := hide' HTT.out.1
          clear hw6 HTT HPS HR t0 t1 t2 t3 t4 t5 t6 k10 k11 k12 k13 k14 k15 k16 f10 f11 f12 f13 f14 f15 f16
          obtain ⟨ua, uc, hue⟩ := own_slice HW6.out.up
          have hue2 : uv = .slice ua W.up.length uc := hue
          subst hue2
          have HU6 : Hid (w6.ownsRow B 39 4 (.slice ua W.up.length uc) W.up.length (msgs W.up)) := HW6.out.up
          have HC6 : Hid (w6.heap[K]? = some (.cells #[.int .i64 W.m.no, .int .i64 W.m.ph, .int .i64 W.m.now, .int .i64 W.m.pt, .bool W.m.want, .int .i64 W.m.timer, .int .i64 W.m.pat, .int .i64 W.m.tries, .int .i64 W.m.lim, .bool W.m.gave, .slice (some ⟨Ab, 0, none⟩) 4 c1, .int .i64 (kk : Int), .int .i64 ta, .int .i64 tp, .bool tw, .int .i64 tf, .int .i64 tq, dv, .slice ua W.up.length uc, ov, .slice (some ⟨Qb, 0, none⟩) W.asked.length qc, cv] 52 (0, 0))) := HW6.out.cell
          have k18 : w6.cell? ⟨K, 18, none⟩ = some (.slice ua W.up.length uc) := (cells_at HC6.out 18).trans rfl
          have hs6 : B ≤ w6.heap.size := Nat.le_trans HW6.out.bk (Nat.le_of_lt (lt_heap HC6.out))
          clear hue
          go_wp2_with (at_builtin; refine wpList_append_anyAt _ rfl _ _ 33 rfl B 39 i39 _ 4 32 Try.underlying33 hi39 h390 h391 h392 rfl (by decide) _ _ _ rfl HU6.out _ _ _ rfl (rowAt_of_own HRB2.out) (msgs_one _) (by unfold maxLen; omega) (by omega) hs6 ?_; intro v7 w7 ho7 hg7 ha7; refine Still.go ?_)
          unfold Still
          have HT7 := hide' (WAt.up' HW6.out (d := W.up ++ rs) (by rw [msgs_app]; exact ho7) (by rw [List.length_append]) hg7 ha7)
          obtain ⟨va7, vc7, hve7⟩ := own_slice ho7
          subst hve7
          have HC7 : Hid (w7.heap[K]? = some (.cells #[.int .i64 W.m.no, .int .i64 W.m.ph, .int .i64 W.m.now, .int .i64 W.m.pt, .bool W.m.want, .int .i64 W.m.timer, .int .i64 W.m.pat, .int .i64 W.m.tries, .int .i64 W.m.lim, .bool W.m.gave, .slice (some ⟨Ab, 0, none⟩) 4 c1, .int .i64 (kk : Int), .int .i64 ta, .int .i64 tp, .bool tw, .int .i64 tf, .int .i64 tq, dv, .slice ua W.up.length uc, ov, .slice (some ⟨Qb, 0, none⟩) W.asked.length qc, cv] 52 (0, 0))) := (KeepE.grown HU6.out hg7 K _ 52 (0, 0) HC6.out (by decide)).trans HC6.out
          have k18' : w7.cell? ⟨K, 18, none⟩ = some (.slice ua W.up.length uc) := (cells_at HC7.out 18).trans rfl
          have e18' : w7.frozen? ⟨K, 18, none⟩ = false := frozen_no HC7.out _
          have HFI := hide' (And.intro HT7.out.1 (HBW.out.trans HT7.out.2))
          clear ho7 hg7 ha7 k18 HU6 HC6 HC7 HW6 hs6 HT7 HBW HRB2
          go_wp2
          go_ret
          exact ⟨rfl, ⟨_, _, HFI.out.1⟩, HFI.out.2⟩
end Go.Proofs.Ytjhmendiefojoam
