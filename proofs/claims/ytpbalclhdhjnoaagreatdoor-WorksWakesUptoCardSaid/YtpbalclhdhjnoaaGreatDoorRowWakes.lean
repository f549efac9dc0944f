/- For every world and every list of black nodes, of bulk at most 1048576 together, WorksWakes answers true: the program's Wake returns the fault and the numbers of the document's answer, to the number, and the world and the list read afterwards as they did before. Conditions: the bulk (the second form); the listed package-level variables of the library hold what their initialisers lay (the card ties them to the program). -/
import Derived.Test.YtpbalclhdhjnoaaGreatDoorWkc
import Derived.Test.YtpbalclhdhjnoaaGreatDoorKDc9
import Derived.ProofKit
import Derived.OpenShut
import Derived.Deep.Slices
import Derived.Deep.Strs
import Derived.Lib.SmallJoins
import Derived.Test.YtpbalclhdhjnoaaGreatDoorCards
import Derived.Test.YtpbalclhdhjnoaaGreatDoorTie
import Derived.Deep.DeepWitnessRowRef
import Derived.Lib.LaidIn
import Derived.Lib.LaidTab
import Derived.Stop.LaidErr
import Derived.Shelf.Vars
namespace Go.Proofs.YtpbalclhdhjnoaaGreatDoor.Bar
open Go.RowKit Go.Shelf Doc

theorem texts_one (l : List ByteArray) : ∀ u ∈ l.map Value.string, u.oneCell' = true := fun u hu => by
  obtain ⟨x, _, rfl⟩ := List.mem_map.1 hu
  rfl
theorem intsW_one (l : List Int) : ∀ u ∈ ints l, u.oneCell' = true := fun u hu => by
  obtain ⟨x, _, rfl⟩ := List.mem_map.1 hu
  rfl
theorem lines_one (l : List LineM) : ∀ u ∈ l.flatMap LineM.cells, u.oneCell' = true := fun u hu => by
  obtain ⟨x, _, h⟩ := List.mem_flatMap.1 hu
  unfold LineM.cells at h
  simp only [List.mem_cons, List.not_mem_nil, or_false] at h
  rcases h with rfl | rfl | rfl | rfl | rfl <;> rfl
theorem gens_one (l : List GenM) : ∀ u ∈ l.flatMap GenM.cells, u.oneCell' = true := fun u hu => by
  obtain ⟨x, _, h⟩ := List.mem_flatMap.1 hu
  unfold GenM.cells at h
  simp only [List.mem_cons, List.not_mem_nil, or_false] at h
  rcases h with rfl | rfl | rfl | rfl | rfl <;> rfl
theorem loads_one (l : List LoadM) : ∀ u ∈ l.flatMap LoadM.cells, u.oneCell' = true := fun u hu => by
  obtain ⟨x, _, h⟩ := List.mem_flatMap.1 hu
  unfold LoadM.cells at h
  simp only [List.mem_cons, List.not_mem_nil, or_false] at h
  rcases h with rfl | rfl | rfl <;> rfl
theorem ties_one (l : List TieM) : ∀ u ∈ l.flatMap TieM.cells, u.oneCell' = true := fun u hu => by
  obtain ⟨x, _, h⟩ := List.mem_flatMap.1 hu
  unfold TieM.cells at h
  simp only [List.mem_cons, List.not_mem_nil, or_false] at h
  rcases h with rfl | rfl | rfl | rfl <;> rfl
theorem ents_one (l : List EntM) : ∀ u ∈ l.flatMap EntM.cells, u.oneCell' = true := fun u hu => by
  obtain ⟨x, _, h⟩ := List.mem_flatMap.1 hu
  unfold EntM.cells at h
  simp only [List.mem_cons, List.not_mem_nil, or_false] at h
  rcases h with rfl | rfl | rfl | rfl <;> rfl
theorem info179W : (Tryz.prog.info? 179).map (fun i => (i.zero, i.size, i.bytes)) = some (some (.agg #[.int .i64 0, .int .i64 0, .int .i64 0, .int .i64 0]), 4, 32) := by kernel_rfl
/-- Rows stay; boxes may change. -/
def KeepN (w w' : World) : Prop := ∀ (k : Nat) (cur : Array Value) (e : TypeId) (fz : Nat × Nat), w.heap[k]? = some (.cells cur e fz) → e ≠ 28 → e ≠ 33 → w'.heap[k]? = w.heap[k]?
theorem KeepN.refl (w : World) : KeepN w w := fun _ _ _ _ _ _ _ => rfl
theorem KeepN.trans {a b c : World} (h : KeepN a b) (h' : KeepN b c) : KeepN a c := fun k cur e fz hk h1 h2 => by
  have h3 := h k cur e fz hk h1 h2
  exact (h' k cur e fz (h3.trans hk) h1 h2).trans h3
theorem KeepN.below {w w' : World} (h : Below w.heap.size w w') : KeepN w w' := fun k _ _ _ hk _ _ => h.block k (lt_heap hk)
theorem KeepN.set {w : World} {A e : Nat} {c : Array Value} (h : w.heap[A]? = some (.cells c e (0, 0))) (he : e = 28 ∨ e = 33) (j : Nat) (x : Value) : KeepN w (w.setCell ⟨A, j, none⟩ x) := fun k cur e1 fz hk h1 h2 => Below.heap_setCell _ _ _ k (fun e2 => by
  rw [e2, h] at hk
  cases hk
  rcases he with rfl | rfl
  · exact h1 rfl
  · exact h2 rfl)
theorem own_keepN {w w' : World} {B e sz n : Nat} {v : Value} {xs : List Value} (h : w.ownsRow B e sz v n xs) (hk : KeepN w w') (h1 : e ≠ 28) (h2 : e ≠ 33) : w'.ownsRow B e sz v n xs := by
  refine ⟨h.1, ?_⟩
  rcases h.2 with h3 | ⟨g, cap, cur, h3, h4, h5, h6⟩
  · exact .inl h3
  · exact .inr ⟨g, cap, cur, h3, h4, (hk g _ _ _ h5 h1 h2).trans h5, h6⟩
/-- The boxes while a world is copied. -/
structure OFW (w wr : World) (Wb Rz Nb : Nat) (wv nv : Array Value) : Prop where
  hW : wr.heap[Wb]? = some (.cells wv 33 (0, 0))
  hR : wr.heap[Rz]? = some (.cells #[.string ⟨#[]⟩, .slice none 0 0, .slice none 0 0, .slice none 0 0, .slice none 0 0, .slice none 0 0, .slice none 0 0, .slice none 0 0, .slice none 0 0, .slice none 0 0, .int .i64 0, .slice none 0 0] 33 (0, 0))
  hN : wr.heap[Nb]? = some (.cells nv 28 (0, 0))
  ne : Wb ≠ Rz ∧ Wb ≠ Nb ∧ Rz ≠ Nb
  s : w.heap.size ≤ Wb ∧ w.heap.size ≤ Rz ∧ w.heap.size ≤ Nb
  bel : Below w.heap.size w wr
theorem OFW.more {w wr w' : World} {Wb Rz Nb : Nat} {wv nv : Array Value} (h : OFW w wr Wb Rz Nb wv nv) (hb : Below wr.heap.size wr w') : OFW w w' Wb Rz Nb wv nv :=
  ⟨(hb.block Wb (lt_heap h.hW)).trans h.hW, (hb.block Rz (lt_heap h.hR)).trans h.hR, (hb.block Nb (lt_heap h.hN)).trans h.hN, h.ne, h.s, h.bel.trans (hb.mono h.bel.size)⟩
theorem OFW.setN {w wr : World} {Wb Rz Nb : Nat} {wv nv : Array Value} (h : OFW w wr Wb Rz Nb wv nv) (j : Nat) (x : Value) : OFW w (wr.setCell ⟨Nb, j, none⟩ x) Wb Rz Nb wv (nv.setIfInBounds j x) :=
  ⟨(Below.heap_setCell _ _ _ Wb h.ne.2.1).trans h.hW, (Below.heap_setCell _ _ _ Rz h.ne.2.2).trans h.hR, set_any h.hN j x, h.ne, h.s, h.bel.setCell (p := ⟨Nb, j, none⟩) h.s.2.2 x⟩
theorem OFW.setW {w wr : World} {Wb Rz Nb : Nat} {wv nv : Array Value} (h : OFW w wr Wb Rz Nb wv nv) (j : Nat) (x : Value) : OFW w (wr.setCell ⟨Wb, j, none⟩ x) Wb Rz Nb (wv.setIfInBounds j x) nv :=
  ⟨set_any h.hW j x, (Below.heap_setCell _ _ _ Rz (Ne.symm h.ne.1)).trans h.hR, (Below.heap_setCell _ _ _ Nb (Ne.symm h.ne.2.1)).trans h.hN, h.ne, h.s, h.bel.setCell (p := ⟨Wb, j, none⟩) h.s.1 x⟩
theorem OFW.copied {w wr : World} {Wb Rz Nb : Nat} {wv nv wv' nv' : Array Value} (h : OFW w wr Wb Rz Nb wv nv) (h1 : wv = wv') (h2 : nv = nv') : OFW w wr Wb Rz Nb wv' nv' := by rw [← h1, ← h2]; exact h
set_option maxRecDepth 100000 in
set_option maxHeartbeats 4000000 in
theorem WorldOf_any (W : WorldM) (a : WAddr) (w : World) (hsm : SmallM W.net) (hw : WorldAt w W a) (hlens : W.out.length ≤ 2000000 ∧ W.on.length ≤ 2000000 ∧ W.plan.length ≤ 2000000 ∧ W.given.length ≤ 2000000 ∧ W.log.length ≤ 2000000) :
    Calls Tryz.prog 5 #[.agg #[.string W.net.name, .slice a.ab W.net.buses.length a.cb, .slice a.al W.net.lines.length a.cl, .slice a.ag W.net.gens.length a.cg, .slice a.ad W.net.loads.length a.cd, .slice a.at' W.net.ties.length a.ct, .slice a.ao W.out.length a.co, .slice a.an W.on.length a.cn, .slice a.ap W.plan.length a.cp, .slice a.av W.given.length a.cv, .int .i64 W.now, .slice a.ae W.log.length a.ce]] w fun e w' => ∃ xb xl xg xd xt xo xn xp xv xe zb zl zg zd zt zo zn zp zv ze, e = .returned (.agg #[.string W.net.name, .slice xb W.net.buses.length zb, .slice xl W.net.lines.length zl, .slice xg W.net.gens.length zg, .slice xd W.net.loads.length zd, .slice xt W.net.ties.length zt, .slice xo W.out.length zo, .slice xn W.on.length zn, .slice xp W.plan.length zp, .slice xv W.given.length zv, .int .i64 W.now, .slice xe W.log.length ze]) ∧ (w'.ownsRow w.heap.size 9 1 (.slice xb W.net.buses.length zb) (W.net.buses.length) (W.net.buses.map Value.string) ∧ w'.ownsRow w.heap.size 54 5 (.slice xl W.net.lines.length zl) (W.net.lines.length) (W.net.lines.flatMap LineM.cells) ∧ w'.ownsRow w.heap.size 46 5 (.slice xg W.net.gens.length zg) (W.net.gens.length) (W.net.gens.flatMap GenM.cells) ∧ w'.ownsRow w.heap.size 51 3 (.slice xd W.net.loads.length zd) (W.net.loads.length) (W.net.loads.flatMap LoadM.cells) ∧ w'.ownsRow w.heap.size 56 4 (.slice xt W.net.ties.length zt) (W.net.ties.length) (W.net.ties.flatMap TieM.cells) ∧ w'.ownsRow w.heap.size 4 1 (.slice xo W.out.length zo) (W.out.length) (W.out.map Value.bool) ∧ w'.ownsRow w.heap.size 4 1 (.slice xn W.on.length zn) (W.on.length) (W.on.map Value.bool) ∧ w'.ownsRow w.heap.size 3 1 (.slice xp W.plan.length zp) (W.plan.length) (ints W.plan) ∧ w'.ownsRow w.heap.size 3 1 (.slice xv W.given.length zv) (W.given.length) (ints W.given) ∧ w'.ownsRow w.heap.size 179 4 (.slice xe W.log.length ze) (W.log.length) (W.log.flatMap EntM.cells)) ∧ Below w.heap.size w w' := by
  obtain ⟨i9, hi9, h90, h91, h92⟩ := info_parts Tryz.info9
  obtain ⟨i54, hi54, h540, h541, h542⟩ := info_parts Tryz.info54
  obtain ⟨i46, hi46, h460, h461, h462⟩ := info_parts Tryz.info46
  obtain ⟨i51, hi51, h510, h511, h512⟩ := info_parts Tryz.info51
  obtain ⟨i56, hi56, h560, h561, h562⟩ := info_parts Tryz.info56
  obtain ⟨i4, hi4, h40, h41, h42⟩ := info_parts info4W
  obtain ⟨i3, hi3, h30, h31, h32⟩ := info_parts info3W
  obtain ⟨i179, hi179, h1790, h1791, h1792⟩ := info_parts info179W
  obtain ⟨l1, l2, l3, l4, l5⟩ := hsm.lens
  obtain ⟨m1, m2, m3, m4, m5⟩ := hlens
  obtain ⟨ab, al, ag, ad, at', ao, an, ap, av, ae, cb, cl, cg, cd, ct, co, cn, cp, cv, ce⟩ := a
  have HT : Hid (RowAt w (.slice ab W.net.buses.length cb) W.net.buses.length 1 (W.net.buses.map Value.string)) := by
    obtain ⟨b, l, g, d, t, hv, h1, _⟩ := hw.net
    cases hv
    exact h1
  have HL : Hid (RowAt w (.slice al W.net.lines.length cl) W.net.lines.length 5 (W.net.lines.flatMap LineM.cells)) := hw.l
  have HG : Hid (RowAt w (.slice ag W.net.gens.length cg) W.net.gens.length 5 (W.net.gens.flatMap GenM.cells)) := hw.g
  have HD : Hid (RowAt w (.slice ad W.net.loads.length cd) W.net.loads.length 3 (W.net.loads.flatMap LoadM.cells)) := hw.d
  have HTI : Hid (RowAt w (.slice at' W.net.ties.length ct) W.net.ties.length 4 (W.net.ties.flatMap TieM.cells)) := hw.t
  have HO : Hid (RowAt w (.slice ao W.out.length co) W.out.length 1 (W.out.map Value.bool)) := hw.o
  have HN : Hid (RowAt w (.slice an W.on.length cn) W.on.length 1 (W.on.map Value.bool)) := hw.n
  have HP : Hid (RowAt w (.slice ap W.plan.length cp) W.plan.length 1 (ints W.plan)) := hw.p
  have HV : Hid (RowAt w (.slice av W.given.length cv) W.given.length 1 (ints W.given)) := hw.v
  have HE : Hid (RowAt w (.slice ae W.log.length ce) W.log.length 4 (W.log.flatMap EntM.cells)) := hw.e
  dsimp only
  clear hsm hw
  go_enter Tryz.func5, Tryz.ntmps5
  go_upto_region 1 with fail
  have hqWb := (alloc_old (w.alloc (.cells #[.string W.net.name, .slice ab W.net.buses.length cb, .slice al W.net.lines.length cl, .slice ag W.net.gens.length cg, .slice ad W.net.loads.length cd, .slice at' W.net.ties.length ct, .slice ao W.out.length co, .slice an W.on.length cn, .slice ap W.plan.length cp, .slice av W.given.length cv, .int .i64 W.now, .slice ae W.log.length ce] 33)) (.cells #[.string ⟨#[]⟩, .slice none 0 0, .slice none 0 0, .slice none 0 0, .slice none 0 0, .slice none 0 0, .slice none 0 0, .slice none 0 0, .slice none 0 0, .slice none 0 0, .int .i64 0, .slice none 0 0] 33) (lt_heap (alloc_new w (.cells #[.string W.net.name, .slice ab W.net.buses.length cb, .slice al W.net.lines.length cl, .slice ag W.net.gens.length cg, .slice ad W.net.loads.length cd, .slice at' W.net.ties.length ct, .slice ao W.out.length co, .slice an W.on.length cn, .slice ap W.plan.length cp, .slice av W.given.length cv, .int .i64 W.now, .slice ae W.log.length ce] 33)))).trans (alloc_new w (.cells #[.string W.net.name, .slice ab W.net.buses.length cb, .slice al W.net.lines.length cl, .slice ag W.net.gens.length cg, .slice ad W.net.loads.length cd, .slice at' W.net.ties.length ct, .slice ao W.out.length co, .slice an W.on.length cn, .slice ap W.plan.length cp, .slice av W.given.length cv, .int .i64 W.now, .slice ae W.log.length ce] 33))
  have hqRz := alloc_new (w.alloc (.cells #[.string W.net.name, .slice ab W.net.buses.length cb, .slice al W.net.lines.length cl, .slice ag W.net.gens.length cg, .slice ad W.net.loads.length cd, .slice at' W.net.ties.length ct, .slice ao W.out.length co, .slice an W.on.length cn, .slice ap W.plan.length cp, .slice av W.given.length cv, .int .i64 W.now, .slice ae W.log.length ce] 33)) (.cells #[.string ⟨#[]⟩, .slice none 0 0, .slice none 0 0, .slice none 0 0, .slice none 0 0, .slice none 0 0, .slice none 0 0, .slice none 0 0, .slice none 0 0, .slice none 0 0, .int .i64 0, .slice none 0 0] 33)
  have hb1 := (below_al w (.cells #[.string W.net.name, .slice ab W.net.buses.length cb, .slice al W.net.lines.length cl, .slice ag W.net.gens.length cg, .slice ad W.net.loads.length cd, .slice at' W.net.ties.length ct, .slice ao W.out.length co, .slice an W.on.length cn, .slice ap W.plan.length cp, .slice av W.given.length cv, .int .i64 W.now, .slice ae W.log.length ce] 33)).alloc (below_al w (.cells #[.string W.net.name, .slice ab W.net.buses.length cb, .slice al W.net.lines.length cl, .slice ag W.net.gens.length cg, .slice ad W.net.loads.length cd, .slice at' W.net.ties.length ct, .slice ao W.out.length co, .slice an W.on.length cn, .slice ap W.plan.length cp, .slice av W.given.length cv, .int .i64 W.now, .slice ae W.log.length ce] 33)).size (.cells #[.string ⟨#[]⟩, .slice none 0 0, .slice none 0 0, .slice none 0 0, .slice none 0 0, .slice none 0 0, .slice none 0 0, .slice none 0 0, .slice none 0 0, .slice none 0 0, .int .i64 0, .slice none 0 0] 33)
  rw [show (w.alloc (.cells #[.string W.net.name, .slice ab W.net.buses.length cb, .slice al W.net.lines.length cl, .slice ag W.net.gens.length cg, .slice ad W.net.loads.length cd, .slice at' W.net.ties.length ct, .slice ao W.out.length co, .slice an W.on.length cn, .slice ap W.plan.length cp, .slice av W.given.length cv, .int .i64 W.now, .slice ae W.log.length ce] 33)).heap.size = w.heap.size + 1 from by simp only [World.size_alloc]] at hqRz
  obtain ⟨w1, hw1⟩ : ∃ x, x = ((w.alloc (.cells #[.string W.net.name, .slice ab W.net.buses.length cb, .slice al W.net.lines.length cl, .slice ag W.net.gens.length cg, .slice ad W.net.loads.length cd, .slice at' W.net.ties.length ct, .slice ao W.out.length co, .slice an W.on.length cn, .slice ap W.plan.length cp, .slice av W.given.length cv, .int .i64 W.now, .slice ae W.log.length ce] 33)).alloc (.cells #[.string ⟨#[]⟩, .slice none 0 0, .slice none 0 0, .slice none 0 0, .slice none 0 0, .slice none 0 0, .slice none 0 0, .slice none 0 0, .slice none 0 0, .slice none 0 0, .int .i64 0, .slice none 0 0] 33)) := ⟨_, rfl⟩
  rw [← hw1] at hqWb hqRz hb1 ⊢
  obtain ⟨Wb, hnWb⟩ : ∃ x, x = w.heap.size := ⟨_, rfl⟩
  obtain ⟨Rz, hnRz⟩ : ∃ x, x = w.heap.size + 1 := ⟨_, rfl⟩
  have HNE : Hid (w.heap.size ≤ Wb ∧ w.heap.size ≤ Rz ∧ Wb ≠ Rz) := ⟨by omega, by omega, by omega⟩
  rw [← hnWb] at hqWb
  rw [← hnRz] at hqRz
  rw [show (Value.pointer (some { block := w.heap.size, off := 0 })) = Value.pointer (some { block := Wb, off := 0 }) by rw [hnWb], show (Value.pointer (some { block := w.heap.size + 1, off := 0 })) = Value.pointer (some { block := Rz, off := 0 }) by rw [hnRz]]
  have HQWb := hide' hqWb
  have HQRz := hide' hqRz
  have HB1 := hide' hb1
  clear hqWb hqRz hb1 hw1 hnWb hnRz
  have g0 : w1.cell? ⟨Wb, 0, none⟩ = some (.string W.net.name) := (cells_at HQWb.out 0).trans rfl
  have g1 : w1.cell? ⟨Wb, 1, none⟩ = some (.slice ab W.net.buses.length cb) := (cells_at HQWb.out 1).trans rfl
  have g2 : w1.cell? ⟨Wb, 2, none⟩ = some (.slice al W.net.lines.length cl) := (cells_at HQWb.out 2).trans rfl
  have g3 : w1.cell? ⟨Wb, 3, none⟩ = some (.slice ag W.net.gens.length cg) := (cells_at HQWb.out 3).trans rfl
  have g4 : w1.cell? ⟨Wb, 4, none⟩ = some (.slice ad W.net.loads.length cd) := (cells_at HQWb.out 4).trans rfl
  have g5 : w1.cell? ⟨Wb, 5, none⟩ = some (.slice at' W.net.ties.length ct) := (cells_at HQWb.out 5).trans rfl
  go_upto_region 2 with fail
  obtain ⟨Nb, hNb⟩ : ∃ x, x = w1.heap.size := ⟨_, rfl⟩
  have hb2 := below_al w1 (.cells #[.string W.net.name, .slice ab W.net.buses.length cb, .slice al W.net.lines.length cl, .slice ag W.net.gens.length cg, .slice ad W.net.loads.length cd, .slice at' W.net.ties.length ct] 28)
  have hn2 := alloc_new w1 (.cells #[.string W.net.name, .slice ab W.net.buses.length cb, .slice al W.net.lines.length cl, .slice ag W.net.gens.length cg, .slice ad W.net.loads.length cd, .slice at' W.net.ties.length ct] 28)
  obtain ⟨y0, hw2⟩ : ∃ x, x = w1.alloc (.cells #[.string W.net.name, .slice ab W.net.buses.length cb, .slice al W.net.lines.length cl, .slice ag W.net.gens.length cg, .slice ad W.net.loads.length cd, .slice at' W.net.ties.length ct] 28) := ⟨_, rfl⟩
  rw [← hw2] at hb2 hn2 ⊢
  rw [← hNb] at hn2 ⊢
  have HF0 : Hid (OFW w y0 Wb Rz Nb #[.string W.net.name, .slice ab W.net.buses.length cb, .slice al W.net.lines.length cl, .slice ag W.net.gens.length cg, .slice ad W.net.loads.length cd, .slice at' W.net.ties.length ct, .slice ao W.out.length co, .slice an W.on.length cn, .slice ap W.plan.length cp, .slice av W.given.length cv, .int .i64 W.now, .slice ae W.log.length ce] #[.string W.net.name, .slice ab W.net.buses.length cb, .slice al W.net.lines.length cl, .slice ag W.net.gens.length cg, .slice ad W.net.loads.length cd, .slice at' W.net.ties.length ct]) := ⟨(hb2.block Wb (lt_heap HQWb.out)).trans HQWb.out, (hb2.block Rz (lt_heap HQRz.out)).trans HQRz.out, hn2, ⟨HNE.out.2.2, by have := lt_heap HQWb.out; omega, by have := lt_heap HQRz.out; omega⟩, ⟨HNE.out.1, HNE.out.2.1, by rw [hNb]; exact HB1.out.size⟩, HB1.out.trans (hb2.mono HB1.out.size)⟩
  have HK0 : Hid (∀ z, KeepN y0 z → True) := fun _ _ => trivial
  clear hb2 hn2 hw2 hNb HQWb HQRz HB1 g0 g1 g2 g3 g4 g5
  have c1 : y0.cell? ⟨Nb, 1, none⟩ = some (.slice ab W.net.buses.length cb) := (cells_at HF0.out.hN 1).trans rfl
  have HRR := hide' (HT.out.down HF0.out.bel)
  have hz1 : w.heap.size ≤ y0.heap.size := HF0.out.bel.size
  go_wp2_with (at_builtin; refine wpList_append_any _ rfl _ _ 22 rfl w.heap.size 9 i9 _ 1 16 Tryz.underlying22 hi9 h90 h91 h92 rfl (by decide) _ _ _ rfl (World.ownsRow_nil _ _ _ _) _ _ _ rfl HRR.out (texts_one W.net.buses) (by unfold maxLen; omega) (by omega) hz1 ?_; intro q1 v0 hown1 hgrow1; refine Still.go ?_)
  unfold Still
  have hg1 : y0.grownBy v0 none := hgrow1
  have ho1 : v0.ownsRow w.heap.size 9 1 q1 (W.net.buses.length) (W.net.buses.map Value.string) := by have h := hown1; rw [Nat.zero_add, List.nil_append] at h; exact h
  obtain ⟨xb, zb, rfl⟩ := own_slice ho1
  have hb1 : Below y0.heap.size y0 v0 := (Below.refl _ y0).grown hg1 (Nat.le_refl _) (fun k e => by cases e)
  have HFx := hide' (HF0.out.more hb1)
  have c2 : v0.cell? ⟨Nb, 1, none⟩ = some (.slice ab W.net.buses.length cb) := (cells_at HFx.out.hN 1).trans rfl
  have f2 : v0.frozen? ⟨Nb, 1, none⟩ = false := frozen_no HFx.out.hN _
  have HKx : Hid (∀ z, KeepN v0 z → (True) ∧ z.ownsRow w.heap.size 9 1 (.slice xb W.net.buses.length zb) (W.net.buses.length) (W.net.buses.map Value.string)) := fun z hz => ⟨HK0.out z ((KeepN.below hb1).trans hz), own_keepN ho1 hz (by decide) (by decide)⟩
  clear hown1 hgrow1 hg1 ho1 hb1 c1 HRR hz1 HF0 HK0
  go_upto_region 3 with fail
  have HF1 : Hid (OFW w (v0.setCell ⟨Nb, 1, none⟩ (.slice xb W.net.buses.length zb)) Wb Rz Nb #[.string W.net.name, .slice ab W.net.buses.length cb, .slice al W.net.lines.length cl, .slice ag W.net.gens.length cg, .slice ad W.net.loads.length cd, .slice at' W.net.ties.length ct, .slice ao W.out.length co, .slice an W.on.length cn, .slice ap W.plan.length cp, .slice av W.given.length cv, .int .i64 W.now, .slice ae W.log.length ce] #[.string W.net.name, .slice xb W.net.buses.length zb, .slice al W.net.lines.length cl, .slice ag W.net.gens.length cg, .slice ad W.net.loads.length cd, .slice at' W.net.ties.length ct]) := (HFx.out.setN 1 _).copied rfl rfl
  have HK1 : Hid (∀ z, KeepN (v0.setCell ⟨Nb, 1, none⟩ (.slice xb W.net.buses.length zb)) z → (True) ∧ z.ownsRow w.heap.size 9 1 (.slice xb W.net.buses.length zb) (W.net.buses.length) (W.net.buses.map Value.string)) := fun z hz => HKx.out z ((KeepN.set HFx.out.hN (.inl rfl) _ _).trans hz)
  obtain ⟨y1, hyn⟩ : ∃ x, x = v0.setCell ⟨Nb, 1, none⟩ (.slice xb W.net.buses.length zb) := ⟨_, rfl⟩
  rw [← hyn] at HF1 HK1 ⊢
  clear hyn HFx HKx c2 f2
  have c1 : y1.cell? ⟨Nb, 2, none⟩ = some (.slice al W.net.lines.length cl) := (cells_at HF1.out.hN 2).trans rfl
  have HRR := hide' (HL.out.down HF1.out.bel)
  have hz1 : w.heap.size ≤ y1.heap.size := HF1.out.bel.size
  go_wp2_with (at_builtin; refine wpList_append_any _ rfl _ _ 23 rfl w.heap.size 54 i54 _ 5 48 Tryz.underlying23 hi54 h540 h541 h542 rfl (by decide) _ _ _ rfl (World.ownsRow_nil _ _ _ _) _ _ _ rfl HRR.out (lines_one W.net.lines) (by unfold maxLen; omega) (by omega) hz1 ?_; intro q1 v1 hown1 hgrow1; refine Still.go ?_)
  unfold Still
  have hg1 : y1.grownBy v1 none := hgrow1
  have ho1 : v1.ownsRow w.heap.size 54 5 q1 (W.net.lines.length) (W.net.lines.flatMap LineM.cells) := by have h := hown1; rw [Nat.zero_add, List.nil_append] at h; exact h
  obtain ⟨xl, zl, rfl⟩ := own_slice ho1
  have hb1 : Below y1.heap.size y1 v1 := (Below.refl _ y1).grown hg1 (Nat.le_refl _) (fun k e => by cases e)
  have HFx := hide' (HF1.out.more hb1)
  have c2 : v1.cell? ⟨Nb, 2, none⟩ = some (.slice al W.net.lines.length cl) := (cells_at HFx.out.hN 2).trans rfl
  have f2 : v1.frozen? ⟨Nb, 2, none⟩ = false := frozen_no HFx.out.hN _
  have HKx : Hid (∀ z, KeepN v1 z → ((True) ∧ z.ownsRow w.heap.size 9 1 (.slice xb W.net.buses.length zb) (W.net.buses.length) (W.net.buses.map Value.string)) ∧ z.ownsRow w.heap.size 54 5 (.slice xl W.net.lines.length zl) (W.net.lines.length) (W.net.lines.flatMap LineM.cells)) := fun z hz => ⟨HK1.out z ((KeepN.below hb1).trans hz), own_keepN ho1 hz (by decide) (by decide)⟩
  clear hown1 hgrow1 hg1 ho1 hb1 c1 HRR hz1 HF1 HK1
  go_upto_region 4 with fail
  have HF2 : Hid (OFW w (v1.setCell ⟨Nb, 2, none⟩ (.slice xl W.net.lines.length zl)) Wb Rz Nb #[.string W.net.name, .slice ab W.net.buses.length cb, .slice al W.net.lines.length cl, .slice ag W.net.gens.length cg, .slice ad W.net.loads.length cd, .slice at' W.net.ties.length ct, .slice ao W.out.length co, .slice an W.on.length cn, .slice ap W.plan.length cp, .slice av W.given.length cv, .int .i64 W.now, .slice ae W.log.length ce] #[.string W.net.name, .slice xb W.net.buses.length zb, .slice xl W.net.lines.length zl, .slice ag W.net.gens.length cg, .slice ad W.net.loads.length cd, .slice at' W.net.ties.length ct]) := (HFx.out.setN 2 _).copied rfl rfl
  have HK2 : Hid (∀ z, KeepN (v1.setCell ⟨Nb, 2, none⟩ (.slice xl W.net.lines.length zl)) z → ((True) ∧ z.ownsRow w.heap.size 9 1 (.slice xb W.net.buses.length zb) (W.net.buses.length) (W.net.buses.map Value.string)) ∧ z.ownsRow w.heap.size 54 5 (.slice xl W.net.lines.length zl) (W.net.lines.length) (W.net.lines.flatMap LineM.cells)) := fun z hz => HKx.out z ((KeepN.set HFx.out.hN (.inl rfl) _ _).trans hz)
  obtain ⟨y2, hyn⟩ : ∃ x, x = v1.setCell ⟨Nb, 2, none⟩ (.slice xl W.net.lines.length zl) := ⟨_, rfl⟩
  rw [← hyn] at HF2 HK2 ⊢
  clear hyn HFx HKx c2 f2
  have c1 : y2.cell? ⟨Nb, 3, none⟩ = some (.slice ag W.net.gens.length cg) := (cells_at HF2.out.hN 3).trans rfl
  have HRR := hide' (HG.out.down HF2.out.bel)
  have hz1 : w.heap.size ≤ y2.heap.size := HF2.out.bel.size
  go_wp2_with (at_builtin; refine wpList_append_any _ rfl _ _ 24 rfl w.heap.size 46 i46 _ 5 48 Tryz.underlying24 hi46 h460 h461 h462 rfl (by decide) _ _ _ rfl (World.ownsRow_nil _ _ _ _) _ _ _ rfl HRR.out (gens_one W.net.gens) (by unfold maxLen; omega) (by omega) hz1 ?_; intro q1 v2 hown1 hgrow1; refine Still.go ?_)
  unfold Still
  have hg1 : y2.grownBy v2 none := hgrow1
  have ho1 : v2.ownsRow w.heap.size 46 5 q1 (W.net.gens.length) (W.net.gens.flatMap GenM.cells) := by have h := hown1; rw [Nat.zero_add, List.nil_append] at h; exact h
  obtain ⟨xg, zg, rfl⟩ := own_slice ho1
  have hb1 : Below y2.heap.size y2 v2 := (Below.refl _ y2).grown hg1 (Nat.le_refl _) (fun k e => by cases e)
  have HFx := hide' (HF2.out.more hb1)
  have c2 : v2.cell? ⟨Nb, 3, none⟩ = some (.slice ag W.net.gens.length cg) := (cells_at HFx.out.hN 3).trans rfl
  have f2 : v2.frozen? ⟨Nb, 3, none⟩ = false := frozen_no HFx.out.hN _
  have HKx : Hid (∀ z, KeepN v2 z → (((True) ∧ z.ownsRow w.heap.size 9 1 (.slice xb W.net.buses.length zb) (W.net.buses.length) (W.net.buses.map Value.string)) ∧ z.ownsRow w.heap.size 54 5 (.slice xl W.net.lines.length zl) (W.net.lines.length) (W.net.lines.flatMap LineM.cells)) ∧ z.ownsRow w.heap.size 46 5 (.slice xg W.net.gens.length zg) (W.net.gens.length) (W.net.gens.flatMap GenM.cells)) := fun z hz => ⟨HK2.out z ((KeepN.below hb1).trans hz), own_keepN ho1 hz (by decide) (by decide)⟩
  clear hown1 hgrow1 hg1 ho1 hb1 c1 HRR hz1 HF2 HK2
  go_upto_region 5 with fail
  have HF3 : Hid (OFW w (v2.setCell ⟨Nb, 3, none⟩ (.slice xg W.net.gens.length zg)) Wb Rz Nb #[.string W.net.name, .slice ab W.net.buses.length cb, .slice al W.net.lines.length cl, .slice ag W.net.gens.length cg, .slice ad W.net.loads.length cd, .slice at' W.net.ties.length ct, .slice ao W.out.length co, .slice an W.on.length cn, .slice ap W.plan.length cp, .slice av W.given.length cv, .int .i64 W.now, .slice ae W.log.length ce] #[.string W.net.name, .slice xb W.net.buses.length zb, .slice xl W.net.lines.length zl, .slice xg W.net.gens.length zg, .slice ad W.net.loads.length cd, .slice at' W.net.ties.length ct]) := (HFx.out.setN 3 _).copied rfl rfl
  have HK3 : Hid (∀ z, KeepN (v2.setCell ⟨Nb, 3, none⟩ (.slice xg W.net.gens.length zg)) z → (((True) ∧ z.ownsRow w.heap.size 9 1 (.slice xb W.net.buses.length zb) (W.net.buses.length) (W.net.buses.map Value.string)) ∧ z.ownsRow w.heap.size 54 5 (.slice xl W.net.lines.length zl) (W.net.lines.length) (W.net.lines.flatMap LineM.cells)) ∧ z.ownsRow w.heap.size 46 5 (.slice xg W.net.gens.length zg) (W.net.gens.length) (W.net.gens.flatMap GenM.cells)) := fun z hz => HKx.out z ((KeepN.set HFx.out.hN (.inl rfl) _ _).trans hz)
  obtain ⟨y3, hyn⟩ : ∃ x, x = v2.setCell ⟨Nb, 3, none⟩ (.slice xg W.net.gens.length zg) := ⟨_, rfl⟩
  rw [← hyn] at HF3 HK3 ⊢
  clear hyn HFx HKx c2 f2
  have c1 : y3.cell? ⟨Nb, 4, none⟩ = some (.slice ad W.net.loads.length cd) := (cells_at HF3.out.hN 4).trans rfl
  have HRR := hide' (HD.out.down HF3.out.bel)
  have hz1 : w.heap.size ≤ y3.heap.size := HF3.out.bel.size
  go_wp2_with (at_builtin; refine wpList_append_any _ rfl _ _ 25 rfl w.heap.size 51 i51 _ 3 32 Tryz.underlying25 hi51 h510 h511 h512 rfl (by decide) _ _ _ rfl (World.ownsRow_nil _ _ _ _) _ _ _ rfl HRR.out (loads_one W.net.loads) (by unfold maxLen; omega) (by omega) hz1 ?_; intro q1 v3 hown1 hgrow1; refine Still.go ?_)
  unfold Still
  have hg1 : y3.grownBy v3 none := hgrow1
  have ho1 : v3.ownsRow w.heap.size 51 3 q1 (W.net.loads.length) (W.net.loads.flatMap LoadM.cells) := by have h := hown1; rw [Nat.zero_add, List.nil_append] at h; exact h
  obtain ⟨xd, zd, rfl⟩ := own_slice ho1
  have hb1 : Below y3.heap.size y3 v3 := (Below.refl _ y3).grown hg1 (Nat.le_refl _) (fun k e => by cases e)
  have HFx := hide' (HF3.out.more hb1)
  have c2 : v3.cell? ⟨Nb, 4, none⟩ = some (.slice ad W.net.loads.length cd) := (cells_at HFx.out.hN 4).trans rfl
  have f2 : v3.frozen? ⟨Nb, 4, none⟩ = false := frozen_no HFx.out.hN _
  have HKx : Hid (∀ z, KeepN v3 z → ((((True) ∧ z.ownsRow w.heap.size 9 1 (.slice xb W.net.buses.length zb) (W.net.buses.length) (W.net.buses.map Value.string)) ∧ z.ownsRow w.heap.size 54 5 (.slice xl W.net.lines.length zl) (W.net.lines.length) (W.net.lines.flatMap LineM.cells)) ∧ z.ownsRow w.heap.size 46 5 (.slice xg W.net.gens.length zg) (W.net.gens.length) (W.net.gens.flatMap GenM.cells)) ∧ z.ownsRow w.heap.size 51 3 (.slice xd W.net.loads.length zd) (W.net.loads.length) (W.net.loads.flatMap LoadM.cells)) := fun z hz => ⟨HK3.out z ((KeepN.below hb1).trans hz), own_keepN ho1 hz (by decide) (by decide)⟩
  clear hown1 hgrow1 hg1 ho1 hb1 c1 HRR hz1 HF3 HK3
  go_upto_region 6 with fail
  have HF4 : Hid (OFW w (v3.setCell ⟨Nb, 4, none⟩ (.slice xd W.net.loads.length zd)) Wb Rz Nb #[.string W.net.name, .slice ab W.net.buses.length cb, .slice al W.net.lines.length cl, .slice ag W.net.gens.length cg, .slice ad W.net.loads.length cd, .slice at' W.net.ties.length ct, .slice ao W.out.length co, .slice an W.on.length cn, .slice ap W.plan.length cp, .slice av W.given.length cv, .int .i64 W.now, .slice ae W.log.length ce] #[.string W.net.name, .slice xb W.net.buses.length zb, .slice xl W.net.lines.length zl, .slice xg W.net.gens.length zg, .slice xd W.net.loads.length zd, .slice at' W.net.ties.length ct]) := (HFx.out.setN 4 _).copied rfl rfl
  have HK4 : Hid (∀ z, KeepN (v3.setCell ⟨Nb, 4, none⟩ (.slice xd W.net.loads.length zd)) z → ((((True) ∧ z.ownsRow w.heap.size 9 1 (.slice xb W.net.buses.length zb) (W.net.buses.length) (W.net.buses.map Value.string)) ∧ z.ownsRow w.heap.size 54 5 (.slice xl W.net.lines.length zl) (W.net.lines.length) (W.net.lines.flatMap LineM.cells)) ∧ z.ownsRow w.heap.size 46 5 (.slice xg W.net.gens.length zg) (W.net.gens.length) (W.net.gens.flatMap GenM.cells)) ∧ z.ownsRow w.heap.size 51 3 (.slice xd W.net.loads.length zd) (W.net.loads.length) (W.net.loads.flatMap LoadM.cells)) := fun z hz => HKx.out z ((KeepN.set HFx.out.hN (.inl rfl) _ _).trans hz)
  obtain ⟨y4, hyn⟩ : ∃ x, x = v3.setCell ⟨Nb, 4, none⟩ (.slice xd W.net.loads.length zd) := ⟨_, rfl⟩
  rw [← hyn] at HF4 HK4 ⊢
  clear hyn HFx HKx c2 f2
  have c1 : y4.cell? ⟨Nb, 5, none⟩ = some (.slice at' W.net.ties.length ct) := (cells_at HF4.out.hN 5).trans rfl
  have HRR := hide' (HTI.out.down HF4.out.bel)
  have hz1 : w.heap.size ≤ y4.heap.size := HF4.out.bel.size
  go_wp2_with (at_builtin; refine wpList_append_any _ rfl _ _ 26 rfl w.heap.size 56 i56 _ 4 40 Tryz.underlying26 hi56 h560 h561 h562 rfl (by decide) _ _ _ rfl (World.ownsRow_nil _ _ _ _) _ _ _ rfl HRR.out (ties_one W.net.ties) (by unfold maxLen; omega) (by omega) hz1 ?_; intro q1 v4 hown1 hgrow1; refine Still.go ?_)
  unfold Still
  have hg1 : y4.grownBy v4 none := hgrow1
  have ho1 : v4.ownsRow w.heap.size 56 4 q1 (W.net.ties.length) (W.net.ties.flatMap TieM.cells) := by have h := hown1; rw [Nat.zero_add, List.nil_append] at h; exact h
  obtain ⟨xt, zt, rfl⟩ := own_slice ho1
  have hb1 : Below y4.heap.size y4 v4 := (Below.refl _ y4).grown hg1 (Nat.le_refl _) (fun k e => by cases e)
  have HFx := hide' (HF4.out.more hb1)
  have c2 : v4.cell? ⟨Nb, 5, none⟩ = some (.slice at' W.net.ties.length ct) := (cells_at HFx.out.hN 5).trans rfl
  have f2 : v4.frozen? ⟨Nb, 5, none⟩ = false := frozen_no HFx.out.hN _
  have HKx : Hid (∀ z, KeepN v4 z → (((((True) ∧ z.ownsRow w.heap.size 9 1 (.slice xb W.net.buses.length zb) (W.net.buses.length) (W.net.buses.map Value.string)) ∧ z.ownsRow w.heap.size 54 5 (.slice xl W.net.lines.length zl) (W.net.lines.length) (W.net.lines.flatMap LineM.cells)) ∧ z.ownsRow w.heap.size 46 5 (.slice xg W.net.gens.length zg) (W.net.gens.length) (W.net.gens.flatMap GenM.cells)) ∧ z.ownsRow w.heap.size 51 3 (.slice xd W.net.loads.length zd) (W.net.loads.length) (W.net.loads.flatMap LoadM.cells)) ∧ z.ownsRow w.heap.size 56 4 (.slice xt W.net.ties.length zt) (W.net.ties.length) (W.net.ties.flatMap TieM.cells)) := fun z hz => ⟨HK4.out z ((KeepN.below hb1).trans hz), own_keepN ho1 hz (by decide) (by decide)⟩
  clear hown1 hgrow1 hg1 ho1 hb1 c1 HRR hz1 HF4 HK4
  go_upto_region 7 with fail
  have HF5 : Hid (OFW w (v4.setCell ⟨Nb, 5, none⟩ (.slice xt W.net.ties.length zt)) Wb Rz Nb #[.string W.net.name, .slice ab W.net.buses.length cb, .slice al W.net.lines.length cl, .slice ag W.net.gens.length cg, .slice ad W.net.loads.length cd, .slice at' W.net.ties.length ct, .slice ao W.out.length co, .slice an W.on.length cn, .slice ap W.plan.length cp, .slice av W.given.length cv, .int .i64 W.now, .slice ae W.log.length ce] #[.string W.net.name, .slice xb W.net.buses.length zb, .slice xl W.net.lines.length zl, .slice xg W.net.gens.length zg, .slice xd W.net.loads.length zd, .slice xt W.net.ties.length zt]) := (HFx.out.setN 5 _).copied rfl rfl
  have HK5 : Hid (∀ z, KeepN (v4.setCell ⟨Nb, 5, none⟩ (.slice xt W.net.ties.length zt)) z → (((((True) ∧ z.ownsRow w.heap.size 9 1 (.slice xb W.net.buses.length zb) (W.net.buses.length) (W.net.buses.map Value.string)) ∧ z.ownsRow w.heap.size 54 5 (.slice xl W.net.lines.length zl) (W.net.lines.length) (W.net.lines.flatMap LineM.cells)) ∧ z.ownsRow w.heap.size 46 5 (.slice xg W.net.gens.length zg) (W.net.gens.length) (W.net.gens.flatMap GenM.cells)) ∧ z.ownsRow w.heap.size 51 3 (.slice xd W.net.loads.length zd) (W.net.loads.length) (W.net.loads.flatMap LoadM.cells)) ∧ z.ownsRow w.heap.size 56 4 (.slice xt W.net.ties.length zt) (W.net.ties.length) (W.net.ties.flatMap TieM.cells)) := fun z hz => HKx.out z ((KeepN.set HFx.out.hN (.inl rfl) _ _).trans hz)
  obtain ⟨y5, hyn⟩ : ∃ x, x = v4.setCell ⟨Nb, 5, none⟩ (.slice xt W.net.ties.length zt) := ⟨_, rfl⟩
  rw [← hyn] at HF5 HK5 ⊢
  clear hyn HFx HKx c2 f2
  have g0 : y5.cell? ⟨Wb, 0, none⟩ = some (.string W.net.name) := (cells_at HF5.out.hW 0).trans rfl
  have g1 : y5.cell? ⟨Wb, 1, none⟩ = some (.slice ab W.net.buses.length cb) := (cells_at HF5.out.hW 1).trans rfl
  have g2 : y5.cell? ⟨Wb, 2, none⟩ = some (.slice al W.net.lines.length cl) := (cells_at HF5.out.hW 2).trans rfl
  have g3 : y5.cell? ⟨Wb, 3, none⟩ = some (.slice ag W.net.gens.length cg) := (cells_at HF5.out.hW 3).trans rfl
  have g4 : y5.cell? ⟨Wb, 4, none⟩ = some (.slice ad W.net.loads.length cd) := (cells_at HF5.out.hW 4).trans rfl
  have g5 : y5.cell? ⟨Wb, 5, none⟩ = some (.slice at' W.net.ties.length ct) := (cells_at HF5.out.hW 5).trans rfl
  have f0 : y5.frozen? ⟨Wb, 0, none⟩ = false := frozen_no HF5.out.hW _
  have f1 : y5.frozen? ⟨Wb, 1, none⟩ = false := frozen_no HF5.out.hW _
  have f2 : y5.frozen? ⟨Wb, 2, none⟩ = false := frozen_no HF5.out.hW _
  have f3 : y5.frozen? ⟨Wb, 3, none⟩ = false := frozen_no HF5.out.hW _
  have f4 : y5.frozen? ⟨Wb, 4, none⟩ = false := frozen_no HF5.out.hW _
  have f5 : y5.frozen? ⟨Wb, 5, none⟩ = false := frozen_no HF5.out.hW _
  have n0 : y5.cell? ⟨Nb, 0, none⟩ = some (.string W.net.name) := (cells_at HF5.out.hN 0).trans rfl
  have n1 : y5.cell? ⟨Nb, 1, none⟩ = some (.slice xb W.net.buses.length zb) := (cells_at HF5.out.hN 1).trans rfl
  have n2 : y5.cell? ⟨Nb, 2, none⟩ = some (.slice xl W.net.lines.length zl) := (cells_at HF5.out.hN 2).trans rfl
  have n3 : y5.cell? ⟨Nb, 3, none⟩ = some (.slice xg W.net.gens.length zg) := (cells_at HF5.out.hN 3).trans rfl
  have n4 : y5.cell? ⟨Nb, 4, none⟩ = some (.slice xd W.net.loads.length zd) := (cells_at HF5.out.hN 4).trans rfl
  have n5 : y5.cell? ⟨Nb, 5, none⟩ = some (.slice xt W.net.ties.length zt) := (cells_at HF5.out.hN 5).trans rfl
  go_upto_region 8 with fail
  have HG5 : Hid (OFW w ((((((y5.setCell ⟨Wb, 0, none⟩ (.string W.net.name)).setCell ⟨Wb, 1, none⟩ (.slice xb W.net.buses.length zb)).setCell ⟨Wb, 2, none⟩ (.slice xl W.net.lines.length zl)).setCell ⟨Wb, 3, none⟩ (.slice xg W.net.gens.length zg)).setCell ⟨Wb, 4, none⟩ (.slice xd W.net.loads.length zd)).setCell ⟨Wb, 5, none⟩ (.slice xt W.net.ties.length zt)) Wb Rz Nb #[.string W.net.name, .slice xb W.net.buses.length zb, .slice xl W.net.lines.length zl, .slice xg W.net.gens.length zg, .slice xd W.net.loads.length zd, .slice xt W.net.ties.length zt, .slice ao W.out.length co, .slice an W.on.length cn, .slice ap W.plan.length cp, .slice av W.given.length cv, .int .i64 W.now, .slice ae W.log.length ce] #[.string W.net.name, .slice xb W.net.buses.length zb, .slice xl W.net.lines.length zl, .slice xg W.net.gens.length zg, .slice xd W.net.loads.length zd, .slice xt W.net.ties.length zt]) := ((((((HF5.out.setW 0 _).setW 1 _).setW 2 _).setW 3 _).setW 4 _).setW 5 _).copied rfl rfl
  have HJ5 : Hid (∀ z, KeepN ((((((y5.setCell ⟨Wb, 0, none⟩ (.string W.net.name)).setCell ⟨Wb, 1, none⟩ (.slice xb W.net.buses.length zb)).setCell ⟨Wb, 2, none⟩ (.slice xl W.net.lines.length zl)).setCell ⟨Wb, 3, none⟩ (.slice xg W.net.gens.length zg)).setCell ⟨Wb, 4, none⟩ (.slice xd W.net.loads.length zd)).setCell ⟨Wb, 5, none⟩ (.slice xt W.net.ties.length zt)) z → (((((True) ∧ z.ownsRow w.heap.size 9 1 (.slice xb W.net.buses.length zb) (W.net.buses.length) (W.net.buses.map Value.string)) ∧ z.ownsRow w.heap.size 54 5 (.slice xl W.net.lines.length zl) (W.net.lines.length) (W.net.lines.flatMap LineM.cells)) ∧ z.ownsRow w.heap.size 46 5 (.slice xg W.net.gens.length zg) (W.net.gens.length) (W.net.gens.flatMap GenM.cells)) ∧ z.ownsRow w.heap.size 51 3 (.slice xd W.net.loads.length zd) (W.net.loads.length) (W.net.loads.flatMap LoadM.cells)) ∧ z.ownsRow w.heap.size 56 4 (.slice xt W.net.ties.length zt) (W.net.ties.length) (W.net.ties.flatMap TieM.cells)) := fun z hz => HK5.out z (((((((KeepN.set (HF5.out).hW (.inr rfl) _ _).trans (KeepN.set ((HF5.out.setW 0 _)).hW (.inr rfl) _ _)).trans (KeepN.set (((HF5.out.setW 0 _).setW 1 _)).hW (.inr rfl) _ _)).trans (KeepN.set ((((HF5.out.setW 0 _).setW 1 _).setW 2 _)).hW (.inr rfl) _ _)).trans (KeepN.set (((((HF5.out.setW 0 _).setW 1 _).setW 2 _).setW 3 _)).hW (.inr rfl) _ _)).trans (KeepN.set ((((((HF5.out.setW 0 _).setW 1 _).setW 2 _).setW 3 _).setW 4 _)).hW (.inr rfl) _ _)).trans hz)
  obtain ⟨y5b, hyn⟩ : ∃ x, x = ((((((y5.setCell ⟨Wb, 0, none⟩ (.string W.net.name)).setCell ⟨Wb, 1, none⟩ (.slice xb W.net.buses.length zb)).setCell ⟨Wb, 2, none⟩ (.slice xl W.net.lines.length zl)).setCell ⟨Wb, 3, none⟩ (.slice xg W.net.gens.length zg)).setCell ⟨Wb, 4, none⟩ (.slice xd W.net.loads.length zd)).setCell ⟨Wb, 5, none⟩ (.slice xt W.net.ties.length zt)) := ⟨_, rfl⟩
  rw [← hyn] at HG5 HJ5 ⊢
  clear hyn HF5 HK5 g0 f0 n0 g1 f1 n1 g2 f2 n2 g3 f3 n3 g4 f4 n4 g5 f5 n5
  obtain ⟨y5, hy5⟩ : ∃ x, x = y5b := ⟨_, rfl⟩
  rw [← hy5] at HG5 HJ5 ⊢
  clear hy5
  have HF5 := HG5
  have HK5 := HJ5
  clear HG5 HJ5
  have c1 : y5.cell? ⟨Wb, 6, none⟩ = some (.slice ao W.out.length co) := (cells_at HF5.out.hW 6).trans rfl
  have HRR := hide' (HO.out.down HF5.out.bel)
  have hz1 : w.heap.size ≤ y5.heap.size := HF5.out.bel.size
  go_wp2_with (at_builtin; refine wpList_append_any _ rfl _ _ 29 rfl w.heap.size 4 i4 _ 1 1 Tryz.underlying29 hi4 h40 h41 h42 rfl (by decide) _ _ _ rfl (World.ownsRow_nil _ _ _ _) _ _ _ rfl HRR.out (bools_one W.out) (by unfold maxLen; omega) (by omega) hz1 ?_; intro q1 v5 hown1 hgrow1; refine Still.go ?_)
  unfold Still
  have hg1 : y5.grownBy v5 none := hgrow1
  have ho1 : v5.ownsRow w.heap.size 4 1 q1 (W.out.length) (W.out.map Value.bool) := by have h := hown1; rw [Nat.zero_add, List.nil_append] at h; exact h
  obtain ⟨xo, zo, rfl⟩ := own_slice ho1
  have hb1 : Below y5.heap.size y5 v5 := (Below.refl _ y5).grown hg1 (Nat.le_refl _) (fun k e => by cases e)
  have HFx := hide' (HF5.out.more hb1)
  have c2 : v5.cell? ⟨Wb, 6, none⟩ = some (.slice ao W.out.length co) := (cells_at HFx.out.hW 6).trans rfl
  have f2 : v5.frozen? ⟨Wb, 6, none⟩ = false := frozen_no HFx.out.hW _
  have HKx : Hid (∀ z, KeepN v5 z → ((((((True) ∧ z.ownsRow w.heap.size 9 1 (.slice xb W.net.buses.length zb) (W.net.buses.length) (W.net.buses.map Value.string)) ∧ z.ownsRow w.heap.size 54 5 (.slice xl W.net.lines.length zl) (W.net.lines.length) (W.net.lines.flatMap LineM.cells)) ∧ z.ownsRow w.heap.size 46 5 (.slice xg W.net.gens.length zg) (W.net.gens.length) (W.net.gens.flatMap GenM.cells)) ∧ z.ownsRow w.heap.size 51 3 (.slice xd W.net.loads.length zd) (W.net.loads.length) (W.net.loads.flatMap LoadM.cells)) ∧ z.ownsRow w.heap.size 56 4 (.slice xt W.net.ties.length zt) (W.net.ties.length) (W.net.ties.flatMap TieM.cells)) ∧ z.ownsRow w.heap.size 4 1 (.slice xo W.out.length zo) (W.out.length) (W.out.map Value.bool)) := fun z hz => ⟨HK5.out z ((KeepN.below hb1).trans hz), own_keepN ho1 hz (by decide) (by decide)⟩
  clear hown1 hgrow1 hg1 ho1 hb1 c1 HRR hz1 HF5 HK5
  go_upto_region 9 with fail
  have HF6 : Hid (OFW w (v5.setCell ⟨Wb, 6, none⟩ (.slice xo W.out.length zo)) Wb Rz Nb #[.string W.net.name, .slice xb W.net.buses.length zb, .slice xl W.net.lines.length zl, .slice xg W.net.gens.length zg, .slice xd W.net.loads.length zd, .slice xt W.net.ties.length zt, .slice xo W.out.length zo, .slice an W.on.length cn, .slice ap W.plan.length cp, .slice av W.given.length cv, .int .i64 W.now, .slice ae W.log.length ce] #[.string W.net.name, .slice xb W.net.buses.length zb, .slice xl W.net.lines.length zl, .slice xg W.net.gens.length zg, .slice xd W.net.loads.length zd, .slice xt W.net.ties.length zt]) := (HFx.out.setW 6 _).copied rfl rfl
  have HK6 : Hid (∀ z, KeepN (v5.setCell ⟨Wb, 6, none⟩ (.slice xo W.out.length zo)) z → ((((((True) ∧ z.ownsRow w.heap.size 9 1 (.slice xb W.net.buses.length zb) (W.net.buses.length) (W.net.buses.map Value.string)) ∧ z.ownsRow w.heap.size 54 5 (.slice xl W.net.lines.length zl) (W.net.lines.length) (W.net.lines.flatMap LineM.cells)) ∧ z.ownsRow w.heap.size 46 5 (.slice xg W.net.gens.length zg) (W.net.gens.length) (W.net.gens.flatMap GenM.cells)) ∧ z.ownsRow w.heap.size 51 3 (.slice xd W.net.loads.length zd) (W.net.loads.length) (W.net.loads.flatMap LoadM.cells)) ∧ z.ownsRow w.heap.size 56 4 (.slice xt W.net.ties.length zt) (W.net.ties.length) (W.net.ties.flatMap TieM.cells)) ∧ z.ownsRow w.heap.size 4 1 (.slice xo W.out.length zo) (W.out.length) (W.out.map Value.bool)) := fun z hz => HKx.out z ((KeepN.set HFx.out.hW (.inr rfl) _ _).trans hz)
  obtain ⟨y6, hyn⟩ : ∃ x, x = v5.setCell ⟨Wb, 6, none⟩ (.slice xo W.out.length zo) := ⟨_, rfl⟩
  rw [← hyn] at HF6 HK6 ⊢
  clear hyn HFx HKx c2 f2
  have c1 : y6.cell? ⟨Wb, 7, none⟩ = some (.slice an W.on.length cn) := (cells_at HF6.out.hW 7).trans rfl
  have HRR := hide' (HN.out.down HF6.out.bel)
  have hz1 : w.heap.size ≤ y6.heap.size := HF6.out.bel.size
  go_wp2_with (at_builtin; refine wpList_append_any _ rfl _ _ 29 rfl w.heap.size 4 i4 _ 1 1 Tryz.underlying29 hi4 h40 h41 h42 rfl (by decide) _ _ _ rfl (World.ownsRow_nil _ _ _ _) _ _ _ rfl HRR.out (bools_one W.on) (by unfold maxLen; omega) (by omega) hz1 ?_; intro q1 v6 hown1 hgrow1; refine Still.go ?_)
  unfold Still
  have hg1 : y6.grownBy v6 none := hgrow1
  have ho1 : v6.ownsRow w.heap.size 4 1 q1 (W.on.length) (W.on.map Value.bool) := by have h := hown1; rw [Nat.zero_add, List.nil_append] at h; exact h
  obtain ⟨xn, zn, rfl⟩ := own_slice ho1
  have hb1 : Below y6.heap.size y6 v6 := (Below.refl _ y6).grown hg1 (Nat.le_refl _) (fun k e => by cases e)
  have HFx := hide' (HF6.out.more hb1)
  have c2 : v6.cell? ⟨Wb, 7, none⟩ = some (.slice an W.on.length cn) := (cells_at HFx.out.hW 7).trans rfl
  have f2 : v6.frozen? ⟨Wb, 7, none⟩ = false := frozen_no HFx.out.hW _
  have HKx : Hid (∀ z, KeepN v6 z → (((((((True) ∧ z.ownsRow w.heap.size 9 1 (.slice xb W.net.buses.length zb) (W.net.buses.length) (W.net.buses.map Value.string)) ∧ z.ownsRow w.heap.size 54 5 (.slice xl W.net.lines.length zl) (W.net.lines.length) (W.net.lines.flatMap LineM.cells)) ∧ z.ownsRow w.heap.size 46 5 (.slice xg W.net.gens.length zg) (W.net.gens.length) (W.net.gens.flatMap GenM.cells)) ∧ z.ownsRow w.heap.size 51 3 (.slice xd W.net.loads.length zd) (W.net.loads.length) (W.net.loads.flatMap LoadM.cells)) ∧ z.ownsRow w.heap.size 56 4 (.slice xt W.net.ties.length zt) (W.net.ties.length) (W.net.ties.flatMap TieM.cells)) ∧ z.ownsRow w.heap.size 4 1 (.slice xo W.out.length zo) (W.out.length) (W.out.map Value.bool)) ∧ z.ownsRow w.heap.size 4 1 (.slice xn W.on.length zn) (W.on.length) (W.on.map Value.bool)) := fun z hz => ⟨HK6.out z ((KeepN.below hb1).trans hz), own_keepN ho1 hz (by decide) (by decide)⟩
  clear hown1 hgrow1 hg1 ho1 hb1 c1 HRR hz1 HF6 HK6
  go_upto_region 10 with fail
  have HF7 : Hid (OFW w (v6.setCell ⟨Wb, 7, none⟩ (.slice xn W.on.length zn)) Wb Rz Nb #[.string W.net.name, .slice xb W.net.buses.length zb, .slice xl W.net.lines.length zl, .slice xg W.net.gens.length zg, .slice xd W.net.loads.length zd, .slice xt W.net.ties.length zt, .slice xo W.out.length zo, .slice xn W.on.length zn, .slice ap W.plan.length cp, .slice av W.given.length cv, .int .i64 W.now, .slice ae W.log.length ce] #[.string W.net.name, .slice xb W.net.buses.length zb, .slice xl W.net.lines.length zl, .slice xg W.net.gens.length zg, .slice xd W.net.loads.length zd, .slice xt W.net.ties.length zt]) := (HFx.out.setW 7 _).copied rfl rfl
  have HK7 : Hid (∀ z, KeepN (v6.setCell ⟨Wb, 7, none⟩ (.slice xn W.on.length zn)) z → (((((((True) ∧ z.ownsRow w.heap.size 9 1 (.slice xb W.net.buses.length zb) (W.net.buses.length) (W.net.buses.map Value.string)) ∧ z.ownsRow w.heap.size 54 5 (.slice xl W.net.lines.length zl) (W.net.lines.length) (W.net.lines.flatMap LineM.cells)) ∧ z.ownsRow w.heap.size 46 5 (.slice xg W.net.gens.length zg) (W.net.gens.length) (W.net.gens.flatMap GenM.cells)) ∧ z.ownsRow w.heap.size 51 3 (.slice xd W.net.loads.length zd) (W.net.loads.length) (W.net.loads.flatMap LoadM.cells)) ∧ z.ownsRow w.heap.size 56 4 (.slice xt W.net.ties.length zt) (W.net.ties.length) (W.net.ties.flatMap TieM.cells)) ∧ z.ownsRow w.heap.size 4 1 (.slice xo W.out.length zo) (W.out.length) (W.out.map Value.bool)) ∧ z.ownsRow w.heap.size 4 1 (.slice xn W.on.length zn) (W.on.length) (W.on.map Value.bool)) := fun z hz => HKx.out z ((KeepN.set HFx.out.hW (.inr rfl) _ _).trans hz)
  obtain ⟨y7, hyn⟩ : ∃ x, x = v6.setCell ⟨Wb, 7, none⟩ (.slice xn W.on.length zn) := ⟨_, rfl⟩
  rw [← hyn] at HF7 HK7 ⊢
  clear hyn HFx HKx c2 f2
  have c1 : y7.cell? ⟨Wb, 8, none⟩ = some (.slice ap W.plan.length cp) := (cells_at HF7.out.hW 8).trans rfl
  have HRR := hide' (HP.out.down HF7.out.bel)
  have hz1 : w.heap.size ≤ y7.heap.size := HF7.out.bel.size
  go_wp2_with (at_builtin; refine wpList_append_any _ rfl _ _ 30 rfl w.heap.size 3 i3 _ 1 8 Tryz.underlying30 hi3 h30 h31 h32 rfl (by decide) _ _ _ rfl (World.ownsRow_nil _ _ _ _) _ _ _ rfl HRR.out (intsW_one W.plan) (by unfold maxLen; omega) (by omega) hz1 ?_; intro q1 v7 hown1 hgrow1; refine Still.go ?_)
  unfold Still
  have hg1 : y7.grownBy v7 none := hgrow1
  have ho1 : v7.ownsRow w.heap.size 3 1 q1 (W.plan.length) (ints W.plan) := by have h := hown1; rw [Nat.zero_add, List.nil_append] at h; exact h
  obtain ⟨xp, zp, rfl⟩ := own_slice ho1
  have hb1 : Below y7.heap.size y7 v7 := (Below.refl _ y7).grown hg1 (Nat.le_refl _) (fun k e => by cases e)
  have HFx := hide' (HF7.out.more hb1)
  have c2 : v7.cell? ⟨Wb, 8, none⟩ = some (.slice ap W.plan.length cp) := (cells_at HFx.out.hW 8).trans rfl
  have f2 : v7.frozen? ⟨Wb, 8, none⟩ = false := frozen_no HFx.out.hW _
  have HKx : Hid (∀ z, KeepN v7 z → ((((((((True) ∧ z.ownsRow w.heap.size 9 1 (.slice xb W.net.buses.length zb) (W.net.buses.length) (W.net.buses.map Value.string)) ∧ z.ownsRow w.heap.size 54 5 (.slice xl W.net.lines.length zl) (W.net.lines.length) (W.net.lines.flatMap LineM.cells)) ∧ z.ownsRow w.heap.size 46 5 (.slice xg W.net.gens.length zg) (W.net.gens.length) (W.net.gens.flatMap GenM.cells)) ∧ z.ownsRow w.heap.size 51 3 (.slice xd W.net.loads.length zd) (W.net.loads.length) (W.net.loads.flatMap LoadM.cells)) ∧ z.ownsRow w.heap.size 56 4 (.slice xt W.net.ties.length zt) (W.net.ties.length) (W.net.ties.flatMap TieM.cells)) ∧ z.ownsRow w.heap.size 4 1 (.slice xo W.out.length zo) (W.out.length) (W.out.map Value.bool)) ∧ z.ownsRow w.heap.size 4 1 (.slice xn W.on.length zn) (W.on.length) (W.on.map Value.bool)) ∧ z.ownsRow w.heap.size 3 1 (.slice xp W.plan.length zp) (W.plan.length) (ints W.plan)) := fun z hz => ⟨HK7.out z ((KeepN.below hb1).trans hz), own_keepN ho1 hz (by decide) (by decide)⟩
  clear hown1 hgrow1 hg1 ho1 hb1 c1 HRR hz1 HF7 HK7
  go_upto_region 11 with fail
  have HF8 : Hid (OFW w (v7.setCell ⟨Wb, 8, none⟩ (.slice xp W.plan.length zp)) Wb Rz Nb #[.string W.net.name, .slice xb W.net.buses.length zb, .slice xl W.net.lines.length zl, .slice xg W.net.gens.length zg, .slice xd W.net.loads.length zd, .slice xt W.net.ties.length zt, .slice xo W.out.length zo, .slice xn W.on.length zn, .slice xp W.plan.length zp, .slice av W.given.length cv, .int .i64 W.now, .slice ae W.log.length ce] #[.string W.net.name, .slice xb W.net.buses.length zb, .slice xl W.net.lines.length zl, .slice xg W.net.gens.length zg, .slice xd W.net.loads.length zd, .slice xt W.net.ties.length zt]) := (HFx.out.setW 8 _).copied rfl rfl
  have HK8 : Hid (∀ z, KeepN (v7.setCell ⟨Wb, 8, none⟩ (.slice xp W.plan.length zp)) z → ((((((((True) ∧ z.ownsRow w.heap.size 9 1 (.slice xb W.net.buses.length zb) (W.net.buses.length) (W.net.buses.map Value.string)) ∧ z.ownsRow w.heap.size 54 5 (.slice xl W.net.lines.length zl) (W.net.lines.length) (W.net.lines.flatMap LineM.cells)) ∧ z.ownsRow w.heap.size 46 5 (.slice xg W.net.gens.length zg) (W.net.gens.length) (W.net.gens.flatMap GenM.cells)) ∧ z.ownsRow w.heap.size 51 3 (.slice xd W.net.loads.length zd) (W.net.loads.length) (W.net.loads.flatMap LoadM.cells)) ∧ z.ownsRow w.heap.size 56 4 (.slice xt W.net.ties.length zt) (W.net.ties.length) (W.net.ties.flatMap TieM.cells)) ∧ z.ownsRow w.heap.size 4 1 (.slice xo W.out.length zo) (W.out.length) (W.out.map Value.bool)) ∧ z.ownsRow w.heap.size 4 1 (.slice xn W.on.length zn) (W.on.length) (W.on.map Value.bool)) ∧ z.ownsRow w.heap.size 3 1 (.slice xp W.plan.length zp) (W.plan.length) (ints W.plan)) := fun z hz => HKx.out z ((KeepN.set HFx.out.hW (.inr rfl) _ _).trans hz)
  obtain ⟨y8, hyn⟩ : ∃ x, x = v7.setCell ⟨Wb, 8, none⟩ (.slice xp W.plan.length zp) := ⟨_, rfl⟩
  rw [← hyn] at HF8 HK8 ⊢
  clear hyn HFx HKx c2 f2
  have c1 : y8.cell? ⟨Wb, 9, none⟩ = some (.slice av W.given.length cv) := (cells_at HF8.out.hW 9).trans rfl
  have HRR := hide' (HV.out.down HF8.out.bel)
  have hz1 : w.heap.size ≤ y8.heap.size := HF8.out.bel.size
  go_wp2_with (at_builtin; refine wpList_append_any _ rfl _ _ 30 rfl w.heap.size 3 i3 _ 1 8 Tryz.underlying30 hi3 h30 h31 h32 rfl (by decide) _ _ _ rfl (World.ownsRow_nil _ _ _ _) _ _ _ rfl HRR.out (intsW_one W.given) (by unfold maxLen; omega) (by omega) hz1 ?_; intro q1 v8 hown1 hgrow1; refine Still.go ?_)
  unfold Still
  have hg1 : y8.grownBy v8 none := hgrow1
  have ho1 : v8.ownsRow w.heap.size 3 1 q1 (W.given.length) (ints W.given) := by have h := hown1; rw [Nat.zero_add, List.nil_append] at h; exact h
  obtain ⟨xv, zv, rfl⟩ := own_slice ho1
  have hb1 : Below y8.heap.size y8 v8 := (Below.refl _ y8).grown hg1 (Nat.le_refl _) (fun k e => by cases e)
  have HFx := hide' (HF8.out.more hb1)
  have c2 : v8.cell? ⟨Wb, 9, none⟩ = some (.slice av W.given.length cv) := (cells_at HFx.out.hW 9).trans rfl
  have f2 : v8.frozen? ⟨Wb, 9, none⟩ = false := frozen_no HFx.out.hW _
  have HKx : Hid (∀ z, KeepN v8 z → (((((((((True) ∧ z.ownsRow w.heap.size 9 1 (.slice xb W.net.buses.length zb) (W.net.buses.length) (W.net.buses.map Value.string)) ∧ z.ownsRow w.heap.size 54 5 (.slice xl W.net.lines.length zl) (W.net.lines.length) (W.net.lines.flatMap LineM.cells)) ∧ z.ownsRow w.heap.size 46 5 (.slice xg W.net.gens.length zg) (W.net.gens.length) (W.net.gens.flatMap GenM.cells)) ∧ z.ownsRow w.heap.size 51 3 (.slice xd W.net.loads.length zd) (W.net.loads.length) (W.net.loads.flatMap LoadM.cells)) ∧ z.ownsRow w.heap.size 56 4 (.slice xt W.net.ties.length zt) (W.net.ties.length) (W.net.ties.flatMap TieM.cells)) ∧ z.ownsRow w.heap.size 4 1 (.slice xo W.out.length zo) (W.out.length) (W.out.map Value.bool)) ∧ z.ownsRow w.heap.size 4 1 (.slice xn W.on.length zn) (W.on.length) (W.on.map Value.bool)) ∧ z.ownsRow w.heap.size 3 1 (.slice xp W.plan.length zp) (W.plan.length) (ints W.plan)) ∧ z.ownsRow w.heap.size 3 1 (.slice xv W.given.length zv) (W.given.length) (ints W.given)) := fun z hz => ⟨HK8.out z ((KeepN.below hb1).trans hz), own_keepN ho1 hz (by decide) (by decide)⟩
  clear hown1 hgrow1 hg1 ho1 hb1 c1 HRR hz1 HF8 HK8
  go_upto_region 12 with fail
  have HF9 : Hid (OFW w (v8.setCell ⟨Wb, 9, none⟩ (.slice xv W.given.length zv)) Wb Rz Nb #[.string W.net.name, .slice xb W.net.buses.length zb, .slice xl W.net.lines.length zl, .slice xg W.net.gens.length zg, .slice xd W.net.loads.length zd, .slice xt W.net.ties.length zt, .slice xo W.out.length zo, .slice xn W.on.length zn, .slice xp W.plan.length zp, .slice xv W.given.length zv, .int .i64 W.now, .slice ae W.log.length ce] #[.string W.net.name, .slice xb W.net.buses.length zb, .slice xl W.net.lines.length zl, .slice xg W.net.gens.length zg, .slice xd W.net.loads.length zd, .slice xt W.net.ties.length zt]) := (HFx.out.setW 9 _).copied rfl rfl
  have HK9 : Hid (∀ z, KeepN (v8.setCell ⟨Wb, 9, none⟩ (.slice xv W.given.length zv)) z → (((((((((True) ∧ z.ownsRow w.heap.size 9 1 (.slice xb W.net.buses.length zb) (W.net.buses.length) (W.net.buses.map Value.string)) ∧ z.ownsRow w.heap.size 54 5 (.slice xl W.net.lines.length zl) (W.net.lines.length) (W.net.lines.flatMap LineM.cells)) ∧ z.ownsRow w.heap.size 46 5 (.slice xg W.net.gens.length zg) (W.net.gens.length) (W.net.gens.flatMap GenM.cells)) ∧ z.ownsRow w.heap.size 51 3 (.slice xd W.net.loads.length zd) (W.net.loads.length) (W.net.loads.flatMap LoadM.cells)) ∧ z.ownsRow w.heap.size 56 4 (.slice xt W.net.ties.length zt) (W.net.ties.length) (W.net.ties.flatMap TieM.cells)) ∧ z.ownsRow w.heap.size 4 1 (.slice xo W.out.length zo) (W.out.length) (W.out.map Value.bool)) ∧ z.ownsRow w.heap.size 4 1 (.slice xn W.on.length zn) (W.on.length) (W.on.map Value.bool)) ∧ z.ownsRow w.heap.size 3 1 (.slice xp W.plan.length zp) (W.plan.length) (ints W.plan)) ∧ z.ownsRow w.heap.size 3 1 (.slice xv W.given.length zv) (W.given.length) (ints W.given)) := fun z hz => HKx.out z ((KeepN.set HFx.out.hW (.inr rfl) _ _).trans hz)
  obtain ⟨y9, hyn⟩ : ∃ x, x = v8.setCell ⟨Wb, 9, none⟩ (.slice xv W.given.length zv) := ⟨_, rfl⟩
  rw [← hyn] at HF9 HK9 ⊢
  clear hyn HFx HKx c2 f2
  have c1 : y9.cell? ⟨Wb, 11, none⟩ = some (.slice ae W.log.length ce) := (cells_at HF9.out.hW 11).trans rfl
  have HRR := hide' (HE.out.down HF9.out.bel)
  have hz1 : w.heap.size ≤ y9.heap.size := HF9.out.bel.size
  go_wp2_with (at_builtin; refine wpList_append_any _ rfl _ _ 31 rfl w.heap.size 179 i179 _ 4 32 Tryz.underlying31 hi179 h1790 h1791 h1792 rfl (by decide) _ _ _ rfl (World.ownsRow_nil _ _ _ _) _ _ _ rfl HRR.out (ents_one W.log) (by unfold maxLen; omega) (by omega) hz1 ?_; intro q1 v9 hown1 hgrow1; refine Still.go ?_)
  unfold Still
  have hg1 : y9.grownBy v9 none := hgrow1
  have ho1 : v9.ownsRow w.heap.size 179 4 q1 (W.log.length) (W.log.flatMap EntM.cells) := by have h := hown1; rw [Nat.zero_add, List.nil_append] at h; exact h
  obtain ⟨xe, ze, rfl⟩ := own_slice ho1
  have hb1 : Below y9.heap.size y9 v9 := (Below.refl _ y9).grown hg1 (Nat.le_refl _) (fun k e => by cases e)
  have HFx := hide' (HF9.out.more hb1)
  have c2 : v9.cell? ⟨Wb, 11, none⟩ = some (.slice ae W.log.length ce) := (cells_at HFx.out.hW 11).trans rfl
  have f2 : v9.frozen? ⟨Wb, 11, none⟩ = false := frozen_no HFx.out.hW _
  have HKx : Hid (∀ z, KeepN v9 z → ((((((((((True) ∧ z.ownsRow w.heap.size 9 1 (.slice xb W.net.buses.length zb) (W.net.buses.length) (W.net.buses.map Value.string)) ∧ z.ownsRow w.heap.size 54 5 (.slice xl W.net.lines.length zl) (W.net.lines.length) (W.net.lines.flatMap LineM.cells)) ∧ z.ownsRow w.heap.size 46 5 (.slice xg W.net.gens.length zg) (W.net.gens.length) (W.net.gens.flatMap GenM.cells)) ∧ z.ownsRow w.heap.size 51 3 (.slice xd W.net.loads.length zd) (W.net.loads.length) (W.net.loads.flatMap LoadM.cells)) ∧ z.ownsRow w.heap.size 56 4 (.slice xt W.net.ties.length zt) (W.net.ties.length) (W.net.ties.flatMap TieM.cells)) ∧ z.ownsRow w.heap.size 4 1 (.slice xo W.out.length zo) (W.out.length) (W.out.map Value.bool)) ∧ z.ownsRow w.heap.size 4 1 (.slice xn W.on.length zn) (W.on.length) (W.on.map Value.bool)) ∧ z.ownsRow w.heap.size 3 1 (.slice xp W.plan.length zp) (W.plan.length) (ints W.plan)) ∧ z.ownsRow w.heap.size 3 1 (.slice xv W.given.length zv) (W.given.length) (ints W.given)) ∧ z.ownsRow w.heap.size 179 4 (.slice xe W.log.length ze) (W.log.length) (W.log.flatMap EntM.cells)) := fun z hz => ⟨HK9.out z ((KeepN.below hb1).trans hz), own_keepN ho1 hz (by decide) (by decide)⟩
  clear hown1 hgrow1 hg1 ho1 hb1 c1 HRR hz1 HF9 HK9
  go_upto_region 13 with fail
  have HF10 : Hid (OFW w (v9.setCell ⟨Wb, 11, none⟩ (.slice xe W.log.length ze)) Wb Rz Nb #[.string W.net.name, .slice xb W.net.buses.length zb, .slice xl W.net.lines.length zl, .slice xg W.net.gens.length zg, .slice xd W.net.loads.length zd, .slice xt W.net.ties.length zt, .slice xo W.out.length zo, .slice xn W.on.length zn, .slice xp W.plan.length zp, .slice xv W.given.length zv, .int .i64 W.now, .slice xe W.log.length ze] #[.string W.net.name, .slice xb W.net.buses.length zb, .slice xl W.net.lines.length zl, .slice xg W.net.gens.length zg, .slice xd W.net.loads.length zd, .slice xt W.net.ties.length zt]) := (HFx.out.setW 11 _).copied rfl rfl
  have HK10 : Hid (∀ z, KeepN (v9.setCell ⟨Wb, 11, none⟩ (.slice xe W.log.length ze)) z → ((((((((((True) ∧ z.ownsRow w.heap.size 9 1 (.slice xb W.net.buses.length zb) (W.net.buses.length) (W.net.buses.map Value.string)) ∧ z.ownsRow w.heap.size 54 5 (.slice xl W.net.lines.length zl) (W.net.lines.length) (W.net.lines.flatMap LineM.cells)) ∧ z.ownsRow w.heap.size 46 5 (.slice xg W.net.gens.length zg) (W.net.gens.length) (W.net.gens.flatMap GenM.cells)) ∧ z.ownsRow w.heap.size 51 3 (.slice xd W.net.loads.length zd) (W.net.loads.length) (W.net.loads.flatMap LoadM.cells)) ∧ z.ownsRow w.heap.size 56 4 (.slice xt W.net.ties.length zt) (W.net.ties.length) (W.net.ties.flatMap TieM.cells)) ∧ z.ownsRow w.heap.size 4 1 (.slice xo W.out.length zo) (W.out.length) (W.out.map Value.bool)) ∧ z.ownsRow w.heap.size 4 1 (.slice xn W.on.length zn) (W.on.length) (W.on.map Value.bool)) ∧ z.ownsRow w.heap.size 3 1 (.slice xp W.plan.length zp) (W.plan.length) (ints W.plan)) ∧ z.ownsRow w.heap.size 3 1 (.slice xv W.given.length zv) (W.given.length) (ints W.given)) ∧ z.ownsRow w.heap.size 179 4 (.slice xe W.log.length ze) (W.log.length) (W.log.flatMap EntM.cells)) := fun z hz => HKx.out z ((KeepN.set HFx.out.hW (.inr rfl) _ _).trans hz)
  obtain ⟨y10, hyn⟩ : ∃ x, x = v9.setCell ⟨Wb, 11, none⟩ (.slice xe W.log.length ze) := ⟨_, rfl⟩
  rw [← hyn] at HF10 HK10 ⊢
  clear hyn HFx HKx c2 f2
  have g0 : y10.cell? ⟨Wb, 0, none⟩ = some (.string W.net.name) := (cells_at HF10.out.hW 0).trans rfl
  have g1 : y10.cell? ⟨Wb, 1, none⟩ = some (.slice xb W.net.buses.length zb) := (cells_at HF10.out.hW 1).trans rfl
  have g2 : y10.cell? ⟨Wb, 2, none⟩ = some (.slice xl W.net.lines.length zl) := (cells_at HF10.out.hW 2).trans rfl
  have g3 : y10.cell? ⟨Wb, 3, none⟩ = some (.slice xg W.net.gens.length zg) := (cells_at HF10.out.hW 3).trans rfl
  have g4 : y10.cell? ⟨Wb, 4, none⟩ = some (.slice xd W.net.loads.length zd) := (cells_at HF10.out.hW 4).trans rfl
  have g5 : y10.cell? ⟨Wb, 5, none⟩ = some (.slice xt W.net.ties.length zt) := (cells_at HF10.out.hW 5).trans rfl
  have g6 : y10.cell? ⟨Wb, 6, none⟩ = some (.slice xo W.out.length zo) := (cells_at HF10.out.hW 6).trans rfl
  have g7 : y10.cell? ⟨Wb, 7, none⟩ = some (.slice xn W.on.length zn) := (cells_at HF10.out.hW 7).trans rfl
  have g8 : y10.cell? ⟨Wb, 8, none⟩ = some (.slice xp W.plan.length zp) := (cells_at HF10.out.hW 8).trans rfl
  have g9 : y10.cell? ⟨Wb, 9, none⟩ = some (.slice xv W.given.length zv) := (cells_at HF10.out.hW 9).trans rfl
  have g10 : y10.cell? ⟨Wb, 10, none⟩ = some (.int .i64 W.now) := (cells_at HF10.out.hW 10).trans rfl
  have g11 : y10.cell? ⟨Wb, 11, none⟩ = some (.slice xe W.log.length ze) := (cells_at HF10.out.hW 11).trans rfl
  have r0 : y10.cell? ⟨Rz, 0, none⟩ = some (.string ⟨#[]⟩) := (cells_at HF10.out.hR 0).trans rfl
  have r1 : y10.cell? ⟨Rz, 1, none⟩ = some (.slice none 0 0) := (cells_at HF10.out.hR 1).trans rfl
  have r2 : y10.cell? ⟨Rz, 2, none⟩ = some (.slice none 0 0) := (cells_at HF10.out.hR 2).trans rfl
  have r3 : y10.cell? ⟨Rz, 3, none⟩ = some (.slice none 0 0) := (cells_at HF10.out.hR 3).trans rfl
  have r4 : y10.cell? ⟨Rz, 4, none⟩ = some (.slice none 0 0) := (cells_at HF10.out.hR 4).trans rfl
  have r5 : y10.cell? ⟨Rz, 5, none⟩ = some (.slice none 0 0) := (cells_at HF10.out.hR 5).trans rfl
  have r6 : y10.cell? ⟨Rz, 6, none⟩ = some (.slice none 0 0) := (cells_at HF10.out.hR 6).trans rfl
  have r7 : y10.cell? ⟨Rz, 7, none⟩ = some (.slice none 0 0) := (cells_at HF10.out.hR 7).trans rfl
  have r8 : y10.cell? ⟨Rz, 8, none⟩ = some (.slice none 0 0) := (cells_at HF10.out.hR 8).trans rfl
  have r9 : y10.cell? ⟨Rz, 9, none⟩ = some (.slice none 0 0) := (cells_at HF10.out.hR 9).trans rfl
  have r10 : y10.cell? ⟨Rz, 10, none⟩ = some (.int .i64 0) := (cells_at HF10.out.hR 10).trans rfl
  have r11 : y10.cell? ⟨Rz, 11, none⟩ = some (.slice none 0 0) := (cells_at HF10.out.hR 11).trans rfl
  have f0 : y10.frozen? ⟨Rz, 0, none⟩ = false := frozen_no HF10.out.hR _
  have f1 : y10.frozen? ⟨Rz, 1, none⟩ = false := frozen_no HF10.out.hR _
  have f2 : y10.frozen? ⟨Rz, 2, none⟩ = false := frozen_no HF10.out.hR _
  have f3 : y10.frozen? ⟨Rz, 3, none⟩ = false := frozen_no HF10.out.hR _
  have f4 : y10.frozen? ⟨Rz, 4, none⟩ = false := frozen_no HF10.out.hR _
  have f5 : y10.frozen? ⟨Rz, 5, none⟩ = false := frozen_no HF10.out.hR _
  have f6 : y10.frozen? ⟨Rz, 6, none⟩ = false := frozen_no HF10.out.hR _
  have f7 : y10.frozen? ⟨Rz, 7, none⟩ = false := frozen_no HF10.out.hR _
  have f8 : y10.frozen? ⟨Rz, 8, none⟩ = false := frozen_no HF10.out.hR _
  have f9 : y10.frozen? ⟨Rz, 9, none⟩ = false := frozen_no HF10.out.hR _
  have f10 : y10.frozen? ⟨Rz, 10, none⟩ = false := frozen_no HF10.out.hR _
  have f11 : y10.frozen? ⟨Rz, 11, none⟩ = false := frozen_no HF10.out.hR _
  have HAA : Hid (((((((((((((y10.setCell ⟨Rz, 0, none⟩ (.string W.net.name)).setCell ⟨Rz, 1, none⟩ (.slice xb W.net.buses.length zb)).setCell ⟨Rz, 2, none⟩ (.slice xl W.net.lines.length zl)).setCell ⟨Rz, 3, none⟩ (.slice xg W.net.gens.length zg)).setCell ⟨Rz, 4, none⟩ (.slice xd W.net.loads.length zd)).setCell ⟨Rz, 5, none⟩ (.slice xt W.net.ties.length zt)).setCell ⟨Rz, 6, none⟩ (.slice xo W.out.length zo)).setCell ⟨Rz, 7, none⟩ (.slice xn W.on.length zn)).setCell ⟨Rz, 8, none⟩ (.slice xp W.plan.length zp)).setCell ⟨Rz, 9, none⟩ (.slice xv W.given.length zv)).setCell ⟨Rz, 10, none⟩ (.int .i64 W.now)).setCell ⟨Rz, 11, none⟩ (.slice xe W.log.length ze)).heap[Rz]? = some (.cells #[.string W.net.name, .slice xb W.net.buses.length zb, .slice xl W.net.lines.length zl, .slice xg W.net.gens.length zg, .slice xd W.net.loads.length zd, .slice xt W.net.ties.length zt, .slice xo W.out.length zo, .slice xn W.on.length zn, .slice xp W.plan.length zp, .slice xv W.given.length zv, .int .i64 W.now, .slice xe W.log.length ze] 33 (0, 0))) := (set_any (set_any (set_any (set_any (set_any (set_any (set_any (set_any (set_any (set_any (set_any (set_any HF10.out.hR 0 _) 1 _) 2 _) 3 _) 4 _) 5 _) 6 _) 7 _) 8 _) 9 _) 10 _) 11 _).trans (by simp only [List.setIfInBounds_toArray, List.set_cons_zero, List.set_cons_succ])
  have HBF : Hid (Below w.heap.size w ((((((((((((y10.setCell ⟨Rz, 0, none⟩ (.string W.net.name)).setCell ⟨Rz, 1, none⟩ (.slice xb W.net.buses.length zb)).setCell ⟨Rz, 2, none⟩ (.slice xl W.net.lines.length zl)).setCell ⟨Rz, 3, none⟩ (.slice xg W.net.gens.length zg)).setCell ⟨Rz, 4, none⟩ (.slice xd W.net.loads.length zd)).setCell ⟨Rz, 5, none⟩ (.slice xt W.net.ties.length zt)).setCell ⟨Rz, 6, none⟩ (.slice xo W.out.length zo)).setCell ⟨Rz, 7, none⟩ (.slice xn W.on.length zn)).setCell ⟨Rz, 8, none⟩ (.slice xp W.plan.length zp)).setCell ⟨Rz, 9, none⟩ (.slice xv W.given.length zv)).setCell ⟨Rz, 10, none⟩ (.int .i64 W.now)).setCell ⟨Rz, 11, none⟩ (.slice xe W.log.length ze))) := ((((((((((((HF10.out.bel.setCell (p := ⟨Rz, 0, none⟩) HF10.out.s.2.1 _).setCell (p := ⟨Rz, 1, none⟩) HF10.out.s.2.1 _).setCell (p := ⟨Rz, 2, none⟩) HF10.out.s.2.1 _).setCell (p := ⟨Rz, 3, none⟩) HF10.out.s.2.1 _).setCell (p := ⟨Rz, 4, none⟩) HF10.out.s.2.1 _).setCell (p := ⟨Rz, 5, none⟩) HF10.out.s.2.1 _).setCell (p := ⟨Rz, 6, none⟩) HF10.out.s.2.1 _).setCell (p := ⟨Rz, 7, none⟩) HF10.out.s.2.1 _).setCell (p := ⟨Rz, 8, none⟩) HF10.out.s.2.1 _).setCell (p := ⟨Rz, 9, none⟩) HF10.out.s.2.1 _).setCell (p := ⟨Rz, 10, none⟩) HF10.out.s.2.1 _).setCell (p := ⟨Rz, 11, none⟩) HF10.out.s.2.1 _)
  have HOK := hide' (HK10.out ((((((((((((y10.setCell ⟨Rz, 0, none⟩ (.string W.net.name)).setCell ⟨Rz, 1, none⟩ (.slice xb W.net.buses.length zb)).setCell ⟨Rz, 2, none⟩ (.slice xl W.net.lines.length zl)).setCell ⟨Rz, 3, none⟩ (.slice xg W.net.gens.length zg)).setCell ⟨Rz, 4, none⟩ (.slice xd W.net.loads.length zd)).setCell ⟨Rz, 5, none⟩ (.slice xt W.net.ties.length zt)).setCell ⟨Rz, 6, none⟩ (.slice xo W.out.length zo)).setCell ⟨Rz, 7, none⟩ (.slice xn W.on.length zn)).setCell ⟨Rz, 8, none⟩ (.slice xp W.plan.length zp)).setCell ⟨Rz, 9, none⟩ (.slice xv W.given.length zv)).setCell ⟨Rz, 10, none⟩ (.int .i64 W.now)).setCell ⟨Rz, 11, none⟩ (.slice xe W.log.length ze)) ((((((((((((KeepN.set HF10.out.hR (.inr rfl) 0 _).trans (KeepN.set (set_any HF10.out.hR 0 _) (.inr rfl) 1 _)).trans (KeepN.set (set_any (set_any HF10.out.hR 0 _) 1 _) (.inr rfl) 2 _)).trans (KeepN.set (set_any (set_any (set_any HF10.out.hR 0 _) 1 _) 2 _) (.inr rfl) 3 _)).trans (KeepN.set (set_any (set_any (set_any (set_any HF10.out.hR 0 _) 1 _) 2 _) 3 _) (.inr rfl) 4 _)).trans (KeepN.set (set_any (set_any (set_any (set_any (set_any HF10.out.hR 0 _) 1 _) 2 _) 3 _) 4 _) (.inr rfl) 5 _)).trans (KeepN.set (set_any (set_any (set_any (set_any (set_any (set_any HF10.out.hR 0 _) 1 _) 2 _) 3 _) 4 _) 5 _) (.inr rfl) 6 _)).trans (KeepN.set (set_any (set_any (set_any (set_any (set_any (set_any (set_any HF10.out.hR 0 _) 1 _) 2 _) 3 _) 4 _) 5 _) 6 _) (.inr rfl) 7 _)).trans (KeepN.set (set_any (set_any (set_any (set_any (set_any (set_any (set_any (set_any HF10.out.hR 0 _) 1 _) 2 _) 3 _) 4 _) 5 _) 6 _) 7 _) (.inr rfl) 8 _)).trans (KeepN.set (set_any (set_any (set_any (set_any (set_any (set_any (set_any (set_any (set_any HF10.out.hR 0 _) 1 _) 2 _) 3 _) 4 _) 5 _) 6 _) 7 _) 8 _) (.inr rfl) 9 _)).trans (KeepN.set (set_any (set_any (set_any (set_any (set_any (set_any (set_any (set_any (set_any (set_any HF10.out.hR 0 _) 1 _) 2 _) 3 _) 4 _) 5 _) 6 _) 7 _) 8 _) 9 _) (.inr rfl) 10 _)).trans (KeepN.set (set_any (set_any (set_any (set_any (set_any (set_any (set_any (set_any (set_any (set_any (set_any HF10.out.hR 0 _) 1 _) 2 _) 3 _) 4 _) 5 _) 6 _) 7 _) 8 _) 9 _) 10 _) (.inr rfl) 11 _)))
  clear HF10 HK10
  go_wp2_with fail
  refine bodyPost_ret (results_cell_row rfl _ _ Rz 33 _ (0, 0) _ rfl HAA.out Tryz.underlying33 rfl (by kernel_rfl)) rfl ?_
  exact ⟨xb, xl, xg, xd, xt, xo, xn, xp, xv, xe, zb, zl, zg, zd, zt, zo, zn, zp, zv, ze, rfl, ⟨HOK.out.1.1.1.1.1.1.1.1.1.2, HOK.out.1.1.1.1.1.1.1.1.2, HOK.out.1.1.1.1.1.1.1.2, HOK.out.1.1.1.1.1.1.2, HOK.out.1.1.1.1.1.2, HOK.out.1.1.1.1.2, HOK.out.1.1.1.2, HOK.out.1.1.2, HOK.out.1.2, HOK.out.2⟩, HBF.out⟩

end Go.Proofs.YtpbalclhdhjnoaaGreatDoor.Bar
namespace Go.Proofs.YtpbalclhdhjnoaaGreatDoor.Bar
open Go.RowKit Go.Shelf Doc

theorem wake_len (W : WorldM) (black : List Bool) : (wakeL W black).length ≤ W.net.buses.length := lvls_len _ _ _
theorem natI_lenW (l : List Nat) : (natI l).length = l.length := natI_len l
set_option maxRecDepth 100000 in
set_option maxHeartbeats 4000000 in
theorem WorksWakes_any (W : WorldM) (a : WAddr) (black : List Bool) (bv : Value) (mx : Int) (w : World) (hsm : SmallM W.net) (htb : TabAll w) (hm : w.cell? ⟨1, 0, none⟩ = some (.int .i64 mx)) (hw : WorldAt w W a) (hlens : W.out.length ≤ 2000000 ∧ W.on.length ≤ 2000000 ∧ W.plan.length ≤ 2000000 ∧ W.given.length ≤ 2000000 ∧ W.log.length ≤ 2000000) (hb : RowAt w bv black.length 1 (black.map Value.bool)) (hbl : black.length ≤ 2000000) :
    Calls Tryz.prog 3 #[.agg #[.string W.net.name, .slice a.ab W.net.buses.length a.cb, .slice a.al W.net.lines.length a.cl, .slice a.ag W.net.gens.length a.cg, .slice a.ad W.net.loads.length a.cd, .slice a.at' W.net.ties.length a.ct, .slice a.ao W.out.length a.co, .slice a.an W.on.length a.cn, .slice a.ap W.plan.length a.cp, .slice a.av W.given.length a.cv, .int .i64 W.now, .slice a.ae W.log.length a.ce], bv] w fun e w' => e = .returned (.bool true) ∧ Below w.heap.size w w' := by
  obtain ⟨la, lc, rfl⟩ := rowAt_slice hb
  have HOF := hide' (fun z (hz : Below w.heap.size w z) => WorldOf_any W a z hsm (hw.down hz) hlens)
  have HSI := hide' (fun z (hz : Below w.heap.size w z) => sides_any black _ z (hb.down hz) hbl)
  have HWO := hide' (fun z (hz : Below w.heap.size w z) => WakeOf_any W a black _ z hsm (hw.down hz) (hb.down hz) hbl)
  have HWA : Hid (∀ z B1 (a2 : WAddr) gv, Below w.heap.size w z → Owns z B1 (.slice a2.ab W.net.buses.length a2.cb) (.slice a2.al W.net.lines.length a2.cl) (.slice a2.ag W.net.gens.length a2.cg) (.slice a2.ad W.net.loads.length a2.cd) (.slice a2.at' W.net.ties.length a2.ct) W.net → WorldAt z W a2 → RowAt z gv black.length 1 (black.map Value.bool) → Calls Tryz.prog 4 #[.agg #[.string W.net.name, .slice a2.ab W.net.buses.length a2.cb, .slice a2.al W.net.lines.length a2.cl, .slice a2.ag W.net.gens.length a2.cg, .slice a2.ad W.net.loads.length a2.cd, .slice a2.at' W.net.ties.length a2.ct, .slice a2.ao W.out.length a2.co, .slice a2.an W.on.length a2.cn, .slice a2.ap W.plan.length a2.cp, .slice a2.av W.given.length a2.cv, .int .i64 W.now, .slice a2.ae W.log.length a2.ce], gv] z (WakeO W black z)) := fun z B1 a2 gv hz ho hwz hr => Wake_any W a2 B1 mx black gv z hsm (htb.later hz) ho (up_cell hz hm) hwz hr hbl
  obtain ⟨ab, al, ag, ad, at', ao, an, ap, av, ae, cb, cl, cg, cd, ct, co, cn, cp, cv, ce⟩ := a
  dsimp only at HOF HWO ⊢
  clear hsm htb hm hw hlens hb
  go_enter Tryz.func3, Tryz.ntmps3
  go_upto_region 1 with fail
  have hqWb := alloc_new w (.cells #[.string W.net.name, .slice ab W.net.buses.length cb, .slice al W.net.lines.length cl, .slice ag W.net.gens.length cg, .slice ad W.net.loads.length cd, .slice at' W.net.ties.length ct, .slice ao W.out.length co, .slice an W.on.length cn, .slice ap W.plan.length cp, .slice av W.given.length cv, .int .i64 W.now, .slice ae W.log.length ce] 33)
  have hb1 := below_al w (.cells #[.string W.net.name, .slice ab W.net.buses.length cb, .slice al W.net.lines.length cl, .slice ag W.net.gens.length cg, .slice ad W.net.loads.length cd, .slice at' W.net.ties.length ct, .slice ao W.out.length co, .slice an W.on.length cn, .slice ap W.plan.length cp, .slice av W.given.length cv, .int .i64 W.now, .slice ae W.log.length ce] 33)
  obtain ⟨w1, hw1⟩ : ∃ x, x = (w.alloc (.cells #[.string W.net.name, .slice ab W.net.buses.length cb, .slice al W.net.lines.length cl, .slice ag W.net.gens.length cg, .slice ad W.net.loads.length cd, .slice at' W.net.ties.length ct, .slice ao W.out.length co, .slice an W.on.length cn, .slice ap W.plan.length cp, .slice av W.given.length cv, .int .i64 W.now, .slice ae W.log.length ce] 33)) := ⟨_, rfl⟩
  rw [← hw1] at hqWb hb1 ⊢
  obtain ⟨Wb, hnWb⟩ : ∃ x, x = w.heap.size := ⟨_, rfl⟩
  have HNE : Hid (w.heap.size ≤ Wb) := by show _ ≤ _; omega
  rw [← hnWb] at hqWb
  rw [show (Value.pointer (some { block := w.heap.size, off := 0 })) = Value.pointer (some { block := Wb, off := 0 }) by rw [hnWb]]
  have HQWb := hide' hqWb
  have HB1 := hide' hb1
  clear hqWb hb1 hw1 hnWb
  have g0 : w1.cell? ⟨Wb, 0, none⟩ = some (.string W.net.name) := (cells_at HQWb.out 0).trans rfl
  have g1 : w1.cell? ⟨Wb, 1, none⟩ = some (.slice ab W.net.buses.length cb) := (cells_at HQWb.out 1).trans rfl
  have g2 : w1.cell? ⟨Wb, 2, none⟩ = some (.slice al W.net.lines.length cl) := (cells_at HQWb.out 2).trans rfl
  have g3 : w1.cell? ⟨Wb, 3, none⟩ = some (.slice ag W.net.gens.length cg) := (cells_at HQWb.out 3).trans rfl
  have g4 : w1.cell? ⟨Wb, 4, none⟩ = some (.slice ad W.net.loads.length cd) := (cells_at HQWb.out 4).trans rfl
  have g5 : w1.cell? ⟨Wb, 5, none⟩ = some (.slice at' W.net.ties.length ct) := (cells_at HQWb.out 5).trans rfl
  have g6 : w1.cell? ⟨Wb, 6, none⟩ = some (.slice ao W.out.length co) := (cells_at HQWb.out 6).trans rfl
  have g7 : w1.cell? ⟨Wb, 7, none⟩ = some (.slice an W.on.length cn) := (cells_at HQWb.out 7).trans rfl
  have g8 : w1.cell? ⟨Wb, 8, none⟩ = some (.slice ap W.plan.length cp) := (cells_at HQWb.out 8).trans rfl
  have g9 : w1.cell? ⟨Wb, 9, none⟩ = some (.slice av W.given.length cv) := (cells_at HQWb.out 9).trans rfl
  have g10 : w1.cell? ⟨Wb, 10, none⟩ = some (.int .i64 W.now) := (cells_at HQWb.out 10).trans rfl
  have g11 : w1.cell? ⟨Wb, 11, none⟩ = some (.slice ae W.log.length ce) := (cells_at HQWb.out 11).trans rfl
  go_wp2_with fail
  refine (HOF.out w1 HB1.out).mono ?_
  rintro e w2 ⟨xb, xl, xg, xd, xt, xo, xn, xp, xv, xe, zb, zl, zg, zd, zt, zo, zn, zp, zv, ze, rfl, ⟨q0, q1, q2, q3, q4, q5, q6, q7, q8, q9⟩, hb2⟩
  have HB2 := hide' (HB1.out.trans (hb2.mono HB1.out.size))
  have HW2 := hide' ((hb2.block Wb (lt_heap HQWb.out)).trans HQWb.out)
  have HOW : Hid (∀ z, Below w2.heap.size w2 z → Owns z w1.heap.size (.slice xb W.net.buses.length zb) (.slice xl W.net.lines.length zl) (.slice xg W.net.gens.length zg) (.slice xd W.net.loads.length zd) (.slice xt W.net.ties.length zt) W.net ∧ WorldAt z W ⟨xb, xl, xg, xd, xt, xo, xn, xp, xv, xe, zb, zl, zg, zd, zt, zo, zn, zp, zv, ze⟩) := fun z hz => by
    have ho : Owns z w1.heap.size (.slice xb W.net.buses.length zb) (.slice xl W.net.lines.length zl) (.slice xg W.net.gens.length zg) (.slice xd W.net.loads.length zd) (.slice xt W.net.ties.length zt) W.net := owns_down ⟨q0, q1, q2, q3, q4⟩ hz
    exact ⟨ho, ⟨⟨_, _, _, _, _, rfl, rowAt_of_own ho.hb, rowAt_of_own ho.hl, rowAt_of_own ho.hg, rowAt_of_own ho.hd, rowAt_of_own ho.ht⟩, (rowAt_of_own q5).down hz, (rowAt_of_own q6).down hz, (rowAt_of_own q7).down hz, (rowAt_of_own q8).down hz, (rowAt_of_own q9).down hz⟩⟩
  clear hb2 q0 q1 q2 q3 q4 q5 q6 q7 q8 q9 HQWb HB1 HOF g0 g1 g2 g3 g4 g5 g6 g7 g8 g9 g10 g11
  go_wp2_with fail
  refine (HSI.out w2 HB2.out).mono ?_
  rintro e w3 ⟨gv, rfl, hg3, hb3⟩
  have HB3 := hide' (HB2.out.trans (hb3.mono HB2.out.size))
  have HW3 := hide' ((hb3.block Wb (lt_heap HW2.out)).trans HW2.out)
  have HP3 := hide' (HWA.out w3 w1.heap.size ⟨xb, xl, xg, xd, xt, xo, xn, xp, xv, xe, zb, zl, zg, zd, zt, zo, zn, zp, zv, ze⟩ gv HB3.out (HOW.out w3 hb3).1 (HOW.out w3 hb3).2 (rowAt_of_own hg3))
  clear hg3 hb3 HW2 HB2 HSI HWA HOW
  dsimp only at HP3
  go_wp2_with fail
  refine HP3.out.mono ?_
  clear HP3
  rintro e w4 ⟨hp, hb4⟩
  have HB5 := hide' (HB3.out.trans (hb4.mono HB3.out.size))
  have HW4 := hide' ((hb4.block Wb (lt_heap HW3.out)).trans HW3.out)
  have g0 : w4.cell? ⟨Wb, 0, none⟩ = some (.string W.net.name) := (cells_at HW4.out 0).trans rfl
  have g1 : w4.cell? ⟨Wb, 1, none⟩ = some (.slice ab W.net.buses.length cb) := (cells_at HW4.out 1).trans rfl
  have g2 : w4.cell? ⟨Wb, 2, none⟩ = some (.slice al W.net.lines.length cl) := (cells_at HW4.out 2).trans rfl
  have g3 : w4.cell? ⟨Wb, 3, none⟩ = some (.slice ag W.net.gens.length cg) := (cells_at HW4.out 3).trans rfl
  have g4 : w4.cell? ⟨Wb, 4, none⟩ = some (.slice ad W.net.loads.length cd) := (cells_at HW4.out 4).trans rfl
  have g5 : w4.cell? ⟨Wb, 5, none⟩ = some (.slice at' W.net.ties.length ct) := (cells_at HW4.out 5).trans rfl
  have g6 : w4.cell? ⟨Wb, 6, none⟩ = some (.slice ao W.out.length co) := (cells_at HW4.out 6).trans rfl
  have g7 : w4.cell? ⟨Wb, 7, none⟩ = some (.slice an W.on.length cn) := (cells_at HW4.out 7).trans rfl
  have g8 : w4.cell? ⟨Wb, 8, none⟩ = some (.slice ap W.plan.length cp) := (cells_at HW4.out 8).trans rfl
  have g9 : w4.cell? ⟨Wb, 9, none⟩ = some (.slice av W.given.length cv) := (cells_at HW4.out 9).trans rfl
  have g10 : w4.cell? ⟨Wb, 10, none⟩ = some (.int .i64 W.now) := (cells_at HW4.out 10).trans rfl
  have g11 : w4.cell? ⟨Wb, 11, none⟩ = some (.slice ae W.log.length ce) := (cells_at HW4.out 11).trans rfl
  have HP4 := hide' (HWO.out w4 HB5.out)
  clear HW3 HW4 HWO hb4
  have HNIL : Hid (∀ z, Calls Tryz.prog 8 #[.slice none 0 0, .slice none 0 0] z fun e w' => e = .returned (.bool true) ∧ Below z.heap.size z w') := fun z => (sameInts_any [] (.slice none 0 0) (.slice none 0 0) z (rowAt_of_own (World.ownsRow_nil z 0 3 1)) (rowAt_of_own (World.ownsRow_nil z 0 3 1)) (by decide)).mono (fun e w' h => ⟨h.1, by obtain ⟨_, q, hq⟩ := h; rw [hq]; exact below_drewN (Below.refl _ z) q⟩)
  rcases hp with ⟨h1, rfl⟩ | ⟨h1, h2, rfl⟩ | ⟨h1, h2, v, rfl, hv⟩
  · have H1 := hide' h1
    clear h1
    go_wp2_with fail
    refine HP4.out.mono ?_
    rintro e w5 ⟨hp, hb⟩
    rcases hp with ⟨_, rfl⟩ | ⟨h3, _⟩ | ⟨h3, _⟩
    · have HBF := hide' (HB5.out.trans (hb.mono HB5.out.size))
      clear hb HP4
      go_wp2_with fail
      refine (HNIL.out w5).mono ?_
      rintro e w6 ⟨rfl, hb6⟩
      have HBG := hide' (HBF.out.trans (hb6.mono HBF.out.size))
      clear hb6
      go_wp2_with fail
      go_ret
      exact ⟨rfl, HBG.out⟩
    · exact absurd h3 H1.out
    · exact absurd h3 H1.out
  · have H1 := hide' h1
    have H2 := hide' h2
    clear h1 h2
    go_wp2_with fail
    refine HP4.out.mono ?_
    rintro e w5 ⟨hp, hb⟩
    rcases hp with ⟨h3, _⟩ | ⟨_, _, rfl⟩ | ⟨_, h3, _⟩
    · exact absurd H1.out h3
    · have HBF := hide' (HB5.out.trans (hb.mono HB5.out.size))
      clear hb HP4
      go_wp2_with fail
      refine (HNIL.out w5).mono ?_
      rintro e w6 ⟨rfl, hb6⟩
      have HBG := hide' (HBF.out.trans (hb6.mono HBF.out.size))
      clear hb6
      go_wp2_with fail
      go_ret
      exact ⟨rfl, HBG.out⟩
    · exact absurd h3 H2.out
  · have H1 := hide' h1
    have H2 := hide' h2
    have HV := hide' hv
    clear h1 h2 hv
    go_wp2_with fail
    refine HP4.out.mono ?_
    rintro e w5 ⟨hp, hb⟩
    rcases hp with ⟨h3, _⟩ | ⟨_, h3, _⟩ | ⟨_, _, v2, rfl, hv2⟩
    · exact absurd H1.out h3
    · exact absurd H2.out h3
    · have HBF := hide' (HB5.out.trans (hb.mono HB5.out.size))
      have hwl := wake_len W black
      have h16 : W.net.buses.length ≤ 16 := H1.out.1.fits.1
      have HSA : Hid (Calls Tryz.prog 8 #[v, v2] w5 fun e w' => e = .returned (.bool true) ∧ Below w5.heap.size w5 w') := by
        have r1 := rowAt_of_own (own_below HV.out hb (Nat.le_refl _))
        have r2 := rowAt_of_own hv2
        rw [← natI_len] at r1 r2
        exact (sameInts_any (natI (wakeL W black)) v v2 w5 r1 r2 (by rw [natI_len]; omega)).mono (fun e w' h => ⟨h.1, by obtain ⟨_, q, hq⟩ := h; rw [hq]; exact below_drewN (Below.refl _ w5) q⟩)
      clear hb HP4 hv2 hwl h16
      go_wp2_with fail
      refine HSA.out.mono ?_
      rintro e w6 ⟨rfl, hb6⟩
      have HBG := hide' (HBF.out.trans (hb6.mono HBF.out.size))
      clear hb6
      go_wp2_with fail
      go_ret
      exact ⟨rfl, HBG.out⟩
end Go.Proofs.YtpbalclhdhjnoaaGreatDoor.Bar
namespace Go.Proofs.YtpbalclhdhjnoaaGreatDoor.Doc
open Go.ChangeShapes Go.WideShapes Go.ChangeAt Go.RowKit Go.Deep

theorem bulk_bound {H : Type} {l : List (DataW H)} (hk : Rows.uptoSmall H l = true) : Rows.uptoBulkAll l ≤ 1048576 := of_decide_eq_true hk
section
variable {H : Type} {enc : TypeId × Value → H} {W : World} {base : Nat} {spare : Nat → Bool} {held : Bool}
theorem bool_rd (fuel : Nat) (cs : List Value) (x : DataW H × List MemPlace) (hl : cs.length = 1) (h : DataW.trod enc Tryz.prog W base spare held fuel 4 cs = some x) : ∃ m : Bool, cs = [.bool m] ∧ True := by
  match cs, hl with
  | [v], _ =>
    obtain ⟨c, e, _⟩ := DataW.trod_bool Tryz.underlying4 h
    cases e
    exact ⟨c, rfl, trivial⟩
theorem flat_bools (xs : List Bool) : (xs.flatMap fun x => [Value.bool x]) = xs.map Value.bool := by
  induction xs with
  | nil => rfl
  | cons x r ih => simp [ih]
theorem int_rd (fuel : Nat) (cs : List Value) (x : DataW H × List MemPlace) (hl : cs.length = 1) (h : DataW.trod enc Tryz.prog W base spare held fuel 3 cs = some x) : ∃ m : Int, cs = [.int .i64 m] ∧ True := by
  match cs, hl with
  | [v], _ =>
    obtain ⟨n, rfl, _⟩ := int_of h
    exact ⟨n, rfl, trivial⟩
theorem flat_ints (xs : List Int) : (xs.flatMap fun x => [Value.int .i64 x]) = Bar.ints xs := by
  induction xs with
  | nil => rfl
  | cons x r ih => simp [Bar.ints] at ih ⊢; exact ih
theorem bools_in {fuel : Nat} {v : Value} {y : DataW H × List MemPlace} (h : DataW.trod enc Tryz.prog W base spare held fuel 29 [v] = some y) :
    ∃ out : List Bool, RowAt W v out.length 1 (out.map Value.bool) ∧ out.length ≤ Rows.uptoBulk y.1 := by
  obtain ⟨bs, hb, lb, _⟩ := open_rows (fun x => [Value.bool x]) (fun _ _ => True) Tryz.underlying29 c4 (by decide) (fun _ => rfl) (fun _ _ _ _ _ => trivial) bool_rd h
  rw [flat_bools] at hb
  exact ⟨bs, hb, lb⟩
theorem ints_in {fuel : Nat} {v : Value} {y : DataW H × List MemPlace} (h : DataW.trod enc Tryz.prog W base spare held fuel 30 [v] = some y) :
    ∃ l : List Int, RowAt W v l.length 1 (Bar.ints l) ∧ l.length ≤ Rows.uptoBulk y.1 := by
  obtain ⟨bs, hb, lb, _⟩ := open_rows (fun x => [Value.int .i64 x]) (fun _ _ => True) Tryz.underlying30 c3 (by decide) (fun _ => rfl) (fun _ _ _ _ _ => trivial) int_rd h
  rw [flat_ints] at hb
  exact ⟨bs, hb, lb⟩
theorem c177 : Tryz.prog.cellsOf 177 = 3 := by kernel_rfl
theorem ent_rd (fuel : Nat) (cs : List Value) (x : DataW H × List MemPlace) (hl : cs.length = 4) (h : DataW.trod enc Tryz.prog W base spare held fuel 179 cs = some x) : ∃ m : Bar.EntM, cs = m.cells ∧ True := by
  obtain ⟨y0, y1, n, rfl, _, g0, g1⟩ := trod_struct2 Tryz.underlying179 h
  obtain ⟨v0, v1, v2, v3, rfl⟩ := list4 hl
  simp [c3, c177] at g0 g1
  obtain ⟨z0, z1, z2, n2, rfl, _, k0, k1, k2⟩ := trod_struct3 Tryz.underlying177 g1
  simp [c3] at k0 k1 k2
  obtain ⟨a, rfl, _⟩ := int_of g0
  obtain ⟨b, rfl, _⟩ := int_of k0
  obtain ⟨c, rfl, _⟩ := int_of k1
  obtain ⟨d, rfl, _⟩ := int_of k2
  exact ⟨⟨a, b, c, d⟩, rfl, trivial⟩
theorem ents_in {fuel : Nat} {v : Value} {y : DataW H × List MemPlace} (h : DataW.trod enc Tryz.prog W base spare held fuel 31 [v] = some y) :
    ∃ l : List Bar.EntM, RowAt W v l.length 4 (l.flatMap Bar.EntM.cells) ∧ l.length ≤ Rows.uptoBulk y.1 := by
  obtain ⟨bs, hb, lb, _⟩ := open_rows Bar.EntM.cells (fun _ _ => True) Tryz.underlying31 (by kernel_rfl) (by decide) (fun _ => rfl) (fun _ _ _ _ _ => trivial) ent_rd h
  exact ⟨bs, hb, lb⟩
set_option maxRecDepth 100000 in
set_option maxHeartbeats 1000000 in
/-- A network among the cells of what came in. -/
theorem net_in {fuel : Nat} {u0 u1 u2 u3 u4 u5 : Value} {y : DataW H × List MemPlace} (hf : DataW.trod enc Tryz.prog W base spare held fuel 28 [u0, u1, u2, u3, u4, u5] = some y) (hk : Rows.uptoBulk y.1 ≤ 1048576) :
    ∃ N : NetM, NetAt W (.agg #[u0, u1, u2, u3, u4, u5]) N ∧ SmallM N := by
  obtain ⟨y0, y1, y2, y3, y4, y5, n, hx, _, g0, g1, g2, g3, g4, g5⟩ := trod_struct6 Tryz.underlying28 hf
  cases hx
  have c22 : Tryz.prog.cellsOf 22 = 1 := by kernel_rfl
  have c23 : Tryz.prog.cellsOf 23 = 1 := by kernel_rfl
  have c24 : Tryz.prog.cellsOf 24 = 1 := by kernel_rfl
  have c25 : Tryz.prog.cellsOf 25 = 1 := by kernel_rfl
  have c26 : Tryz.prog.cellsOf 26 = 1 := by kernel_rfl
  simp [c9, c22, c23, c24, c25, c26] at g0 g1 g2 g3 g4 g5
  obtain ⟨s, rfl, hs⟩ := str_of g0
  obtain ⟨bs, hb, lb, ob⟩ := open_rows (fun x => [Value.string x]) (fun x k => x.size ≤ k) Tryz.underlying22 c9 (by decide) (fun _ => rfl) (fun _ _ _ h1 h2 => Nat.le_trans h1 h2) text_rd g1
  obtain ⟨ls, hl, ll, ol⟩ := open_rows LineM.cells lineOk Tryz.underlying23 (by kernel_rfl) (by decide) (fun _ => rfl) (fun _ _ _ h1 h2 => ⟨Nat.le_trans h1.1 h2, h1.2⟩) line_rd g2
  obtain ⟨gs, hg, lg, og⟩ := open_rows GenM.cells genOk Tryz.underlying24 (by kernel_rfl) (by decide) (fun _ => rfl) (fun _ _ _ h1 h2 => ⟨Nat.le_trans h1.1 h2, h1.2⟩) gen_rd g3
  obtain ⟨ds, hd, ld, od⟩ := open_rows LoadM.cells loadOk Tryz.underlying25 (by kernel_rfl) (by decide) (fun _ => rfl) (fun _ _ _ h1 h2 => ⟨Nat.le_trans h1.1 h2, h1.2⟩) load_rd g4
  obtain ⟨ts, ht, lt, ot⟩ := open_rows TieM.cells tieOk Tryz.underlying26 (by kernel_rfl) (by decide) (fun _ => rfl) (fun _ _ _ h1 h2 => ⟨Nat.le_trans h1.1 h2, h1.2⟩) tie_rd g5
  rw [flat_texts] at hb
  simp only [Rows.uptoBulk, Rows.uptoBulkAll] at hk
  refine ⟨⟨s, bs, ls, gs, ds, ts⟩, ⟨u1, u2, u3, u4, u5, rfl, hb, hl, hg, hd, ht⟩, ⟨?_, ⟨?_, ?_, ?_, ?_, ?_⟩, fun x hx => ?_, fun x hx => ?_, fun x hx => ?_, fun x hx => ?_, fun x hx => ?_⟩⟩
  · show s.size ≤ _; omega
  · show bs.length ≤ _; omega
  · show ls.length ≤ _; omega
  · show gs.length ≤ _; omega
  · show ds.length ≤ _; omega
  · show ts.length ≤ _; omega
  · have := ob x hx; omega
  · have := ol x hx; exact ⟨by have := this.1; omega, this.2⟩
  · have := og x hx; exact ⟨by have := this.1; omega, this.2⟩
  · have := od x hx; exact ⟨by have := this.1; omega, this.2⟩
  · have := ot x hx; exact ⟨by have := this.1; omega, this.2⟩
theorem array12 {cs : Array Value} (h : cs.size = 12) : ∃ a b c d e f g i j k l m, cs = #[a, b, c, d, e, f, g, i, j, k, l, m] := by
  obtain ⟨l⟩ := cs
  match l, h with
  | [a, b, c, d, e, f, g, i, j, k, l, m], _ => exact ⟨a, b, c, d, e, f, g, i, j, k, l, m, rfl⟩
theorem trod_struct7 {P : Program} {w : World} {t : TypeId} {f0 f1 f2 f3 f4 f5 f6 : Field} {fuel : Nat} {cs : List Value} {x : DataW H × List MemPlace} (ht : P.underlying t = some (.struct #[f0, f1, f2, f3, f4, f5, f6])) (h : DataW.trod enc P w base spare held fuel t cs = some x) :
    ∃ y0 y1 y2 y3 y4 y5 y6 n, x.1 = .agg [y0.1, y1.1, y2.1, y3.1, y4.1, y5.1, y6.1] ∧ DataW.trod enc P w base spare held n f0.type ((cs.drop f0.offset).take (P.cellsOf f0.type)) = some y0 ∧
      DataW.trod enc P w base spare held n f1.type ((cs.drop f1.offset).take (P.cellsOf f1.type)) = some y1 ∧ DataW.trod enc P w base spare held n f2.type ((cs.drop f2.offset).take (P.cellsOf f2.type)) = some y2 ∧
      DataW.trod enc P w base spare held n f3.type ((cs.drop f3.offset).take (P.cellsOf f3.type)) = some y3 ∧ DataW.trod enc P w base spare held n f4.type ((cs.drop f4.offset).take (P.cellsOf f4.type)) = some y4 ∧
      DataW.trod enc P w base spare held n f5.type ((cs.drop f5.offset).take (P.cellsOf f5.type)) = some y5 ∧ DataW.trod enc P w base spare held n f6.type ((cs.drop f6.offset).take (P.cellsOf f6.type)) = some y6 := by
  obtain ⟨xs, n, _, rfl, _, hlen, hf⟩ := DataW.trod_struct ht h
  match xs, hlen with
  | [y0, y1, y2, y3, y4, y5, y6], _ => exact ⟨y0, y1, y2, y3, y4, y5, y6, n, by simp, by simpa using hf 0 f0 rfl, by simpa using hf 1 f1 rfl, by simpa using hf 2 f2 rfl, by simpa using hf 3 f3 rfl, by simpa using hf 4 f4 rfl, by simpa using hf 5 f5 rfl, by simpa using hf 6 f6 rfl⟩
theorem c33 : Tryz.prog.cellsOf 33 = 12 := by kernel_rfl
set_option maxRecDepth 100000 in
set_option maxHeartbeats 2000000 in
/-- The world that came in. -/
theorem world_of {r : Reach} {b0 : Nat} {v0 : Value} {d0 : DataW H} {p : List MemPlace} (hv : Value.okWide Tryz.prog W r b0 33 v0) (h : DataW.Trod enc Tryz.prog W base spare held 33 v0 d0 p) (hk : Rows.uptoBulk d0 ≤ 1048576) :
    ∃ (M : Bar.WorldM) (a : Bar.WAddr), v0 = .agg #[.string M.net.name, .slice a.ab M.net.buses.length a.cb, .slice a.al M.net.lines.length a.cl, .slice a.ag M.net.gens.length a.cg, .slice a.ad M.net.loads.length a.cd, .slice a.at' M.net.ties.length a.ct, .slice a.ao M.out.length a.co, .slice a.an M.on.length a.cn, .slice a.ap M.plan.length a.cp, .slice a.av M.given.length a.cv, .int .i64 M.now, .slice a.ae M.log.length a.ce] ∧ Bar.WorldAt W M a ∧ SmallM M.net ∧ (M.out.length ≤ 2000000 ∧ M.on.length ≤ 2000000 ∧ M.plan.length ≤ 2000000 ∧ M.given.length ≤ 2000000 ∧ M.log.length ≤ 2000000) := by
  obtain ⟨cs, rfl, hsz⟩ := okWide_struct Tryz.underlying33 hv
  obtain ⟨u0, u1, u2, u3, u4, u5, u6, u7, u8, u9, u10, u11, rfl⟩ := array12 (hsz.trans c33)
  obtain ⟨fuel, hf⟩ := h
  obtain ⟨y0, y1, y2, y3, y4, y5, y6, n, hx, g0, g1, g2, g3, g4, g5, g6⟩ := trod_struct7 Tryz.underlying33 hf
  have hx : d0 = .agg [y0.1, y1.1, y2.1, y3.1, y4.1, y5.1, y6.1] := hx
  subst hx
  have c29 : Tryz.prog.cellsOf 29 = 1 := by kernel_rfl
  have c30 : Tryz.prog.cellsOf 30 = 1 := by kernel_rfl
  have c31 : Tryz.prog.cellsOf 31 = 1 := by kernel_rfl
  simp [Value.cells, c3, c28, c29, c30, c31] at g0 g1 g2 g3 g4 g5 g6
  simp only [Rows.uptoBulk, Rows.uptoBulkAll] at hk
  obtain ⟨N, hnet, hsm⟩ := net_in g0 (by omega)
  obtain ⟨bo, ho, lo⟩ := bools_in g1
  obtain ⟨bn, hn, ln⟩ := bools_in g2
  obtain ⟨ip, hp, lp⟩ := ints_in g3
  obtain ⟨iv, hgv, lv⟩ := ints_in g4
  obtain ⟨now, rfl, _⟩ := int_of g5
  obtain ⟨es, he, le⟩ := ents_in g6
  obtain ⟨b, l, g, d, t, hvv, h1, h2, h3, h4, h5⟩ := hnet
  cases hvv
  obtain ⟨xb, zb, rfl⟩ := rowAt_slice h1
  obtain ⟨xl, zl, rfl⟩ := rowAt_slice h2
  obtain ⟨xg, zg, rfl⟩ := rowAt_slice h3
  obtain ⟨xd, zd, rfl⟩ := rowAt_slice h4
  obtain ⟨xt, zt, rfl⟩ := rowAt_slice h5
  obtain ⟨xo, zo, rfl⟩ := rowAt_slice ho
  obtain ⟨xn, zn, rfl⟩ := rowAt_slice hn
  obtain ⟨xp, zp, rfl⟩ := rowAt_slice hp
  obtain ⟨xv, zv, rfl⟩ := rowAt_slice hgv
  obtain ⟨xe, ze, rfl⟩ := rowAt_slice he
  refine ⟨⟨N, bo, bn, ip, iv, now, es⟩, ⟨xb, xl, xg, xd, xt, xo, xn, xp, xv, xe, zb, zl, zg, zd, zt, zo, zn, zp, zv, ze⟩, rfl, ⟨⟨_, _, _, _, _, rfl, h1, h2, h3, h4, h5⟩, ho, hn, hp, hgv, he⟩, hsm, ?_⟩
  refine ⟨?_, ?_, ?_, ?_, ?_⟩ <;> (dsimp only; omega)
set_option maxRecDepth 100000 in
theorem bools_of {r : Reach} {b0 : Nat} {v : Value} {d : DataW H} {p : List MemPlace} (hv : Value.okWide Tryz.prog W r b0 29 v) (h : DataW.Trod enc Tryz.prog W base spare held 29 v d p) (hk : Rows.uptoBulk d ≤ 1048576) :
    ∃ out : List Bool, RowAt W v out.length 1 (out.map Value.bool) ∧ out.length ≤ 2000000 := by
  obtain ⟨fuel, hf0⟩ := h
  obtain ⟨a, len, cap, rfl⟩ := okWide_slice Tryz.underlying29 hv
  have hc : (Value.slice a len cap).cells.toList = [.slice a len cap] := rfl
  rw [hc] at hf0
  obtain ⟨bs, hb, lb⟩ := bools_in hf0
  exact ⟨bs, hb, by have : bs.length ≤ Rows.uptoBulk d := lb; omega⟩
end
end Go.Proofs.YtpbalclhdhjnoaaGreatDoor.Doc
namespace Go.Proofs.YtpbalclhdhjnoaaGreatDoor
open Go.ChangeShapes Go.WideShapes Go.ChangeAt Go.RowKit Go.Lib Go.ChangeMaps

theorem laidOut : laidOutB Tryz.prog = true := by kernel_rfl
theorem own : ownKnob Tryz.prog.godebug = none := by kernel_rfl
/-- The length that the library's search reads: some number. -/
theorem maxLen_cell {w : World} (h : w.ShapedOpen Tryz.prog) : ∃ m, w.cell? ⟨1, 0, none⟩ = some (.int .i64 m) :=
  cell_of_shapedOpen_int (g := 1) (t := 3) (zero := #[.int .i64 0]) h (by decide +kernel) (by kernel_rfl) rfl (by kernel_rfl) (by kernel_rfl) Tryz.underlying3

def tab32 : List Int := [0, 1, 28, 2, 29, 14, 24, 3, 30, 22, 20, 15, 25, 17, 4, 8, 31, 27, 13, 23, 21, 19, 16, 7, 26, 12, 18, 6, 11, 5, 10, 9]
def tab64 : List Int := [0, 1, 56, 2, 57, 49, 28, 3, 61, 58, 42, 50, 38, 29, 17, 4, 62, 47, 59, 36, 45, 43, 51, 22, 53, 39, 33, 30, 24, 18, 12, 5, 63, 55, 48, 27, 60, 41, 37, 16, 46, 35, 44, 21, 52, 32, 23, 11, 54, 26, 40, 15, 34, 20, 31, 10, 25, 14, 19, 9, 13, 8, 7, 6]
def pow10 : List Int := [1, 10, 100, 1000, 10000, 100000, 1000000, 10000000, 100000000, 1000000000, 10000000000, 100000000000, 1000000000000, 10000000000000, 100000000000000, 1000000000000000, 10000000000000000, 100000000000000000, 1000000000000000000, 10000000000000000000]
def textRange : List UInt8 := [118, 97, 108, 117, 101, 32, 111, 117, 116, 32, 111, 102, 32, 114, 97, 110, 103, 101]
def textSyntax : List UInt8 := [105, 110, 118, 97, 108, 105, 100, 32, 115, 121, 110, 116, 97, 120]
def putAt (h : Array Obj) (g : Nat) (cs : Array Value) : Array Obj := h.modify g fun
  | .cells _ t frozen => .cells cs t frozen
  | o => o
/-- A world for the witness: the settled one, the listed variables holding what their initialisers lay. -/
def laidW (P : Program) (os : Os) : World :=
  let N := (World.settled P os).heap.size
  let w0 := World.holding P os ⟨#[.cells #[.string ⟨textRange.toArray⟩] 161, .cells #[.string ⟨textSyntax.toArray⟩] 161], #[], []⟩
  let h1 := putAt (putAt w0.heap 4 #[.iface 159 (.pointer (some ⟨N + 1, 0, none⟩))]) 5 #[.iface 159 (.pointer (some ⟨N, 0, none⟩))]
  let h2 := putAt (putAt (putAt h1 0 (pow10.map (Value.int .u64)).toArray) 2 (tab32.map (Value.int .u8)).toArray) 3 (tab64.map (Value.int .u8)).toArray
  { w0 with heap := h2 }
/-- The table that Itoa reads, out of the row's list. -/
theorem tab_all {W : World} (h : laidMetH Tryz.prog Rows.worksWakesUptoRow.laid W) : TabAll W := by
  have h0 : laidMet Tryz.prog (("math/bits.deBruijn32tab", Rows.laid_math_bits_deBruijn32tab) :: ("math/bits.deBruijn64tab", Rows.laid_math_bits_deBruijn64tab) :: ("internal/strconv.uint64pow10", Rows.laid_internal_strconv_uint64pow10) :: [("strconv.ErrRange", Rows.laid_strconv_ErrRange), ("strconv.ErrSyntax", Rows.laid_strconv_ErrSyntax)]) W := h
  have h1 := (laidMet.tail (laidMet.tail h0))
  have hg : Tryz.prog.globalNamed "internal/strconv.uint64pow10" = some 0 := by kernel_rfl
  have ht : Lib.TabIs Tryz.prog W "internal/strconv.uint64pow10" .u64 Lib.pow10Tab :=
    Lib.tabIs_of_head (rest := [("strconv.ErrRange", Rows.laid_strconv_ErrRange), ("strconv.ErrSyntax", Rows.laid_strconv_ErrSyntax)]) (t := 133) (e := 117) (n := 20) hg (by kernel_rfl) (by kernel_rfl) (by kernel_rfl) (by kernel_rfl) (by kernel_rfl) h1
  intro W' hb
  have hlt : 0 < W.heap.size := World.block_lt_of_cell? W ⟨0, 0, none⟩ (Lib.TabIs.cell ht hg 0 (by decide))
  exact var?_below hb hg hlt ht

abbrev noArgs : Array Value := #[.agg #[.string ⟨#[]⟩, .slice none 0 0, .slice none 0 0, .slice none 0 0, .slice none 0 0, .slice none 0 0, .slice none 0 0, .slice none 0 0, .slice none 0 0, .slice none 0 0, .int .i64 0, .slice none 0 0], .slice none 0 0]
set_option maxRecDepth 100000 in
theorem laid_met (os : Os) (args : Array Value) : laidMet Tryz.prog Rows.worksWakesUptoRow.laid ((laidW Tryz.prog os).forCall (fun _ _ => 0) ⟨#[], args, []⟩).memory :=
  (LaidIn.of_run (l := Rows.worksWakesUptoRow.laid) [2, 3, 0, 5, (World.settled Tryz.prog default).heap.size, 4, (World.settled Tryz.prog default).heap.size + 1] 8 (by kernel_rfl) (by kernel_rfl) (by kernel_rfl) (by kernel_rfl)).met

set_option maxRecDepth 100000 in
theorem witness_row (os : Os) {H : Type} (enc : TypeId × Value → H) :
    (Rows.OpenSpec.upto Rows.worksWakesSpec).preRow enc Tryz.prog Tryz.f3 Rows.worksWakesUptoRow.domain false Rows.worksWakesUptoRow.laid ((laidW Tryz.prog os).forCall (fun _ _ => 0) ⟨#[], noArgs, []⟩).memory noArgs := by
  have hw : (DataW.whole enc Tryz.prog ((laidW Tryz.prog os).forCall (fun _ _ => 0) ⟨#[], noArgs, []⟩).memory Tryz.f3.params.toList (Rows.OpenSpec.upto Rows.worksWakesSpec).vars false noArgs.toList 8).map (fun x => (x.1, x.2.1)) =
      some ([.agg [.agg [.lit (.string []), .nil, .nil, .nil, .nil, .nil], .nil, .nil, .nil, .nil, .lit (.int .i64 0), .nil], .nil], []) := by kernel_rfl
  obtain ⟨⟨x1, x2, x3⟩, hx, hx1⟩ := Option.map_eq_some_iff.1 hw
  simp only [Prod.mk.injEq] at hx1
  obtain ⟨rfl, rfl⟩ := hx1
  exact OpenSpec.preRow_of_cond 8 hx (by kernel_rfl) (fun k hk => by cases hk; kernel_rfl) (by kernel_rfl) (laid_met os _)

set_option maxRecDepth 100000 in
set_option maxHeartbeats 2000000 in
theorem lifted (os : Os) (started : os.Started) (H : Type) (enc : TypeId × Value → H) (F : Stop.Interp) :
    ReturnsInHanded {} Tryz.checked os 3 .any ((Rows.OpenSpec.upto Rows.worksWakesSpec).preRow enc Tryz.prog Tryz.f3 Rows.worksWakesUptoRow.domain false Rows.worksWakesUptoRow.laid) (((Rows.OpenSpec.upto Rows.worksWakesSpec).at F).post enc Tryz.prog Tryz.f3 false true false false) := by
  refine returnsInHanded_of_row (C := Tryz.checked) (s := Rows.OpenSpec.upto Rows.worksWakesSpec) own started (by kernel_rfl) Tryz.func3
    (witness_row_atRef (enc := enc) (C := Tryz.checked) false (laidW Tryz.prog os) noArgs rfl (by kernel_rfl) (by kernel_rfl) (by kernel_rfl) (witness_row os enc)) ?_
  intro W base args ds gs before hval0 hW _ hcond _ hL hsh _
  have hval : ∀ (j : Nat) t v, Tryz.f3.params[j]? = some t → args[j]? = some v → Value.okWide Tryz.prog W .any base t v := hval0
  have hW' := hW
  obtain ⟨p, q, hA0, hV0, rfl, _, _⟩ := hW
  have hA : DataW.TrodAll enc Tryz.prog W 0 (fun _ => true) true Tryz.f3.params.toList args.toList ds p := hA0
  rw [Tryz.params3] at hA hval
  obtain ⟨v0, v1, d0, d1, p0, p1, rfl, rfl, rfl, h0, h1⟩ := trodAll_two hA
  obtain ⟨rfl, rfl⟩ := trodVars_none hV0
  have hk : Rows.uptoSmall H ([d0, d1] ++ []) = true := hcond _ rfl
  have hbulk := Doc.bulk_bound hk
  simp only [List.append_nil, Rows.uptoBulkAll, Nat.add_zero] at hbulk
  obtain ⟨M, wa, rfl, hwa, hsm, hln⟩ := Doc.world_of (hval 0 33 v0 rfl rfl) h0 (by omega)
  obtain ⟨black, hbr, hbl⟩ := Doc.bools_of (hval 1 29 v1 rfl rfl) h1 (by omega)
  have hlt : ∀ x ∈ p0 ++ p1, x.block < W.heap.size := DataW.TrodAll.lt hA0
  clear hA0 hV0 hval0
  obtain ⟨mx, hm⟩ := maxLen_cell hsh
  refine (Bar.WorksWakes_any M wa black v1 mx W hsm (tab_all hL) hm hwa hln hbr hbl).mono ?_
  rintro e W' ⟨rfl, bel⟩
  have e1 : ((Rows.OpenSpec.upto Rows.worksWakesSpec).at F).fn H ([d0, d1] ++ []) = { results := [.lit (.bool true)], args := [d0, d1] } := rfl
  refine ⟨_, rfl, _, _, _, [], p0 ++ p1, [], hW', ?_, ?_, ?_, bel.frame _, fun h => by cases h⟩
  · rw [e1]; exact trodAll_mk1 (shut_bool Tryz.underlying4 _)
  · rw [e1]
    exact trodAll_mk2 (Below.trod laidOut (by kernel_rfl) (of_decide_eq_true (by kernel_rfl)) h0 bel (fun x hx => hlt x (List.mem_append_left _ hx))) (Below.trod laidOut (by kernel_rfl) (of_decide_eq_true (by kernel_rfl)) h1 bel (fun x hx => hlt x (List.mem_append_right _ hx)))
  · rw [e1]; rfl

theorem row_said : Rows.WorksWakesUptoSaid :=
  OpenClaim.holds_of_cond 3 Tryz.f3 rfl rfl rfl rfl rfl rfl rfl ⟨rfl, rfl, rfl, rfl, rfl⟩ rfl rfl rfl rfl rfl (by kernel_rfl) Tryz.func3 (by kernel_rfl)
    (of_decide_eq_true (by kernel_rfl)) (by unfold Func.isWrapper; first | (rw [if_pos (by decide +kernel)]; kernel_rfl) | (rw [if_neg (by decide +kernel)]; exact ⟨rfl, rfl⟩))
    (fun os started H enc _ F => by rw [OpenClaim.pre_eq_preRow]; exact lifted os started H enc F)

/-- No parameter wants a stand-in; the program's own looks are off. -/
theorem plain (f : FuncId) (fn : Func) (hf : Tryz.pinned.checked.prog.funcNamed Rows.worksWakesUptoRow.func = some f) (hfn : Tryz.pinned.checked.prog.funcs[f]? = some fn) :
    true = Tryz.pinned.checked.prog.looks [] ∧ ∀ (j : Nat) t, fn.params[j]? = some t → Tryz.pinned.checked.prog.wantsStandIn t = false := by
  obtain rfl : f = 3 := Option.some.inj ((show Tryz.prog.funcNamed Rows.worksWakesUptoRow.func = some 3 by kernel_rfl).symm.trans hf) |>.symm
  obtain rfl : fn = Tryz.f3 := (Option.some.inj (Tryz.func3.symm.trans hfn)).symm
  refine ⟨by kernel_rfl, fun j t ht => ?_⟩
  rw [Tryz.params3] at ht
  have h2 : t = 33 ∨ t = 29 := by simpa using Array.mem_of_getElem? ht
  rcases h2 with rfl | rfl
  · exact (show Tryz.prog.wantsStandIn 33 = false by kernel_rfl)
  · exact (show Tryz.prog.wantsStandIn 29 = false by kernel_rfl)

/-- The card. -/
theorem worksWakes_card : Rows.WorksWakesUptoCardSaid :=
  Claim7.holds_tied_plain_at .later [] _ _ _ _ row_said (fun _ h => by cases h) (by kernel_rfl) (fun _ h => by cases h) worksWakesUpto_row_tie rfl ⟨rfl, rfl⟩ (by kernel_rfl) rfl plain (by kernel_rfl)
#print axioms worksWakes_card
end Go.Proofs.YtpbalclhdhjnoaaGreatDoor
