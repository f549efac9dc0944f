/- YardSafe. -/
import Derived.Test.YtcnoipcpifackahZh
namespace Go.Proofs.Ytcnoipcpifackah
open Go.RowKit Go.Shelf

theorem sound_open {y : YardM} (h : ∀ d ∈ y.devs, d.shut = false) : soundB y = true := by
  refine sound_iff.2 fun p hp hh => ?_
  obtain ⟨q, hq, _⟩ := (earthed_iff hp).1 hh.2
  obtain ⟨d, hd, h1, _⟩ := earth_mem.1 hq
  rw [h d hd] at h1
  cases h1
theorem err_kind (y : YardM) (k : Nat) : moveErr y k ≠ 14 ∧ moveErr y k ≠ 4 := by
  unfold moveErr earthE loadE liveE
  repeat' split
  all_goals decide
theorem err_blade {y : YardM} {k : Nat} (h : moveErr y k = 0) (hk : (y.dev k).kind = 2) : loadB y k = false := by
  unfold moveErr loadE at h
  rw [if_neg (by rw [hk]; decide), if_pos hk] at h
  cases e : loadB y k with
  | false => rfl
  | true => rw [e] at h; simp at h
/-- A yard on its way: sound, of these sizes. -/
structure YL (y : YardM) (n lf ls : Nat) : Prop where
  en : y.points = (n : Int)
  ef : y.fed.length = lf
  ed : y.drawn.length = 1
  es : y.devs.length = ls
  may : MayY y
  snd : soundB y = true
theorem YL.n {y : YardM} {n lf ls : Nat} (h : YL y n lf ls) : y.n = n := by have := h.may.n_le.2.2; have := h.en; omega
theorem YL.turn {y : YardM} {n lf ls j : Nat} (h : YL y n lf ls) (hj : j < ls) (h0 : moveErr y j = 0) : YL (y.turn j) n lf ls :=
  ⟨h.en, h.ef, h.ed, by rw [turn_len]; exact h.es, h.may.turn j, turn_sound h.may h.snd (by rw [h.es]; exact hj) h0⟩
structure LP (w wr : World) (A n lf ls : Nat) (y : YardM) (af ad as' : Option Addr) (cf cd cs : Nat) : Prop where
  hA : wr.heap[A]? = some (.cells #[.int .i64 (n : Int), .slice af lf cf, .slice ad 1 cd, .slice as' ls cs] 25 (0, 0))
  sA : w.heap.size ≤ A
  bel : Below w.heap.size w wr
  yl : YL y n lf ls
  lies : YardAt wr af ad as' cf cd cs y
theorem LP.more {w wr wr' : World} {A n lf ls : Nat} {y : YardM} {af ad as' : Option Addr} {cf cd cs : Nat} (h : LP w wr A n lf ls y af ad as' cf cd cs) (hb : Below wr.heap.size wr wr') : LP w wr' A n lf ls y af ad as' cf cd cs :=
  ⟨(hb.block A (Array.getElem?_eq_some_iff.1 h.hA).1).trans h.hA, h.sA, h.bel.trans (hb.mono h.bel.size), h.yl, h.lies.below hb (Nat.le_refl _)⟩
theorem Move_good (y : YardM) (n lf ls j : Nat) (af ad as' : Option Addr) (cf cd cs : Nat) (w : World) (hy : YL y n lf ls) (hat : YardAt w af ad as' cf cd cs y) (hj : j < ls) :
    Calls Try.prog 7 #[.agg #[.int .i64 (n : Int), .slice af lf cf, .slice ad 1 cd, .slice as' ls cs], .int .i64 (j : Int)] w fun e w' => ((moveErr y j ≠ 0 ∧ e = .returned (.tuple #[.agg zero4, .int .i64 (moveErr y j)])) ∨ (moveErr y j = 0 ∧ ∃ bf bd bs ef ed es, e = .returned (.tuple #[.agg #[.int .i64 (n : Int), .slice bf lf ef, .slice bd 1 ed, .slice bs ls es], .int .i64 0]) ∧ YardAt w' bf bd bs ef ed es (y.turn j))) ∧ Below w.heap.size w w' := by
  have h1 := rising_small hy.may.f (by have := hy.may.p; omega)
  have h2 := hy.may.d
  have h3 := Move_any y (j : Int) af ad as' cf cd cs w hat (by omega) (by rw [hy.ed]; decide) (by omega)
  rw [hy.en, hy.ef, hy.ed, hy.es] at h3
  refine h3.mono ?_
  rintro e w' ⟨h, hb⟩
  refine ⟨?_, hb⟩
  rcases h with ⟨h, _⟩ | ⟨_, h, _⟩ | ⟨_, j', hj', _, h⟩
  · rw [mayYB_iff.2 hy.may, hy.snd] at h; cases h
  · rw [hy.es] at h; omega
  · obtain rfl : j' = j := by omega
    rcases h with h | ⟨h, bf, bd, bs, ef, ed, es, rfl, h2⟩
    · exact .inl h
    · exact .inr ⟨h, bf, bd, bs, ef, ed, es, by rw [hy.en, hy.ef, hy.ed, hy.es], h2⟩
theorem Look_good (y : YardM) (n lf ls : Nat) (af ad as' : Option Addr) (cf cd cs : Nat) (w : World) (hy : YL y n lf ls) (hat : YardAt w af ad as' cf cd cs y) :
    Calls Try.prog 18 #[.agg #[.int .i64 (n : Int), .slice af lf cf, .slice ad 1 cd, .slice as' ls cs]] w fun e w' => ∃ L E, e = .returned (.tuple #[.slice (some ⟨L, 0, none⟩) n n, .slice (some ⟨E, 0, none⟩) n n, .int .i64 0]) ∧ (∀ p, p < n → w'.cell? ⟨L, p, none⟩ = some (.bool (y.live.getD p false))) ∧ Below w.heap.size w w' := by
  have h1 := rising_small hy.may.f (by have := hy.may.p; omega)
  have h2 := hy.may.d
  have h3 := Look_any y af ad as' cf cd cs w hat (by omega) (by rw [hy.ed]; decide) (by omega)
  rw [hy.en, hy.ef, hy.ed, hy.es] at h3
  refine h3.mono ?_
  rintro e w' ⟨h, hb⟩
  rcases h with ⟨h, _⟩ | ⟨_, L, E, rfl, hl, _⟩
  · rw [mayYB_iff.2 hy.may] at h; cases h
  · rw [hy.n] at hl ⊢
    refine ⟨L, E, rfl, fun p hp => ?_, hb⟩
    have hll : y.live.length = n := by have := hl.1; rw [List.length_map] at this; omega
    exact (own_cell hl (by rw [List.getElem?_map, List.getElem?_eq_getElem (by omega), List.getD_eq_getElem?_getD, List.getElem?_eq_getElem (by omega)]; rfl)).1
theorem safe_good (y : YardM) (n lf ls : Nat) (af ad as' : Option Addr) (cf cd cs : Nat) (w : World) (hy : YL y n lf ls) (hat : YardAt w af ad as' cf cd cs y) :
    Calls Try.prog 16 #[.agg #[.int .i64 (n : Int), .slice af lf cf, .slice ad 1 cd, .slice as' ls cs]] w fun e w' => e = .returned (.bool true) ∧ Below w.heap.size w w' := by
  have h3 := safe_any y hy.may hy.snd af ad as' cf cd cs w hat
  rw [hy.en, hy.ef, hy.ed, hy.es] at h3
  exact h3
theorem dev_at {w : World} {y : YardM} {af ad as' : Option Addr} {cf cd cs ls j : Nat} (h : YardAt w af ad as' cf cd cs y) (hl : y.devs.length = ls) (hj : j < ls) : ∃ b o, as' = some ⟨b, o, none⟩ ∧ w.cell? ⟨b, o + j * 4, none⟩ = some (.int .i64 (y.dev j).kind) ∧ w.cell? ⟨b, o + j * 4 + 3, none⟩ = some (.bool (y.dev j).shut) := by
  subst hl
  obtain ⟨b, o, c, ex, _, hc⟩ := row_elem (f := DevM.cells) (fun _ => rfl) h.s j hj (by decide)
  simp only [Value.slice.injEq] at ex
  have e : y.dev j = y.devs[j] := by unfold YardM.dev; rw [List.getElem?_eq_getElem hj]; rfl
  rw [e]
  exact ⟨b, o, ex.1, hc 0 _ rfl, hc 3 _ rfl⟩
theorem drawn_at {w : World} {y : YardM} {af ad as' : Option Addr} {cf cd cs n : Nat} (h : YardAt w af ad as' cf cd cs y) (hl : y.drawn.length = 1) (hm : MayY y) (hn : y.points = (n : Int)) : ∃ b o d, ad = some ⟨b, o, none⟩ ∧ w.cell? ⟨b, o, none⟩ = some (.int .i64 ((d : Nat) : Int)) ∧ d < n ∧ (d : Int) ∈ y.drawn := by
  obtain ⟨b, o, c, ex, hc⟩ := ints_cell h.d 0 (by omega)
  simp only [Value.slice.injEq] at ex
  have hmem : y.drawn.getD 0 0 ∈ y.drawn := by
    rw [List.getD_eq_getElem?_getD, List.getElem?_eq_getElem (by omega)]
    exact List.getElem_mem _
  have hr := hm.w.at hmem
  refine ⟨b, o, (y.drawn.getD 0 0).toNat, ex.1, ?_, by omega, ?_⟩
  · rw [Int.toNat_of_nonneg hr.1]; exact hc
  · rw [Int.toNat_of_nonneg hr.1]; exact hmem
theorem set_four {w : World} {A : Nat} {c0 c1 c2 c3 : Value} (h : w.heap[A]? = some (.cells #[c0, c1, c2, c3] 25 (0, 0))) (x0 x1 x2 x3 : Value) : ((((w.setCell ⟨A, 0, none⟩ x0).setCell ⟨A, 1, none⟩ x1).setCell ⟨A, 2, none⟩ x2).setCell ⟨A, 3, none⟩ x3).heap[A]? = some (.cells #[x0, x1, x2, x3] 25 (0, 0)) := by
  have h1 := set_any (set_any (set_any (set_any h 0 x0) 1 x1) 2 x2) 3 x3
  rw [set4] at h1
  exact h1
theorem row_apart {w w' : World} {v : Value} {n sz A : Nat} {xs : List Value} (h : RowAt w v n sz xs) (hw : ∀ b, b ≠ A → w'.heap[b]? = w.heap[b]?) (hx : xs = [] ∨ ∃ (j : Nat) (u : Value), xs[j]? = some u ∧ ∀ o, w.cell? ⟨A, o, none⟩ ≠ some u) : RowAt w' v n sz xs := by
  obtain ⟨h1, a, c, rfl, hc⟩ := h
  refine ⟨h1, a, c, rfl, fun i u hi => ?_⟩
  rcases hx with rfl | ⟨j, u2, hj, hno⟩
  · simp at hi
  · obtain ⟨b, off, rfl, hcell⟩ := hc i u hi
    obtain ⟨b2, off2, ex, hcell2⟩ := hc j u2 hj
    cases ex
    have hb : b ≠ A := fun e => hno _ (e ▸ hcell2)
    refine ⟨b, off, rfl, ?_⟩
    simp only [World.cell?] at hcell ⊢
    rw [hw b hb]
    exact hcell
theorem box_cells {w : World} {A n lf ls : Nat} {af ad as' : Option Addr} {cf cd cs : Nat} (h : w.heap[A]? = some (.cells #[.int .i64 (n : Int), .slice af lf cf, .slice ad 1 cd, .slice as' ls cs] 25 (0, 0))) {o : Nat} {u : Value} (hu : w.cell? ⟨A, o, none⟩ = some u) : u = .int .i64 (n : Int) ∨ ∃ a l c, u = .slice a l c := by
  rw [cells_at h o] at hu
  match o, hu with
  | 0, hu => simp at hu; exact .inl hu.symm
  | 1, hu => simp at hu; exact .inr ⟨_, _, _, hu.symm⟩
  | 2, hu => simp at hu; exact .inr ⟨_, _, _, hu.symm⟩
  | 3, hu => simp at hu; exact .inr ⟨_, _, _, hu.symm⟩
  | o + 4, hu => simp at hu
theorem ints_apart {w : World} {A n lf ls : Nat} {af ad as' : Option Addr} {cf cd cs : Nat} (h : w.heap[A]? = some (.cells #[.int .i64 (n : Int), .slice af lf cf, .slice ad 1 cd, .slice as' ls cs] 25 (0, 0))) {l : List Int} (hl : ∀ x ∈ l, x < (n : Int)) : ints l = [] ∨ ∃ (j : Nat) (u : Value), (ints l)[j]? = some u ∧ ∀ o, w.cell? ⟨A, o, none⟩ ≠ some u := by
  cases l with
  | nil => exact .inl rfl
  | cons x r =>
    refine .inr ⟨0, .int .i64 x, rfl, fun o ho => ?_⟩
    have hx := hl x (List.mem_cons_self ..)
    rcases box_cells h ho with e | ⟨_, _, _, e⟩
    · simp at e; omega
    · cases e
theorem LP.store {w zr : World} {A Z n lf ls : Nat} {y y2 : YardM} {af ad as' bf bd bs : Option Addr} {cf cd cs ef ed es : Nat} (hY : LP w zr A n lf ls y af ad as' cf cd cs) (hZ : LP w zr Z n lf ls y2 bf bd bs ef ed es) (hls : 0 < ls) :
    LP w ((((zr.setCell ⟨A, 0, none⟩ (.int .i64 (n : Int))).setCell ⟨A, 1, none⟩ (.slice bf lf ef)).setCell ⟨A, 2, none⟩ (.slice bd 1 ed)).setCell ⟨A, 3, none⟩ (.slice bs ls es)) A n lf ls y2 bf bd bs ef ed es := by
  have hh : ∀ b, b ≠ A → ((((zr.setCell ⟨A, 0, none⟩ (.int .i64 (n : Int))).setCell ⟨A, 1, none⟩ (.slice bf lf ef)).setCell ⟨A, 2, none⟩ (.slice bd 1 ed)).setCell ⟨A, 3, none⟩ (.slice bs ls es)).heap[b]? = zr.heap[b]? := fun b hb => by
    rw [Below.heap_setCell _ _ _ b hb, Below.heap_setCell _ _ _ b hb, Below.heap_setCell _ _ _ b hb, Below.heap_setCell _ _ _ b hb]
  refine ⟨set_four hY.hA _ _ _ _, hY.sA, (((hY.bel.setCell (p := ⟨A, 0, none⟩) hY.sA _).setCell (p := ⟨A, 1, none⟩) hY.sA _).setCell (p := ⟨A, 2, none⟩) hY.sA _).setCell (p := ⟨A, 3, none⟩) hY.sA _, hZ.yl, ⟨?_, ?_, ?_⟩⟩
  · exact row_apart hZ.lies.f hh (ints_apart hY.hA fun x hx => by have := (hZ.yl.may.f.at hx).2; have := hZ.yl.en; omega)
  · exact row_apart hZ.lies.d hh (ints_apart hY.hA fun x hx => by have := (hZ.yl.may.w.at hx).2; have := hZ.yl.en; omega)
  · refine row_apart hZ.lies.s hh (.inr ⟨0 * 4 + 3, .bool (y2.devs[0]'(by rw [hZ.yl.es]; exact hls)).shut, (dev_cell (List.getElem?_eq_getElem _) (by decide)).trans rfl, fun o ho => ?_⟩)
    rcases box_cells hY.hA ho with e | ⟨_, _, _, e⟩
    · cases e
    · cases e

set_option maxRecDepth 100000 in
set_option maxHeartbeats 4000000 in
theorem YardSafe_any (r : RawY) (ag : Option Addr) (cg : Nat) (mv : List Int) (vm : Value) (w : World) (hx : RowAt w (.slice ag r.devs.length cg) r.devs.length 3 (r.devs.flatMap RawD.cells)) (hI : ∀ d ∈ r.devs, I6 d.kind ∧ I6 d.a ∧ I6 d.b) (hp : I6 r.points) (hf : I6 r.fed) (hd : I6 r.drawn) (hmv : RowAt w vm mv.length 1 (ints mv)) (hmi : ∀ x ∈ mv, I6 x) (hml : mv.length ≤ 2000000) :
    Calls Try.prog 5 #[.agg #[.int .i64 r.points, .int .i64 r.fed, .int .i64 r.drawn, .slice ag r.devs.length cg], vm] w fun e w' => e = .returned (.bool true) ∧ Below w.heap.size w w' := by
  have HYF : Hid (∀ w', Below w.heap.size w w' → Calls Try.prog 15 #[.agg #[.int .i64 r.points, .int .i64 r.fed, .int .i64 r.drawn, .slice ag r.devs.length cg]] w' (FromO w')) := fun w' hb => yardFrom_any r ag cg w' (hx.below hb (Nat.le_refl _)) hI hp hf hd
  have HM := hide' hmv
  have HMI : Hid (∀ k, k < mv.length → I6 (mv.getD k 0)) := fun k hk => hmi _ (by rw [List.getD_eq_getElem?_getD, List.getElem?_eq_getElem hk]; exact List.getElem_mem hk)
  obtain ⟨am, cm, rfl⟩ := rowAt_slice hmv
  clear hx hI hp hf hd hmv hmi
  obtain ⟨p0, hp0⟩ : ∃ x, x = r.points := ⟨_, rfl⟩
  obtain ⟨p1, hp1⟩ : ∃ x, x = r.fed := ⟨_, rfl⟩
  obtain ⟨p2, hp2⟩ : ∃ x, x = r.drawn := ⟨_, rfl⟩
  obtain ⟨l0, hl0⟩ : ∃ x, x = r.devs.length := ⟨_, rfl⟩
  rw [← hp0, ← hp1, ← hp2, ← hl0] at HYF ⊢
  clear hp0 hp1 hp2 hl0
  go_enter Try.func5, Try.ntmps5
  go_upto_region 1 with fail
  have hq1 := alloc_new w (.cells #[.int .i64 p0, .int .i64 p1, .int .i64 p2, .slice ag l0 cg] 40)
  have hb1 := below_al w (.cells #[.int .i64 p0, .int .i64 p1, .int .i64 p2, .slice ag l0 cg] 40)
  obtain ⟨w1, hw1⟩ : ∃ x, x = w.alloc (.cells #[.int .i64 p0, .int .i64 p1, .int .i64 p2, .slice ag l0 cg] 40) := ⟨_, rfl⟩
  rw [← hw1] at hq1 hb1 ⊢
  obtain ⟨Rb, hRb⟩ : ∃ x, x = w.heap.size := ⟨_, rfl⟩
  rw [← hRb] at hq1
  rw [show (Value.pointer (some { block := w.heap.size, off := 0 })) = Value.pointer (some { block := Rb, off := 0 }) by rw [hRb]]
  have y0 : w1.cell? ⟨Rb, 0, none⟩ = some (.int .i64 p0) := (cells_at hq1 0).trans rfl
  have y1 : w1.cell? ⟨Rb, 1, none⟩ = some (.int .i64 p1) := (cells_at hq1 1).trans rfl
  have y2 : w1.cell? ⟨Rb, 2, none⟩ = some (.int .i64 p2) := (cells_at hq1 2).trans rfl
  have y3 : w1.cell? ⟨Rb, 3, none⟩ = some (.slice ag l0 cg) := (cells_at hq1 3).trans rfl
  have HB1 := hide' hb1
  have HY1 := hide' (HYF.out w1 hb1)
  clear hq1 hb1 hw1 hRb HYF
  go_wp2_with fail
  refine HY1.out.mono ?_
  rintro e w2 ⟨y, af, ad, as', cf, cd, cs, rfl, hmay, hop, hd1, hat, hb2⟩
  have hyl : YL y y.n y.fed.length y.devs.length := ⟨hmay.n_le.2.2, rfl, hd1, rfl, hmay, sound_open hop⟩
  rw [hmay.n_le.2.2, hd1]
  obtain ⟨n, hn⟩ : ∃ x, x = y.n := ⟨_, rfl⟩
  obtain ⟨lf, hlf⟩ : ∃ x, x = y.fed.length := ⟨_, rfl⟩
  obtain ⟨ls, hls⟩ : ∃ x, x = y.devs.length := ⟨_, rfl⟩
  rw [← hn, ← hlf, ← hls] at hyl ⊢
  have hls10 : ls ≤ 10 := by have := hmay.d; omega
  clear hn hlf hls hmay hop hd1 y0 y1 y2 y3
  have HYL := hide' hyl
  have HAT := hide' hat
  have HB2 : Hid (Below w.heap.size w w2) := HB1.out.trans (hb2.mono HB1.out.size)
  clear hyl hat hb2 HB1 HY1
  go_upto_region 2 with fail
  have hq3 := alloc_new w2 (.cells #[.int .i64 (n : Int), .slice af lf cf, .slice ad 1 cd, .slice as' ls cs] 25)
  have hb3 := below_al w2 (.cells #[.int .i64 (n : Int), .slice af lf cf, .slice ad 1 cd, .slice as' ls cs] 25)
  obtain ⟨w3, hw3⟩ : ∃ x, x = w2.alloc (.cells #[.int .i64 (n : Int), .slice af lf cf, .slice ad 1 cd, .slice as' ls cs] 25) := ⟨_, rfl⟩
  rw [← hw3] at hq3 hb3 ⊢
  obtain ⟨A, hA⟩ : ∃ x, x = w2.heap.size := ⟨_, rfl⟩
  rw [← hA] at hq3
  rw [show (Value.pointer (some { block := w2.heap.size, off := 0 })) = Value.pointer (some { block := A, off := 0 }) by rw [hA]]
  have HL3 : Hid (LP w w3 A n lf ls y af ad as' cf cd cs) := ⟨hq3, by have := HB2.out.size; omega, HB2.out.trans (hb3.mono HB2.out.size), HYL.out, HAT.out.below hb3 (Nat.le_refl _)⟩
  have y0 : w3.cell? ⟨A, 0, none⟩ = some (.int .i64 (n : Int)) := (cells_at hq3 0).trans rfl
  have y1 : w3.cell? ⟨A, 1, none⟩ = some (.slice af lf cf) := (cells_at hq3 1).trans rfl
  have y2 : w3.cell? ⟨A, 2, none⟩ = some (.slice ad 1 cd) := (cells_at hq3 2).trans rfl
  have y3 : w3.cell? ⟨A, 3, none⟩ = some (.slice as' ls cs) := (cells_at hq3 3).trans rfl
  have HS3 := hide' (safe_good y n lf ls af ad as' cf cd cs w3 HL3.out.yl HL3.out.lies)
  clear hq3 hb3 hw3 hA HB2 HYL HAT
  go_wp2_with fail
  refine HS3.out.mono ?_
  rintro e w4 ⟨rfl, hb4⟩
  have HL4 : Hid (LP w w4 A n lf ls y af ad as' cf cd cs) := HL3.out.more hb4
  clear HL3 HS3 hb4 y0 y1 y2 y3
  go_wp2_with fail
  go_loopw [6] (fun i wr => ∃ (k : Nat) (y : YardM) (af ad as' : Option Addr) (cf cd cs : Nat), i = .int .i64 k ∧ k ≤ mv.length ∧ Hid (LP w wr A n lf ls y af ad as' cf cd cs)) (fun i _ => mv.length - (intOf i).toNat)
  case atStart => exact ⟨0, y, af, ad, as', cf, cd, cs, rfl, Nat.zero_le _, HL4⟩
  case round =>
    obtain ⟨k, y, af, ad, as', cf, cd, cs, rfl, hk, HLP⟩ := hrel
    have y3 : wr.cell? ⟨A, 3, none⟩ = some (.slice as' ls cs) := (cells_at HLP.out.hA 3).trans rfl
    by_cases hlt : k < mv.length ∧ 0 < ls
    · obtain ⟨hkm, hls0⟩ := hlt
      go_upto_region 7 with fail
      obtain ⟨bm, om, cm', exm, hcm⟩ := ints_cell HM.out k hkm
      simp only [Value.slice.injEq] at exm
      obtain ⟨rfl, _, rfl⟩ := exm
      obtain ⟨j, hj, hpj⟩ := picked_is (mv.getD k 0) ls (HMI.out k hkm) hls0 (by omega)
      obtain ⟨x, hxx⟩ : ∃ x, x = mv.getD k 0 := ⟨_, rfl⟩
      rw [← hxx] at hcm hpj
      have HCM := hide' hcm
      have HPJ := hide' hpj
      clear hcm hpj hxx y3
      refine wp_region_tail (fun W => W.cell? ⟨bm, om + k, none⟩ = some (.int .i64 x) ∧ W.cell? ⟨A, 3, none⟩ = some (.slice as' ls cs)) 8 (by kernel_rfl) ?_
      refine wpAnyT_letter (fun W => LP w W A n lf ls y af ad as' cf cd cs) (HLP.out.more (Below.refl _ wr).drew) ?_
      clear HLP
      rintro z HZ
      refine wpAnyD_takeAt 0 (some 34) (v := ?_) rfl (by kernel_rfl) (by kernel_rfl) (by kernel_rfl) (by kernel_rfl) (by kernel_rfl) (fun _ _ _ h => h) (by exact ⟨up_cell HZ.bel HCM.out, (cells_at HZ.hA 3).trans rfl⟩) (fun o hop => ?_) ?_
      rotate_left
      · injection hop with hop
        subst hop
        refine ⟨rfl, fun W hW => ?_⟩
        obtain ⟨s0, s1⟩ := hW
        go_simp
        first
        | rfl
        | (constructor <;> rfl)
        | rw [if_neg (by omega)]
      try simp only [Act.put, List.setIfInBounds_toArray, List.set_cons_zero, List.set_cons_succ]
      refine wpAnyD_takeAt 1 (some 35) (v := ?_) rfl (by kernel_rfl) (by kernel_rfl) (by kernel_rfl) (by kernel_rfl) (by kernel_rfl) (fun _ _ _ h => h) (by exact ⟨up_cell HZ.bel HCM.out, (cells_at HZ.hA 3).trans rfl⟩) (fun o hop => ?_) ?_
      rotate_left
      · injection hop with hop
        subst hop
        refine ⟨rfl, fun W hW => ?_⟩
        obtain ⟨s0, s1⟩ := hW
        go_simp
        first
        | rfl
        | (constructor <;> rfl)
        | rw [if_neg (by omega)]
      try simp only [Act.put, List.setIfInBounds_toArray, List.set_cons_zero, List.set_cons_succ]
      refine wpAnyD_takeAt 2 (some 36) (v := ?_) rfl (by kernel_rfl) (by kernel_rfl) (by kernel_rfl) (by kernel_rfl) (by kernel_rfl) (fun _ _ _ h => h) (by exact ⟨up_cell HZ.bel HCM.out, (cells_at HZ.hA 3).trans rfl⟩) (fun o hop => ?_) ?_
      rotate_left
      · injection hop with hop
        subst hop
        refine ⟨rfl, fun W hW => ?_⟩
        obtain ⟨s0, s1⟩ := hW
        go_simp
        first
        | rfl
        | (constructor <;> rfl)
        | rw [if_neg (by omega)]
      try simp only [Act.put, List.setIfInBounds_toArray, List.set_cons_zero, List.set_cons_succ]
      refine wpAnyD_takeAt 3 (some 37) (v := ?_) rfl (by kernel_rfl) (by kernel_rfl) (by kernel_rfl) (by kernel_rfl) (by kernel_rfl) (fun _ _ _ h => h) (by exact ⟨up_cell HZ.bel HCM.out, (cells_at HZ.hA 3).trans rfl⟩) (fun o hop => ?_) ?_
      rotate_left
      · injection hop with hop
        subst hop
        refine ⟨rfl, fun W hW => ?_⟩
        obtain ⟨s0, s1⟩ := hW
        go_simp
        first
        | rfl
        | (constructor <;> rfl)
        | rw [if_neg (by omega)]
      try simp only [Act.put, List.setIfInBounds_toArray, List.set_cons_zero, List.set_cons_succ]
      refine wpAnyD_takeAt 4 (some 38) (v := ?_) rfl (by kernel_rfl) (by kernel_rfl) (by kernel_rfl) (by kernel_rfl) (by kernel_rfl) (fun _ _ _ h => h) (by exact ⟨up_cell HZ.bel HCM.out, (cells_at HZ.hA 3).trans rfl⟩) (fun o hop => ?_) ?_
      rotate_left
      · injection hop with hop
        subst hop
        refine ⟨rfl, fun W hW => ?_⟩
        obtain ⟨s0, s1⟩ := hW
        go_simp
        first
        | rfl
        | (constructor <;> rfl)
        | rw [if_neg (by omega)]
      try simp only [Act.put, List.setIfInBounds_toArray, List.set_cons_zero, List.set_cons_succ]
      refine wpAnyD_takeAt 5 (some 39) (v := ?_) rfl (by kernel_rfl) (by kernel_rfl) (by kernel_rfl) (by kernel_rfl) (by kernel_rfl) (fun _ _ _ h => h) (by exact ⟨up_cell HZ.bel HCM.out, (cells_at HZ.hA 3).trans rfl⟩) (fun o hop => ?_) ?_
      rotate_left
      · injection hop with hop
        subst hop
        refine ⟨rfl, fun W hW => ?_⟩
        obtain ⟨s0, s1⟩ := hW
        go_simp
        first
        | rfl
        | (constructor <;> rfl)
        | rw [if_neg (by omega)]
      try simp only [Act.put, List.setIfInBounds_toArray, List.set_cons_zero, List.set_cons_succ]
      refine wpAnyD_takeAt 6 (some 40) (v := ?_) rfl (by kernel_rfl) (by kernel_rfl) (by kernel_rfl) (by kernel_rfl) (by kernel_rfl) (fun _ _ _ h => h) (by exact ⟨up_cell HZ.bel HCM.out, (cells_at HZ.hA 3).trans rfl⟩) (fun o hop => ?_) ?_
      rotate_left
      · injection hop with hop
        subst hop
        refine ⟨rfl, fun W hW => ?_⟩
        obtain ⟨s0, s1⟩ := hW
        go_simp
        first
        | rfl
        | (constructor <;> rfl)
        | rw [if_neg (by omega)]
      try simp only [Act.put, List.setIfInBounds_toArray, List.set_cons_zero, List.set_cons_succ]
      refine wpAnyT_one (i := 7) (by kernel_rfl) rfl rfl (fun K' hK => ?_)
      go_simp
      go_at_call 17
      refine (HPJ.out _).mono ?_
      rintro e z' ⟨rfl, hzz⟩
      obtain rfl := hzz.symm
      refine hK.out _ _ (fun _ => by exact ⟨up_cell HZ.bel HCM.out, (cells_at HZ.hA 3).trans rfl⟩) ?_
      clear hK K'
      refine wpAnyT_one (i := 8) (by kernel_rfl) rfl rfl (fun K' hK => ?_)
      go_simp
      refine hK.out _ _ (fun h => absurd rfl h) ?_
      clear hK K'
      refine wpAnyT_done (by kernel_rfl) ?_ _
      have HZZ := hide' HZ
      have y0 : z.cell? ⟨A, 0, none⟩ = some (.int .i64 (n : Int)) := (cells_at HZ.hA 0).trans rfl
      have y1 : z.cell? ⟨A, 1, none⟩ = some (.slice af lf cf) := (cells_at HZ.hA 1).trans rfl
      have y2 : z.cell? ⟨A, 2, none⟩ = some (.slice ad 1 cd) := (cells_at HZ.hA 2).trans rfl
      have y3 : z.cell? ⟨A, 3, none⟩ = some (.slice as' ls cs) := (cells_at HZ.hA 3).trans rfl
      have HMG := hide' (Move_good y n lf ls j af ad as' cf cd cs z HZ.yl HZ.lies hj)
      clear HZ HPJ HCM
      go_wp2_with fail
      refine HMG.out.mono ?_
      rintro e z2 ⟨hcase, hb2⟩
      have HZ2 : Hid (LP w z2 A n lf ls y af ad as' cf cd cs) := HZZ.out.more hb2
      clear HZZ HMG hb2 y0 y1 y2 y3
      rcases hcase with ⟨hne, rfl⟩ | ⟨h0, bf, bd, bs, ef, ed, es, rfl, hat2⟩
      · obtain ⟨hn14, hn4⟩ := err_kind y j
        obtain ⟨er, her⟩ : ∃ x, x = moveErr y j := ⟨_, rfl⟩
        rw [← her] at hne hn14 hn4 ⊢
        have q0 : (er != 0) = true := by simpa using hne
        have q1 : (er == 14) = false := by simpa using hn14
        have q2 : (er == 4) = false := by simpa using hn4
        clear her hne hn14 hn4
        have HZ3 : Hid (∀ o, LP w (z2.alloc o) A n lf ls y af ad as' cf cd cs) := fun o => HZ2.out.more (below_al z2 o)
        clear HZ2
        unfold zero4
        go_wp2_with fail
        go_roundw
        case rel => exact ⟨k + 1, y, af, ad, as', cf, cd, cs, by go_num, by omega, HZ3.out _⟩
        case measure => simp [intOf]; omega
      · go_upto_region 12 with fail
        have hq3 := alloc_new z2 (.cells #[.int .i64 (n : Int), .slice bf lf ef, .slice bd 1 ed, .slice bs ls es] 25)
        have hb3 := below_al z2 (.cells #[.int .i64 (n : Int), .slice bf lf ef, .slice bd 1 ed, .slice bs ls es] 25)
        obtain ⟨z3, hz3⟩ : ∃ x, x = z2.alloc (.cells #[.int .i64 (n : Int), .slice bf lf ef, .slice bd 1 ed, .slice bs ls es] 25) := ⟨_, rfl⟩
        rw [← hz3] at hq3 hb3 ⊢
        obtain ⟨Z, hZ⟩ : ∃ x, x = z2.heap.size := ⟨_, rfl⟩
        rw [← hZ] at hq3
        rw [show (Value.pointer (some { block := z2.heap.size, off := 0 })) = Value.pointer (some { block := Z, off := 0 }) by rw [hZ]]
        have HY3 : Hid (LP w z3 A n lf ls y af ad as' cf cd cs) := HZ2.out.more hb3
        have HW3 : Hid (LP w z3 Z n lf ls (y.turn j) bf bd bs ef ed es) := ⟨hq3, by have := HZ2.out.bel.size; omega, HY3.out.bel, HY3.out.yl.turn hj h0, hat2.below hb3 (Nat.le_refl _)⟩
        obtain ⟨zb, zo, rfl, _, hz0⟩ := dev_at HW3.out.lies HW3.out.yl.es hj
        obtain ⟨yb, yo, rfl, hk0, hy0⟩ := dev_at HY3.out.lies HY3.out.yl.es hj
        rw [turn_dev (by rw [HY3.out.yl.es]; exact hj)] at hz0
        have HBS : Hid ((y.dev j).kind = 2 → ∀ d : Int, d ∈ y.drawn → (y.turn j).live.getD d.toNat false = y.live.getD d.toNat false) := fun h d hd => blade_same HY3.out.yl.may (by rw [HY3.out.yl.es]; exact hj) h (err_blade h0 h) hd
        obtain ⟨b, hb⟩ : ∃ x, x = (y.dev j).shut := ⟨_, rfl⟩
        have hz1 : z3.cell? ⟨zb, zo + j * 4 + 3, none⟩ = some (.bool (!b)) := by rw [hb]; exact hz0
        have hy1 : z3.cell? ⟨yb, yo + j * 4 + 3, none⟩ = some (.bool b) := by rw [hb]; exact hy0
        obtain ⟨kd, hkd⟩ : ∃ x, x = (y.dev j).kind := ⟨_, rfl⟩
        rw [← hkd] at hk0 HBS
        have HK0 := hide' hk0
        have c0 : Hid (z3.cell? ⟨Z, 0, none⟩ = some (.int .i64 (n : Int))) := (cells_at HW3.out.hA 0).trans rfl
        have c1 : Hid (z3.cell? ⟨Z, 1, none⟩ = some (.slice bf lf ef)) := (cells_at HW3.out.hA 1).trans rfl
        have c2 : Hid (z3.cell? ⟨Z, 2, none⟩ = some (.slice bd 1 ed)) := (cells_at HW3.out.hA 2).trans rfl
        have c3 : Hid (z3.cell? ⟨Z, 3, none⟩ = some (.slice (some ⟨zb, zo, none⟩) ls es)) := (cells_at HW3.out.hA 3).trans rfl
        have c4 : Hid (z3.cell? ⟨A, 0, none⟩ = some (.int .i64 (n : Int))) := (cells_at HY3.out.hA 0).trans rfl
        have c5 : Hid (z3.cell? ⟨A, 3, none⟩ = some (.slice (some ⟨yb, yo, none⟩) ls cs)) := (cells_at HY3.out.hA 3).trans rfl
        have c6 := hide' hz1
        have c7 := hide' hy1
        have HSF : Hid (∀ W, Below z3.heap.size z3 W → Calls Try.prog 16 #[.agg #[.int .i64 (n : Int), .slice bf lf ef, .slice bd 1 ed, .slice (some ⟨zb, zo, none⟩) ls es]] W fun e w' => e = .returned (.bool true) ∧ Below W.heap.size W w') := fun W hb => safe_good (y.turn j) n lf ls bf bd (some ⟨zb, zo, none⟩) ef ed es W HW3.out.yl (HW3.out.lies.below hb (Nat.le_refl _))
        clear hq3 hb3 hz3 hZ hat2 h0 HZ2 hz0 hy0 hz1 hy1 hk0 hb hkd
        go_cut [95] from 62 to 94 (fun p wc => p = .bool false ∧ Hid (Below z3.heap.size z3 wc))
        case first =>
          refine wp_region_tail (fun W => W.cell? ⟨Z, 0, none⟩ = some (.int .i64 (n : Int)) ∧ W.cell? ⟨Z, 1, none⟩ = some (.slice bf lf ef) ∧ W.cell? ⟨Z, 2, none⟩ = some (.slice bd 1 ed) ∧ W.cell? ⟨Z, 3, none⟩ = some (.slice (some ⟨zb, zo, none⟩) ls es) ∧ W.cell? ⟨A, 0, none⟩ = some (.int .i64 (n : Int)) ∧ W.cell? ⟨A, 3, none⟩ = some (.slice (some ⟨yb, yo, none⟩) ls cs) ∧ W.cell? ⟨zb, zo + j * 4 + 3, none⟩ = some (.bool (!b)) ∧ W.cell? ⟨yb, yo + j * 4 + 3, none⟩ = some (.bool b)) 33 (by kernel_rfl) ?_
          refine wpAnyT_letter (fun W => Below z3.heap.size z3 W) (Below.refl _ z3).drew ?_
          rintro z4 hb4
          refine wpAnyD_takeAt 0 (some 62) (v := ?_) rfl (by kernel_rfl) (by kernel_rfl) (by kernel_rfl) (by kernel_rfl) (by kernel_rfl) (fun _ _ _ h => h) (by exact ⟨up_cell hb4 c0.out, up_cell hb4 c1.out, up_cell hb4 c2.out, up_cell hb4 c3.out, up_cell hb4 c4.out, up_cell hb4 c5.out, up_cell hb4 c6.out, up_cell hb4 c7.out⟩) (fun o hop => ?_) ?_
          rotate_left
          · injection hop with hop
            subst hop
            refine ⟨rfl, fun W hW => ?_⟩
            obtain ⟨s0, s1, s2, s3, s4, s5, s6, s7⟩ := hW
            go_simp
            first
            | rfl
            | (constructor <;> rfl)
            | rw [if_neg (by omega)]
          try simp only [Act.put, List.setIfInBounds_toArray, List.set_cons_zero, List.set_cons_succ]
          refine wpAnyD_takeAt 1 (some 63) (v := ?_) rfl (by kernel_rfl) (by kernel_rfl) (by kernel_rfl) (by kernel_rfl) (by kernel_rfl) (fun _ _ _ h => h) (by exact ⟨up_cell hb4 c0.out, up_cell hb4 c1.out, up_cell hb4 c2.out, up_cell hb4 c3.out, up_cell hb4 c4.out, up_cell hb4 c5.out, up_cell hb4 c6.out, up_cell hb4 c7.out⟩) (fun o hop => ?_) ?_
          rotate_left
          · injection hop with hop
            subst hop
            refine ⟨rfl, fun W hW => ?_⟩
            obtain ⟨s0, s1, s2, s3, s4, s5, s6, s7⟩ := hW
            go_simp
            first
            | rfl
            | (constructor <;> rfl)
            | rw [if_neg (by omega)]
          try simp only [Act.put, List.setIfInBounds_toArray, List.set_cons_zero, List.set_cons_succ]
          refine wpAnyD_takeAt 2 (some 64) (v := ?_) rfl (by kernel_rfl) (by kernel_rfl) (by kernel_rfl) (by kernel_rfl) (by kernel_rfl) (fun _ _ _ h => h) (by exact ⟨up_cell hb4 c0.out, up_cell hb4 c1.out, up_cell hb4 c2.out, up_cell hb4 c3.out, up_cell hb4 c4.out, up_cell hb4 c5.out, up_cell hb4 c6.out, up_cell hb4 c7.out⟩) (fun o hop => ?_) ?_
          rotate_left
          · injection hop with hop
            subst hop
            refine ⟨rfl, fun W hW => ?_⟩
            obtain ⟨s0, s1, s2, s3, s4, s5, s6, s7⟩ := hW
            go_simp
            first
            | rfl
            | (constructor <;> rfl)
            | rw [if_neg (by omega)]
          try simp only [Act.put, List.setIfInBounds_toArray, List.set_cons_zero, List.set_cons_succ]
          refine wpAnyD_takeAt 3 (some 65) (v := ?_) rfl (by kernel_rfl) (by kernel_rfl) (by kernel_rfl) (by kernel_rfl) (by kernel_rfl) (fun _ _ _ h => h) (by exact ⟨up_cell hb4 c0.out, up_cell hb4 c1.out, up_cell hb4 c2.out, up_cell hb4 c3.out, up_cell hb4 c4.out, up_cell hb4 c5.out, up_cell hb4 c6.out, up_cell hb4 c7.out⟩) (fun o hop => ?_) ?_
          rotate_left
          · injection hop with hop
            subst hop
            refine ⟨rfl, fun W hW => ?_⟩
            obtain ⟨s0, s1, s2, s3, s4, s5, s6, s7⟩ := hW
            go_simp
            first
            | rfl
            | (constructor <;> rfl)
            | rw [if_neg (by omega)]
          try simp only [Act.put, List.setIfInBounds_toArray, List.set_cons_zero, List.set_cons_succ]
          refine wpAnyD_takeAt 4 (some 66) (v := ?_) rfl (by kernel_rfl) (by kernel_rfl) (by kernel_rfl) (by kernel_rfl) (by kernel_rfl) (fun _ _ _ h => h) (by exact ⟨up_cell hb4 c0.out, up_cell hb4 c1.out, up_cell hb4 c2.out, up_cell hb4 c3.out, up_cell hb4 c4.out, up_cell hb4 c5.out, up_cell hb4 c6.out, up_cell hb4 c7.out⟩) (fun o hop => ?_) ?_
          rotate_left
          · injection hop with hop
            subst hop
            refine ⟨rfl, fun W hW => ?_⟩
            obtain ⟨s0, s1, s2, s3, s4, s5, s6, s7⟩ := hW
            go_simp
            first
            | rfl
            | (constructor <;> rfl)
            | rw [if_neg (by omega)]
          try simp only [Act.put, List.setIfInBounds_toArray, List.set_cons_zero, List.set_cons_succ]
          refine wpAnyD_takeAt 5 (some 67) (v := ?_) rfl (by kernel_rfl) (by kernel_rfl) (by kernel_rfl) (by kernel_rfl) (by kernel_rfl) (fun _ _ _ h => h) (by exact ⟨up_cell hb4 c0.out, up_cell hb4 c1.out, up_cell hb4 c2.out, up_cell hb4 c3.out, up_cell hb4 c4.out, up_cell hb4 c5.out, up_cell hb4 c6.out, up_cell hb4 c7.out⟩) (fun o hop => ?_) ?_
          rotate_left
          · injection hop with hop
            subst hop
            refine ⟨rfl, fun W hW => ?_⟩
            obtain ⟨s0, s1, s2, s3, s4, s5, s6, s7⟩ := hW
            go_simp
            first
            | rfl
            | (constructor <;> rfl)
            | rw [if_neg (by omega)]
          try simp only [Act.put, List.setIfInBounds_toArray, List.set_cons_zero, List.set_cons_succ]
          refine wpAnyD_takeAt 6 (some 68) (v := ?_) rfl (by kernel_rfl) (by kernel_rfl) (by kernel_rfl) (by kernel_rfl) (by kernel_rfl) (fun _ _ _ h => h) (by exact ⟨up_cell hb4 c0.out, up_cell hb4 c1.out, up_cell hb4 c2.out, up_cell hb4 c3.out, up_cell hb4 c4.out, up_cell hb4 c5.out, up_cell hb4 c6.out, up_cell hb4 c7.out⟩) (fun o hop => ?_) ?_
          rotate_left
          · injection hop with hop
            subst hop
            refine ⟨rfl, fun W hW => ?_⟩
            obtain ⟨s0, s1, s2, s3, s4, s5, s6, s7⟩ := hW
            go_simp
            first
            | rfl
            | (constructor <;> rfl)
            | rw [if_neg (by omega)]
          try simp only [Act.put, List.setIfInBounds_toArray, List.set_cons_zero, List.set_cons_succ]
          refine wpAnyD_takeAt 7 (some 69) (v := ?_) rfl (by kernel_rfl) (by kernel_rfl) (by kernel_rfl) (by kernel_rfl) (by kernel_rfl) (fun _ _ _ h => h) (by exact ⟨up_cell hb4 c0.out, up_cell hb4 c1.out, up_cell hb4 c2.out, up_cell hb4 c3.out, up_cell hb4 c4.out, up_cell hb4 c5.out, up_cell hb4 c6.out, up_cell hb4 c7.out⟩) (fun o hop => ?_) ?_
          rotate_left
          · injection hop with hop
            subst hop
            refine ⟨rfl, fun W hW => ?_⟩
            obtain ⟨s0, s1, s2, s3, s4, s5, s6, s7⟩ := hW
            go_simp
            first
            | rfl
            | (constructor <;> rfl)
            | rw [if_neg (by omega)]
          try simp only [Act.put, List.setIfInBounds_toArray, List.set_cons_zero, List.set_cons_succ]
          refine wpAnyD_takeAt 8 (some 70) (v := ?_) rfl (by kernel_rfl) (by kernel_rfl) (by kernel_rfl) (by kernel_rfl) (by kernel_rfl) (fun _ _ _ h => h) (by exact ⟨up_cell hb4 c0.out, up_cell hb4 c1.out, up_cell hb4 c2.out, up_cell hb4 c3.out, up_cell hb4 c4.out, up_cell hb4 c5.out, up_cell hb4 c6.out, up_cell hb4 c7.out⟩) (fun o hop => ?_) ?_
          rotate_left
          · injection hop with hop
            subst hop
            refine ⟨rfl, fun W hW => ?_⟩
            obtain ⟨s0, s1, s2, s3, s4, s5, s6, s7⟩ := hW
            go_simp
            first
            | rfl
            | (constructor <;> rfl)
            | rw [if_neg (by omega)]
          try simp only [Act.put, List.setIfInBounds_toArray, List.set_cons_zero, List.set_cons_succ]
          refine wpAnyD_takeAt 9 (some 71) (v := ?_) rfl (by kernel_rfl) (by kernel_rfl) (by kernel_rfl) (by kernel_rfl) (by kernel_rfl) (fun _ _ _ h => h) (by exact ⟨up_cell hb4 c0.out, up_cell hb4 c1.out, up_cell hb4 c2.out, up_cell hb4 c3.out, up_cell hb4 c4.out, up_cell hb4 c5.out, up_cell hb4 c6.out, up_cell hb4 c7.out⟩) (fun o hop => ?_) ?_
          rotate_left
          · injection hop with hop
            subst hop
            refine ⟨rfl, fun W hW => ?_⟩
            obtain ⟨s0, s1, s2, s3, s4, s5, s6, s7⟩ := hW
            go_simp
            first
            | rfl
            | (constructor <;> rfl)
            | rw [if_neg (by omega)]
          try simp only [Act.put, List.setIfInBounds_toArray, List.set_cons_zero, List.set_cons_succ]
          refine wpAnyD_takeAt 10 (some 72) (v := ?_) rfl (by kernel_rfl) (by kernel_rfl) (by kernel_rfl) (by kernel_rfl) (by kernel_rfl) (fun _ _ _ h => h) (by exact ⟨up_cell hb4 c0.out, up_cell hb4 c1.out, up_cell hb4 c2.out, up_cell hb4 c3.out, up_cell hb4 c4.out, up_cell hb4 c5.out, up_cell hb4 c6.out, up_cell hb4 c7.out⟩) (fun o hop => ?_) ?_
          rotate_left
          · injection hop with hop
            subst hop
            refine ⟨rfl, fun W hW => ?_⟩
            obtain ⟨s0, s1, s2, s3, s4, s5, s6, s7⟩ := hW
            go_simp
            first
            | rfl
            | (constructor <;> rfl)
            | rw [if_neg (by omega)]
          try simp only [Act.put, List.setIfInBounds_toArray, List.set_cons_zero, List.set_cons_succ]
          refine wpAnyD_takeAt 11 (some 73) (v := ?_) rfl (by kernel_rfl) (by kernel_rfl) (by kernel_rfl) (by kernel_rfl) (by kernel_rfl) (fun _ _ _ h => h) (by exact ⟨up_cell hb4 c0.out, up_cell hb4 c1.out, up_cell hb4 c2.out, up_cell hb4 c3.out, up_cell hb4 c4.out, up_cell hb4 c5.out, up_cell hb4 c6.out, up_cell hb4 c7.out⟩) (fun o hop => ?_) ?_
          rotate_left
          · injection hop with hop
            subst hop
            refine ⟨rfl, fun W hW => ?_⟩
            obtain ⟨s0, s1, s2, s3, s4, s5, s6, s7⟩ := hW
            go_simp
            first
            | rfl
            | (constructor <;> rfl)
            | rw [if_neg (by omega)]
          try simp only [Act.put, List.setIfInBounds_toArray, List.set_cons_zero, List.set_cons_succ]
          refine wpAnyD_takeAt 12 (some 74) (v := ?_) rfl (by kernel_rfl) (by kernel_rfl) (by kernel_rfl) (by kernel_rfl) (by kernel_rfl) (fun _ _ _ h => h) (by exact ⟨up_cell hb4 c0.out, up_cell hb4 c1.out, up_cell hb4 c2.out, up_cell hb4 c3.out, up_cell hb4 c4.out, up_cell hb4 c5.out, up_cell hb4 c6.out, up_cell hb4 c7.out⟩) (fun o hop => ?_) ?_
          rotate_left
          · injection hop with hop
            subst hop
            refine ⟨rfl, fun W hW => ?_⟩
            obtain ⟨s0, s1, s2, s3, s4, s5, s6, s7⟩ := hW
            go_simp
            first
            | rfl
            | (constructor <;> rfl)
            | rw [if_neg (by omega)]
          try simp only [Act.put, List.setIfInBounds_toArray, List.set_cons_zero, List.set_cons_succ]
          refine wpAnyD_takeAt 13 (some 75) (v := ?_) rfl (by kernel_rfl) (by kernel_rfl) (by kernel_rfl) (by kernel_rfl) (by kernel_rfl) (fun _ _ _ h => h) (by exact ⟨up_cell hb4 c0.out, up_cell hb4 c1.out, up_cell hb4 c2.out, up_cell hb4 c3.out, up_cell hb4 c4.out, up_cell hb4 c5.out, up_cell hb4 c6.out, up_cell hb4 c7.out⟩) (fun o hop => ?_) ?_
          rotate_left
          · injection hop with hop
            subst hop
            refine ⟨rfl, fun W hW => ?_⟩
            obtain ⟨s0, s1, s2, s3, s4, s5, s6, s7⟩ := hW
            go_simp
            first
            | rfl
            | (constructor <;> rfl)
            | rw [if_neg (by omega)]
          try simp only [Act.put, List.setIfInBounds_toArray, List.set_cons_zero, List.set_cons_succ]
          refine wpAnyD_takeAt 14 (some 76) (v := ?_) rfl (by kernel_rfl) (by kernel_rfl) (by kernel_rfl) (by kernel_rfl) (by kernel_rfl) (fun _ _ _ h => h) (by exact ⟨up_cell hb4 c0.out, up_cell hb4 c1.out, up_cell hb4 c2.out, up_cell hb4 c3.out, up_cell hb4 c4.out, up_cell hb4 c5.out, up_cell hb4 c6.out, up_cell hb4 c7.out⟩) (fun o hop => ?_) ?_
          rotate_left
          · injection hop with hop
            subst hop
            refine ⟨rfl, fun W hW => ?_⟩
            obtain ⟨s0, s1, s2, s3, s4, s5, s6, s7⟩ := hW
            go_simp
            first
            | rfl
            | (constructor <;> rfl)
            | rw [if_neg (by omega)]
          try simp only [Act.put, List.setIfInBounds_toArray, List.set_cons_zero, List.set_cons_succ]
          refine wpAnyD_takeAt 15 (some 77) (v := ?_) rfl (by kernel_rfl) (by kernel_rfl) (by kernel_rfl) (by kernel_rfl) (by kernel_rfl) (fun _ _ _ h => h) (by exact ⟨up_cell hb4 c0.out, up_cell hb4 c1.out, up_cell hb4 c2.out, up_cell hb4 c3.out, up_cell hb4 c4.out, up_cell hb4 c5.out, up_cell hb4 c6.out, up_cell hb4 c7.out⟩) (fun o hop => ?_) ?_
          rotate_left
          · injection hop with hop
            subst hop
            refine ⟨rfl, fun W hW => ?_⟩
            obtain ⟨s0, s1, s2, s3, s4, s5, s6, s7⟩ := hW
            go_simp
            first
            | rfl
            | (constructor <;> rfl)
            | rw [if_neg (by omega)]
          try simp only [Act.put, List.setIfInBounds_toArray, List.set_cons_zero, List.set_cons_succ]
          refine wpAnyT_one (i := 16) (by kernel_rfl) rfl rfl (fun K' hK => ?_)
          go_simp
          go_at_call 16
          refine (HSF.out z4 hb4).mono ?_
          rintro e z5 ⟨rfl, hb5⟩
          replace hb5 := hb4.trans (hb5.mono hb4.size)
          refine hK.out _ _ (fun _ => by exact ⟨up_cell hb5 c0.out, up_cell hb5 c1.out, up_cell hb5 c2.out, up_cell hb5 c3.out, up_cell hb5 c4.out, up_cell hb5 c5.out, up_cell hb5 c6.out, up_cell hb5 c7.out⟩) ?_
          clear hK K'
          refine wpAnyD_takeAt 17 (some 79) (v := ?_) rfl (by kernel_rfl) (by kernel_rfl) (by kernel_rfl) (by kernel_rfl) (by kernel_rfl) (fun _ _ _ h => h) (by exact ⟨up_cell hb5 c0.out, up_cell hb5 c1.out, up_cell hb5 c2.out, up_cell hb5 c3.out, up_cell hb5 c4.out, up_cell hb5 c5.out, up_cell hb5 c6.out, up_cell hb5 c7.out⟩) (fun o hop => ?_) ?_
          rotate_left
          · injection hop with hop
            subst hop
            refine ⟨rfl, fun W hW => ?_⟩
            obtain ⟨s0, s1, s2, s3, s4, s5, s6, s7⟩ := hW
            go_simp
            first
            | rfl
            | (constructor <;> rfl)
            | rw [if_neg (by omega)]
          try simp only [Act.put, List.setIfInBounds_toArray, List.set_cons_zero, List.set_cons_succ]
          refine wpAnyD_takeAt 18 (some 80) (v := ?_) rfl (by kernel_rfl) (by kernel_rfl) (by kernel_rfl) (by kernel_rfl) (by kernel_rfl) (fun _ _ _ h => h) (by exact ⟨up_cell hb5 c0.out, up_cell hb5 c1.out, up_cell hb5 c2.out, up_cell hb5 c3.out, up_cell hb5 c4.out, up_cell hb5 c5.out, up_cell hb5 c6.out, up_cell hb5 c7.out⟩) (fun o hop => ?_) ?_
          rotate_left
          · injection hop with hop
            subst hop
            refine ⟨rfl, fun W hW => ?_⟩
            obtain ⟨s0, s1, s2, s3, s4, s5, s6, s7⟩ := hW
            go_simp
            first
            | rfl
            | (constructor <;> rfl)
            | rw [if_neg (by omega)]
          try simp only [Act.put, List.setIfInBounds_toArray, List.set_cons_zero, List.set_cons_succ]
          refine wpAnyD_takeAt 19 (some 81) (v := ?_) rfl (by kernel_rfl) (by kernel_rfl) (by kernel_rfl) (by kernel_rfl) (by kernel_rfl) (fun _ _ _ h => h) (by exact ⟨up_cell hb5 c0.out, up_cell hb5 c1.out, up_cell hb5 c2.out, up_cell hb5 c3.out, up_cell hb5 c4.out, up_cell hb5 c5.out, up_cell hb5 c6.out, up_cell hb5 c7.out⟩) (fun o hop => ?_) ?_
          rotate_left
          · injection hop with hop
            subst hop
            refine ⟨rfl, fun W hW => ?_⟩
            obtain ⟨s0, s1, s2, s3, s4, s5, s6, s7⟩ := hW
            go_simp
            first
            | rfl
            | (constructor <;> rfl)
            | rw [if_neg (by omega)]
          try simp only [Act.put, List.setIfInBounds_toArray, List.set_cons_zero, List.set_cons_succ]
          refine wpAnyD_takeAt 20 (some 82) (v := ?_) rfl (by kernel_rfl) (by kernel_rfl) (by kernel_rfl) (by kernel_rfl) (by kernel_rfl) (fun _ _ _ h => h) (by exact ⟨up_cell hb5 c0.out, up_cell hb5 c1.out, up_cell hb5 c2.out, up_cell hb5 c3.out, up_cell hb5 c4.out, up_cell hb5 c5.out, up_cell hb5 c6.out, up_cell hb5 c7.out⟩) (fun o hop => ?_) ?_
          rotate_left
          · injection hop with hop
            subst hop
            refine ⟨rfl, fun W hW => ?_⟩
            obtain ⟨s0, s1, s2, s3, s4, s5, s6, s7⟩ := hW
            go_simp
            first
            | rfl
            | (constructor <;> rfl)
            | rw [if_neg (by omega)]
          try simp only [Act.put, List.setIfInBounds_toArray, List.set_cons_zero, List.set_cons_succ]
          refine wpAnyD_takeAt 21 (some 83) (v := ?_) rfl (by kernel_rfl) (by kernel_rfl) (by kernel_rfl) (by kernel_rfl) (by kernel_rfl) (fun _ _ _ h => h) (by exact ⟨up_cell hb5 c0.out, up_cell hb5 c1.out, up_cell hb5 c2.out, up_cell hb5 c3.out, up_cell hb5 c4.out, up_cell hb5 c5.out, up_cell hb5 c6.out, up_cell hb5 c7.out⟩) (fun o hop => ?_) ?_
          rotate_left
          · injection hop with hop
            subst hop
            refine ⟨rfl, fun W hW => ?_⟩
            obtain ⟨s0, s1, s2, s3, s4, s5, s6, s7⟩ := hW
            go_simp
            first
            | rfl
            | (constructor <;> rfl)
            | rw [if_neg (by omega)]
          try simp only [Act.put, List.setIfInBounds_toArray, List.set_cons_zero, List.set_cons_succ]
          refine wpAnyD_takeAt 22 (some 84) (v := ?_) rfl (by kernel_rfl) (by kernel_rfl) (by kernel_rfl) (by kernel_rfl) (by kernel_rfl) (fun _ _ _ h => h) (by exact ⟨up_cell hb5 c0.out, up_cell hb5 c1.out, up_cell hb5 c2.out, up_cell hb5 c3.out, up_cell hb5 c4.out, up_cell hb5 c5.out, up_cell hb5 c6.out, up_cell hb5 c7.out⟩) (fun o hop => ?_) ?_
          rotate_left
          · injection hop with hop
            subst hop
            refine ⟨rfl, fun W hW => ?_⟩
            obtain ⟨s0, s1, s2, s3, s4, s5, s6, s7⟩ := hW
            go_simp
            first
            | rfl
            | (constructor <;> rfl)
            | rw [if_neg (by omega)]
          try simp only [Act.put, List.setIfInBounds_toArray, List.set_cons_zero, List.set_cons_succ]
          refine wpAnyD_takeAt 23 (some 85) (v := ?_) rfl (by kernel_rfl) (by kernel_rfl) (by kernel_rfl) (by kernel_rfl) (by kernel_rfl) (fun _ _ _ h => h) (by exact ⟨up_cell hb5 c0.out, up_cell hb5 c1.out, up_cell hb5 c2.out, up_cell hb5 c3.out, up_cell hb5 c4.out, up_cell hb5 c5.out, up_cell hb5 c6.out, up_cell hb5 c7.out⟩) (fun o hop => ?_) ?_
          rotate_left
          · injection hop with hop
            subst hop
            refine ⟨rfl, fun W hW => ?_⟩
            obtain ⟨s0, s1, s2, s3, s4, s5, s6, s7⟩ := hW
            go_simp
            first
            | rfl
            | (constructor <;> rfl)
            | rw [if_neg (by omega)]
          try simp only [Act.put, List.setIfInBounds_toArray, List.set_cons_zero, List.set_cons_succ]
          refine wpAnyD_takeAt 24 (some 86) (v := ?_) rfl (by kernel_rfl) (by kernel_rfl) (by kernel_rfl) (by kernel_rfl) (by kernel_rfl) (fun _ _ _ h => h) (by exact ⟨up_cell hb5 c0.out, up_cell hb5 c1.out, up_cell hb5 c2.out, up_cell hb5 c3.out, up_cell hb5 c4.out, up_cell hb5 c5.out, up_cell hb5 c6.out, up_cell hb5 c7.out⟩) (fun o hop => ?_) ?_
          rotate_left
          · injection hop with hop
            subst hop
            refine ⟨rfl, fun W hW => ?_⟩
            obtain ⟨s0, s1, s2, s3, s4, s5, s6, s7⟩ := hW
            go_simp
            first
            | rfl
            | (constructor <;> rfl)
            | rw [if_neg (by omega)]
          try simp only [Act.put, List.setIfInBounds_toArray, List.set_cons_zero, List.set_cons_succ]
          refine wpAnyD_takeAt 25 (some 87) (v := ?_) rfl (by kernel_rfl) (by kernel_rfl) (by kernel_rfl) (by kernel_rfl) (by kernel_rfl) (fun _ _ _ h => h) (by exact ⟨up_cell hb5 c0.out, up_cell hb5 c1.out, up_cell hb5 c2.out, up_cell hb5 c3.out, up_cell hb5 c4.out, up_cell hb5 c5.out, up_cell hb5 c6.out, up_cell hb5 c7.out⟩) (fun o hop => ?_) ?_
          rotate_left
          · injection hop with hop
            subst hop
            refine ⟨rfl, fun W hW => ?_⟩
            obtain ⟨s0, s1, s2, s3, s4, s5, s6, s7⟩ := hW
            go_simp
            first
            | rfl
            | (constructor <;> rfl)
            | rw [if_neg (by omega)]
          try simp only [Act.put, List.setIfInBounds_toArray, List.set_cons_zero, List.set_cons_succ]
          refine wpAnyD_takeAt 26 (some 88) (v := ?_) rfl (by kernel_rfl) (by kernel_rfl) (by kernel_rfl) (by kernel_rfl) (by kernel_rfl) (fun _ _ _ h => h) (by exact ⟨up_cell hb5 c0.out, up_cell hb5 c1.out, up_cell hb5 c2.out, up_cell hb5 c3.out, up_cell hb5 c4.out, up_cell hb5 c5.out, up_cell hb5 c6.out, up_cell hb5 c7.out⟩) (fun o hop => ?_) ?_
          rotate_left
          · injection hop with hop
            subst hop
            refine ⟨rfl, fun W hW => ?_⟩
            obtain ⟨s0, s1, s2, s3, s4, s5, s6, s7⟩ := hW
            go_simp
            first
            | rfl
            | (constructor <;> rfl)
            | rw [if_neg (by omega)]
          try simp only [Act.put, List.setIfInBounds_toArray, List.set_cons_zero, List.set_cons_succ]
          refine wpAnyD_takeAt 27 (some 89) (v := ?_) rfl (by kernel_rfl) (by kernel_rfl) (by kernel_rfl) (by kernel_rfl) (by kernel_rfl) (fun _ _ _ h => h) (by exact ⟨up_cell hb5 c0.out, up_cell hb5 c1.out, up_cell hb5 c2.out, up_cell hb5 c3.out, up_cell hb5 c4.out, up_cell hb5 c5.out, up_cell hb5 c6.out, up_cell hb5 c7.out⟩) (fun o hop => ?_) ?_
          rotate_left
          · injection hop with hop
            subst hop
            refine ⟨rfl, fun W hW => ?_⟩
            obtain ⟨s0, s1, s2, s3, s4, s5, s6, s7⟩ := hW
            go_simp
            first
            | rfl
            | (constructor <;> rfl)
            | rw [if_neg (by omega)]
          try simp only [Act.put, List.setIfInBounds_toArray, List.set_cons_zero, List.set_cons_succ]
          refine wpAnyD_takeAt 28 (some 90) (v := ?_) rfl (by kernel_rfl) (by kernel_rfl) (by kernel_rfl) (by kernel_rfl) (by kernel_rfl) (fun _ _ _ h => h) (by exact ⟨up_cell hb5 c0.out, up_cell hb5 c1.out, up_cell hb5 c2.out, up_cell hb5 c3.out, up_cell hb5 c4.out, up_cell hb5 c5.out, up_cell hb5 c6.out, up_cell hb5 c7.out⟩) (fun o hop => ?_) ?_
          rotate_left
          · injection hop with hop
            subst hop
            refine ⟨rfl, fun W hW => ?_⟩
            obtain ⟨s0, s1, s2, s3, s4, s5, s6, s7⟩ := hW
            go_simp
            first
            | rfl
            | (constructor <;> rfl)
            | rw [if_neg (by omega)]
          try simp only [Act.put, List.setIfInBounds_toArray, List.set_cons_zero, List.set_cons_succ]
          refine wpAnyD_takeAt 29 (some 91) (v := ?_) rfl (by kernel_rfl) (by kernel_rfl) (by kernel_rfl) (by kernel_rfl) (by kernel_rfl) (fun _ _ _ h => h) (by exact ⟨up_cell hb5 c0.out, up_cell hb5 c1.out, up_cell hb5 c2.out, up_cell hb5 c3.out, up_cell hb5 c4.out, up_cell hb5 c5.out, up_cell hb5 c6.out, up_cell hb5 c7.out⟩) (fun o hop => ?_) ?_
          rotate_left
          · injection hop with hop
            subst hop
            refine ⟨rfl, fun W hW => ?_⟩
            obtain ⟨s0, s1, s2, s3, s4, s5, s6, s7⟩ := hW
            go_simp
            first
            | rfl
            | (constructor <;> rfl)
            | rw [if_neg (by omega)]
          try simp only [Act.put, List.setIfInBounds_toArray, List.set_cons_zero, List.set_cons_succ]
          refine wpAnyD_takeAt 30 (some 92) (v := ?_) rfl (by kernel_rfl) (by kernel_rfl) (by kernel_rfl) (by kernel_rfl) (by kernel_rfl) (fun _ _ _ h => h) (by exact ⟨up_cell hb5 c0.out, up_cell hb5 c1.out, up_cell hb5 c2.out, up_cell hb5 c3.out, up_cell hb5 c4.out, up_cell hb5 c5.out, up_cell hb5 c6.out, up_cell hb5 c7.out⟩) (fun o hop => ?_) ?_
          rotate_left
          · injection hop with hop
            subst hop
            refine ⟨rfl, fun W hW => ?_⟩
            obtain ⟨s0, s1, s2, s3, s4, s5, s6, s7⟩ := hW
            go_simp
            first
            | rfl
            | (constructor <;> rfl)
            | rw [if_neg (by omega)]
          try simp only [Act.put, List.setIfInBounds_toArray, List.set_cons_zero, List.set_cons_succ]
          refine wpAnyD_takeAt 31 (some 93) (v := ?_) rfl (by kernel_rfl) (by kernel_rfl) (by kernel_rfl) (by kernel_rfl) (by kernel_rfl) (fun _ _ _ h => h) (by exact ⟨up_cell hb5 c0.out, up_cell hb5 c1.out, up_cell hb5 c2.out, up_cell hb5 c3.out, up_cell hb5 c4.out, up_cell hb5 c5.out, up_cell hb5 c6.out, up_cell hb5 c7.out⟩) (fun o hop => ?_) ?_
          rotate_left
          · injection hop with hop
            subst hop
            refine ⟨rfl, fun W hW => ?_⟩
            obtain ⟨s0, s1, s2, s3, s4, s5, s6, s7⟩ := hW
            go_simp
            first
            | rfl
            | (constructor <;> rfl)
            | rw [if_neg (by omega)]
          try simp only [Act.put, List.setIfInBounds_toArray, List.set_cons_zero, List.set_cons_succ]
          refine wpAnyD_takeAt 32 (some 94) (v := ?_) rfl (by kernel_rfl) (by kernel_rfl) (by kernel_rfl) (by kernel_rfl) (by kernel_rfl) (fun _ _ _ h => h) (by exact ⟨up_cell hb5 c0.out, up_cell hb5 c1.out, up_cell hb5 c2.out, up_cell hb5 c3.out, up_cell hb5 c4.out, up_cell hb5 c5.out, up_cell hb5 c6.out, up_cell hb5 c7.out⟩) (fun o hop => ?_) ?_
          rotate_left
          · injection hop with hop
            subst hop
            refine ⟨rfl, fun W hW => ?_⟩
            obtain ⟨s0, s1, s2, s3, s4, s5, s6, s7⟩ := hW
            go_simp
            first
            | rfl
            | (constructor <;> rfl)
            | rw [if_neg (by omega)]
          try simp only [Act.put, List.setIfInBounds_toArray, List.set_cons_zero, List.set_cons_succ]
          refine wpAnyT_one (i := 33) (by kernel_rfl) rfl rfl (fun K' hK => ?_)
          go_simp
          refine hK.out _ _ (fun h => absurd rfl h) ?_
          clear hK K'
          refine wpAnyT_done (by kernel_rfl) ?_ _
          have HB5 := hide' hb5
          clear hb5 hb4
          go_wp2_with fail
          go_meet
          case rel => exact ⟨by cases b <;> rfl, HB5⟩
        case rest =>
          obtain ⟨rfl, HB5⟩ := hcut
          have HY5 := hide' (HY3.out.more HB5.out)
          have HW5 := hide' (HW3.out.more HB5.out)
          have HK5 := hide' (up_cell HB5.out HK0.out)
          clear HY3 HW3 HK0 HB5 HSF c0 c1 c2 c3 c4 c5 c6 c7
          have y0 : wc.cell? ⟨A, 0, none⟩ = some (.int .i64 (n : Int)) := (cells_at HY5.out.hA 0).trans rfl
          have y1 : wc.cell? ⟨A, 1, none⟩ = some (.slice af lf cf) := (cells_at HY5.out.hA 1).trans rfl
          have y2 : wc.cell? ⟨A, 2, none⟩ = some (.slice ad 1 cd) := (cells_at HY5.out.hA 2).trans rfl
          have y3 : wc.cell? ⟨A, 3, none⟩ = some (.slice (some ⟨yb, yo, none⟩) ls cs) := (cells_at HY5.out.hA 3).trans rfl
          have HL1 := hide' (Look_good y n lf ls af ad (some ⟨yb, yo, none⟩) cf cd cs wc HY5.out.yl HY5.out.lies)
          go_wp2_with fail
          refine HL1.out.mono ?_
          rintro e z6 ⟨L1, E1, rfl, hl1, hb6⟩
          have HY6 := hide' (HY5.out.more hb6)
          have HW6 := hide' (HW5.out.more hb6)
          have HK6 := hide' (up_cell hb6 HK5.out)
          have HLL1 := hide' hl1
          clear y0 y1 y2 y3 HL1 HY5 HW5 HK5 hb6 hl1
          have y0 : z6.cell? ⟨Z, 0, none⟩ = some (.int .i64 (n : Int)) := (cells_at HW6.out.hA 0).trans rfl
          have y1 : z6.cell? ⟨Z, 1, none⟩ = some (.slice bf lf ef) := (cells_at HW6.out.hA 1).trans rfl
          have y2 : z6.cell? ⟨Z, 2, none⟩ = some (.slice bd 1 ed) := (cells_at HW6.out.hA 2).trans rfl
          have y3 : z6.cell? ⟨Z, 3, none⟩ = some (.slice (some ⟨zb, zo, none⟩) ls es) := (cells_at HW6.out.hA 3).trans rfl
          have HL2 := hide' (Look_good (y.turn j) n lf ls bf bd (some ⟨zb, zo, none⟩) ef ed es z6 HW6.out.yl HW6.out.lies)
          go_wp2_with fail
          refine HL2.out.mono ?_
          rintro e z7 ⟨L2, E2, rfl, hl2, hb7⟩
          have HY7 := hide' (HY6.out.more hb7)
          have HW7 := hide' (HW6.out.more hb7)
          obtain ⟨db, do', d, rfl, hdc, hdn, hdm⟩ := drawn_at HY7.out.lies HY7.out.yl.ed HY7.out.yl.may HY7.out.yl.en
          have e1 : z7.cell? ⟨L1, d, none⟩ = some (.bool (y.live.getD d false)) := up_cell hb7 (HLL1.out d hdn)
          have e2 : z7.cell? ⟨L2, d, none⟩ = some (.bool ((y.turn j).live.getD d false)) := hl2 d hdn
          have hbs : kd = 2 → (y.turn j).live.getD d false = y.live.getD d false := fun h => HBS.out h (d : Int) hdm
          have e3 : z7.cell? ⟨yb, yo + j * 4, none⟩ = some (.int .i64 kd) := up_cell hb7 HK6.out
          obtain ⟨v1, hv1⟩ : ∃ x, x = y.live.getD d false := ⟨_, rfl⟩
          obtain ⟨v2, hv2⟩ : ∃ x, x = (y.turn j).live.getD d false := ⟨_, rfl⟩
          rw [← hv1] at e1 hbs
          rw [← hv2] at e2 hbs
          have e0 : z7.cell? ⟨A, 2, none⟩ = some (.slice (some ⟨db, do', none⟩) 1 cd) := (cells_at HY7.out.hA 2).trans rfl
          have e4 : z7.cell? ⟨A, 3, none⟩ = some (.slice (some ⟨yb, yo, none⟩) ls cs) := (cells_at HY7.out.hA 3).trans rfl
          have hn10 : n ≤ 10 := by have := HY7.out.yl.may.p; have := HY7.out.yl.en; omega
          clear hv1 hv2 y0 y1 y2 y3 HL2 HY6 HW6 HK6 hb7 hl2 HLL1 HBS hdm
          go_upto_region 19 with fail
          have HBD : Hid (∀ m, LP w (z7.drewN m) A n lf ls y af (some ⟨db, do', none⟩) (some ⟨yb, yo, none⟩) cf cd cs ∧ LP w (z7.drewN m) Z n lf ls (y.turn j) bf bd (some ⟨zb, zo, none⟩) ef ed es) := fun m => ⟨HY7.out.more (below_drewN (Below.refl _ z7) m), HW7.out.more (below_drewN (Below.refl _ z7) m)⟩
          clear HY7 HW7
          have hq : Hid (kd = 2 → v2 = v1) := hbs
          clear hbs
          have z0 : ∀ m, (z7.drewN m).cell? ⟨Z, 0, none⟩ = some (.int .i64 (n : Int)) := fun m => (cells_at (HBD.out m).2.hA 0).trans rfl
          have z1 : ∀ m, (z7.drewN m).cell? ⟨Z, 1, none⟩ = some (.slice bf lf ef) := fun m => (cells_at (HBD.out m).2.hA 1).trans rfl
          have z2 : ∀ m, (z7.drewN m).cell? ⟨Z, 2, none⟩ = some (.slice bd 1 ed) := fun m => (cells_at (HBD.out m).2.hA 2).trans rfl
          have z3 : ∀ m, (z7.drewN m).cell? ⟨Z, 3, none⟩ = some (.slice (some ⟨zb, zo, none⟩) ls es) := fun m => (cells_at (HBD.out m).2.hA 3).trans rfl
          have a0 : ∀ m, (z7.drewN m).cell? ⟨A, 0, none⟩ = some (.int .i64 (n : Int)) := fun m => (cells_at (HBD.out m).1.hA 0).trans rfl
          have a1 : ∀ m, (z7.drewN m).cell? ⟨A, 1, none⟩ = some (.slice af lf cf) := fun m => (cells_at (HBD.out m).1.hA 1).trans rfl
          have a2 : ∀ m, (z7.drewN m).cell? ⟨A, 2, none⟩ = some (.slice (some ⟨db, do', none⟩) 1 cd) := fun m => (cells_at (HBD.out m).1.hA 2).trans rfl
          have a3 : ∀ m, (z7.drewN m).cell? ⟨A, 3, none⟩ = some (.slice (some ⟨yb, yo, none⟩) ls cs) := fun m => (cells_at (HBD.out m).1.hA 3).trans rfl
          have t0 : ∀ m, (z7.drewN m).frozen? ⟨A, 0, none⟩ = false := fun m => frozen_no (HBD.out m).1.hA 0
          have t1 : ∀ m, (z7.drewN m).frozen? ⟨A, 1, none⟩ = false := fun m => frozen_no (HBD.out m).1.hA 1
          have t2 : ∀ m, (z7.drewN m).frozen? ⟨A, 2, none⟩ = false := fun m => frozen_no (HBD.out m).1.hA 2
          have t3 : ∀ m, (z7.drewN m).frozen? ⟨A, 3, none⟩ = false := fun m => frozen_no (HBD.out m).1.hA 3
          by_cases hkd : kd = 2
          · obtain rfl := hq.out hkd
            subst hkd
            clear hq
            go_quiet (fail)
            go_wp2_with fail
            go_roundw
            case rel => exact ⟨k + 1, y.turn j, bf, bd, some ⟨zb, zo, none⟩, ef, ed, es, by go_num, by omega, (HBD.out _).1.store (HBD.out _).2 hls0⟩
            case measure => simp [intOf]; omega
          · have hkq : (kd == 2) = false := by simpa using hkd
            clear hq hkd
            go_quiet (fail)
            go_wp2_with fail
            go_roundw
            case rel => exact ⟨k + 1, y.turn j, bf, bd, some ⟨zb, zo, none⟩, ef, ed, es, by go_num, by omega, (HBD.out _).1.store (HBD.out _).2 hls0⟩
            case measure => simp [intOf]; omega
    · by_cases hkm : k < mv.length
      · have hl0 : ls = 0 := by omega
        subst hl0
        go_wp2
        go_ret
        exact ⟨rfl, HLP.out.bel⟩
      · go_wp2
        go_ret
        exact ⟨rfl, HLP.out.bel⟩
end Go.Proofs.Ytcnoipcpifackah
