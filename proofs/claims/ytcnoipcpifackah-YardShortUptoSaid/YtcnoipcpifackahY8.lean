/- Look, in the program. -/
import Derived.Test.YtcnoipcpifackahY7
namespace Go.Proofs.Ytcnoipcpifackah
open Go.RowKit Go.Shelf

/-- What Look answers. -/
def LookO (y : YardM) (w : World) (e : Ending) (w' : World) : Prop :=
  ((mayYB y = false ∧ e = .returned (.tuple #[.slice none 0 0, .slice none 0 0, .int .i64 14])) ∨
   (mayYB y = true ∧ ∃ L E, e = .returned (.tuple #[.slice (some ⟨L, 0, none⟩) y.n y.n, .slice (some ⟨E, 0, none⟩) y.n y.n, .int .i64 0]) ∧ w'.ownsRow w.heap.size 4 1 (.slice (some ⟨L, 0, none⟩) y.n y.n) y.n (y.live.map Value.bool) ∧ w'.ownsRow w.heap.size 4 1 (.slice (some ⟨E, 0, none⟩) y.n y.n) y.n (y.earthed.map Value.bool))) ∧ Below w.heap.size w w'
set_option maxRecDepth 100000 in
set_option maxHeartbeats 2000000 in
theorem Look_any (y : YardM) (af ad as' : Option Addr) (cf cd cs : Nat) (w : World) (hy : YardAt w af ad as' cf cd cs y) (hf : y.fed.length ≤ 9000000000000000000) (hd : y.drawn.length ≤ 9000000000000000000) (hs : y.devs.length ≤ 9000000000000000000) :
    Calls Try.prog 18 #[.agg #[.int .i64 y.points, .slice af y.fed.length cf, .slice ad y.drawn.length cd, .slice as' y.devs.length cs]] w (LookO y w) := by
  have HB : Hid (∀ o, Below w.heap.size w (w.alloc o)) := fun o => below_al w o
  have HM : Hid (∀ o, Calls Try.prog 28 #[.agg #[.int .i64 y.points, .slice af y.fed.length cf, .slice ad y.drawn.length cd, .slice as' y.devs.length cs]] (w.alloc o) fun e w' => e = .returned (.bool (mayYB y)) ∧ Below (w.alloc o).heap.size (w.alloc o) w') := fun o => mayBe_any y af ad as' cf cd cs _ (hy.below (HB.out o) (Nat.le_refl _)) hf hd hs
  have HS : Hid (∀ w', Below w.heap.size w w' → MayY y → Calls Try.prog 29 #[.agg #[.int .i64 y.points, .slice af y.fed.length cf, .slice ad y.drawn.length cd, .slice as' y.devs.length cs]] w' fun e w'' => ∃ G cg L E D, e = .returned (.agg #[.int .i64 y.points, .slice af y.fed.length cf, .slice ad y.drawn.length cd, .slice as' y.devs.length cs, .slice (some ⟨G, 0, none⟩) y.n cg, .slice (some ⟨L, 0, none⟩) y.n y.n, .slice (some ⟨E, 0, none⟩) y.n y.n, .slice (some ⟨D, 0, none⟩) y.n y.n]) ∧
      w''.ownsRow w'.heap.size 3 1 (.slice (some ⟨G, 0, none⟩) y.n cg) y.n (ints y.grp) ∧ w''.ownsRow w'.heap.size 4 1 (.slice (some ⟨L, 0, none⟩) y.n y.n) y.n (y.live.map Value.bool) ∧ w''.ownsRow w'.heap.size 4 1 (.slice (some ⟨E, 0, none⟩) y.n y.n) y.n (y.earthed.map Value.bool) ∧ w''.ownsRow w'.heap.size 4 1 (.slice (some ⟨D, 0, none⟩) y.n y.n) y.n (y.load.map Value.bool) ∧ Below w'.heap.size w' w'') := fun w' hb hm => start_any y hm af ad as' cf cd cs w' (hy.below hb (Nat.le_refl _))
  have HI := hide' (mayYB_iff (y := y))
  have HQ := hide' (alloc_new w (.cells #[.int .i64 y.points, .slice af y.fed.length cf, .slice ad y.drawn.length cd, .slice as' y.devs.length cs] 25))
  have HL : Hid (∀ e w', LookO y w e w' = (((mayYB y = false ∧ e = .returned (.tuple #[.slice none 0 0, .slice none 0 0, .int .i64 14])) ∨
   (mayYB y = true ∧ ∃ L E, e = .returned (.tuple #[.slice (some ⟨L, 0, none⟩) y.n y.n, .slice (some ⟨E, 0, none⟩) y.n y.n, .int .i64 0]) ∧ w'.ownsRow w.heap.size 4 1 (.slice (some ⟨L, 0, none⟩) y.n y.n) y.n (y.live.map Value.bool) ∧ w'.ownsRow w.heap.size 4 1 (.slice (some ⟨E, 0, none⟩) y.n y.n) y.n (y.earthed.map Value.bool))) ∧ Below w.heap.size w w')) := fun _ _ => rfl
  obtain ⟨Rq, hRq⟩ : ∃ R, R = LookO y w := ⟨_, rfl⟩
  rw [← hRq] at HL ⊢
  obtain ⟨lf, hlf⟩ : ∃ l, l = y.fed.length := ⟨_, rfl⟩
  obtain ⟨ld, hld⟩ : ∃ l, l = y.drawn.length := ⟨_, rfl⟩
  obtain ⟨ls, hls⟩ : ∃ l, l = y.devs.length := ⟨_, rfl⟩
  obtain ⟨pt, hpt⟩ : ∃ p, p = y.points := ⟨_, rfl⟩
  obtain ⟨nn, hnn⟩ : ∃ p, p = y.n := ⟨_, rfl⟩
  obtain ⟨mb, hmb⟩ : ∃ b, b = mayYB y := ⟨_, rfl⟩
  rw [← hlf, ← hld, ← hls, ← hpt] at HM HS HQ ⊢
  rw [← hnn] at HS HL
  rw [← hmb] at HM HI HL
  clear hlf hld hls hpt hnn hmb hf hd hs hy hRq
  go_enter Try.func18, Try.ntmps18
  go_wp2_with fail
  refine (HM.out _).mono ?_
  rintro e w1 ⟨rfl, hb1⟩
  have HB1 := hide' ((HB.out _).trans (hb1.mono (HB.out _).size))
  have HQ1 := hide' ((hb1.block w.heap.size (by simp)).trans HQ.out)
  clear hb1 HQ HM
  cases mb with
  | false =>
    go_wp2
    refine bodyPost_ret (results_tmp3 rfl _ _ _) rfl ?_
    rw [HL.out]
    exact ⟨.inl ⟨trivial, rfl⟩, HB1.out⟩
  | true =>
    have HS1 := hide' (HS.out w1 HB1.out (HI.out.1 rfl))
    have y0 : w1.cell? ⟨w.heap.size, 0, none⟩ = some (.int .i64 pt) := (cells_at HQ1.out 0).trans rfl
    have y1 : w1.cell? ⟨w.heap.size, 1, none⟩ = some (.slice af lf cf) := (cells_at HQ1.out 1).trans rfl
    have y2 : w1.cell? ⟨w.heap.size, 2, none⟩ = some (.slice ad ld cd) := (cells_at HQ1.out 2).trans rfl
    have y3 : w1.cell? ⟨w.heap.size, 3, none⟩ = some (.slice as' ls cs) := (cells_at HQ1.out 3).trans rfl
    clear HS HI HQ1
    go_wp2_with fail
    refine HS1.out.mono ?_
    rintro e w2 ⟨G, cg, L, E, D, rfl, h1, h2, h3, h4, hb2⟩
    clear y0 y1 y2 y3 HS1
    go_upto_region 4 with fail
    have HBF : Hid (∀ m, Below w.heap.size w ((w2.alloc (.cells #[.int .i64 pt, .slice af lf cf, .slice ad ld cd, .slice as' ls cs, .slice (some ⟨G, 0, none⟩) nn cg, .slice (some ⟨L, 0, none⟩) nn nn, .slice (some ⟨E, 0, none⟩) nn nn, .slice (some ⟨D, 0, none⟩) nn nn] 50)).drewN m)) := fun m => below_drewN ((HB1.out.trans (hb2.mono HB1.out.size)).alloc (HB1.out.trans (hb2.mono HB1.out.size)).size _) m
    have HL7 : Hid (∀ m, ((w2.alloc (.cells #[.int .i64 pt, .slice af lf cf, .slice ad ld cd, .slice as' ls cs, .slice (some ⟨G, 0, none⟩) nn cg, .slice (some ⟨L, 0, none⟩) nn nn, .slice (some ⟨E, 0, none⟩) nn nn, .slice (some ⟨D, 0, none⟩) nn nn] 50)).drewN m).ownsRow w.heap.size 4 1 (.slice (some ⟨L, 0, none⟩) nn nn) nn (y.live.map Value.bool)) := fun m => own_below (own_base h2 HB1.out.size) (below_drewN (below_al w2 _) m) (Nat.le_refl _)
    have HE7 : Hid (∀ m, ((w2.alloc (.cells #[.int .i64 pt, .slice af lf cf, .slice ad ld cd, .slice as' ls cs, .slice (some ⟨G, 0, none⟩) nn cg, .slice (some ⟨L, 0, none⟩) nn nn, .slice (some ⟨E, 0, none⟩) nn nn, .slice (some ⟨D, 0, none⟩) nn nn] 50)).drewN m).ownsRow w.heap.size 4 1 (.slice (some ⟨E, 0, none⟩) nn nn) nn (y.earthed.map Value.bool)) := fun m => own_below (own_base h3 HB1.out.size) (below_drewN (below_al w2 _) m) (Nat.le_refl _)
    have hbx := alloc_new w2 (.cells #[.int .i64 pt, .slice af lf cf, .slice ad ld cd, .slice as' ls cs, .slice (some ⟨G, 0, none⟩) nn cg, .slice (some ⟨L, 0, none⟩) nn nn, .slice (some ⟨E, 0, none⟩) nn nn, .slice (some ⟨D, 0, none⟩) nn nn] 50)
    obtain ⟨w3, hw3⟩ : ∃ x, x = w2.alloc (.cells #[.int .i64 pt, .slice af lf cf, .slice ad ld cd, .slice as' ls cs, .slice (some ⟨G, 0, none⟩) nn cg, .slice (some ⟨L, 0, none⟩) nn nn, .slice (some ⟨E, 0, none⟩) nn nn, .slice (some ⟨D, 0, none⟩) nn nn] 50) := ⟨_, rfl⟩
    obtain ⟨B, hB⟩ : ∃ B, B = w2.heap.size := ⟨_, rfl⟩
    rw [← hw3] at HBF HL7 HE7 hbx ⊢
    rw [← hB] at hbx ⊢
    have c5 : w3.cell? ⟨B, 5, none⟩ = some (.slice (some ⟨L, 0, none⟩) nn nn) := (cells_at hbx 5).trans rfl
    have c6 : w3.cell? ⟨B, 6, none⟩ = some (.slice (some ⟨E, 0, none⟩) nn nn) := (cells_at hbx 6).trans rfl
    clear h1 h2 h3 h4 hb2 hw3 hB hbx
    go_wp2_with fail
    go_quiet (fail)
    go_wp2
    refine bodyPost_ret (results_tmp3 rfl _ _ _) rfl ?_
    rw [HL.out]
    exact ⟨.inr ⟨trivial, L, E, rfl, HL7.out _, HE7.out _⟩, HBF.out _⟩
end Go.Proofs.Ytcnoipcpifackah
