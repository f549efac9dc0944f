/- sameYard of a yard and itself answers true. -/
import Derived.Test.YtcnoipcpifackahZa
import Derived.Test.YtcnoipcpifackahYh
namespace Go.Proofs.Ytcnoipcpifackah
open Go.RowKit Go.Shelf

set_option maxRecDepth 100000 in
set_option maxHeartbeats 2000000 in
theorem sameYard_same (y : YardM) (uf ud us vf vd vs : Option Addr) (ucf ucd ucs vcf vcd vcs : Nat) (w : World) (hu : YardAt w uf ud us ucf ucd ucs y) (hv : YardAt w vf vd vs vcf vcd vcs y) (hf : y.fed.length ≤ 1000) (hd : y.drawn.length ≤ 1000) (hs : y.devs.length ≤ 1000) :
    Calls Try.prog 10 #[.agg #[.int .i64 y.points, .slice uf y.fed.length ucf, .slice ud y.drawn.length ucd, .slice us y.devs.length ucs], .agg #[.int .i64 y.points, .slice vf y.fed.length vcf, .slice vd y.drawn.length vcd, .slice vs y.devs.length vcs]] w fun e w' => e = .returned (.bool true) ∧ Below w.heap.size w w' := by
  have HU := hide' hu
  have HV := hide' hv
  have HSF : Hid (∀ w', Below w.heap.size w w' → Calls Try.prog 14 #[.slice uf y.fed.length ucf, .slice vf y.fed.length vcf] w' fun e w2 => e = .returned (.bool true) ∧ Below w'.heap.size w' w2) := fun w' hb => sameInts_same y.fed y.fed.length _ _ w' (hu.below hb (Nat.le_refl _)).f (hv.below hb (Nat.le_refl _)).f hf
  have HSD : Hid (∀ w', Below w.heap.size w w' → Calls Try.prog 14 #[.slice ud y.drawn.length ucd, .slice vd y.drawn.length vcd] w' fun e w2 => e = .returned (.bool true) ∧ Below w'.heap.size w' w2) := fun w' hb => sameInts_same y.drawn y.drawn.length _ _ w' (hu.below hb (Nat.le_refl _)).d (hv.below hb (Nat.le_refl _)).d hd
  obtain ⟨lf, hlf⟩ : ∃ l, l = y.fed.length := ⟨_, rfl⟩
  obtain ⟨ld, hld⟩ : ∃ l, l = y.drawn.length := ⟨_, rfl⟩
  obtain ⟨ls, hls⟩ : ∃ l, l = y.devs.length := ⟨_, rfl⟩
  obtain ⟨pt, hpt⟩ : ∃ l, l = y.points := ⟨_, rfl⟩
  have HLS := hide' hls
  rw [← hlf] at HSF
  rw [← hld] at HSD
  rw [← hlf, ← hld, ← hls, ← hpt]
  rw [← hls] at hs
  clear hu hv hlf hld hls hpt hf hd
  go_enter Try.func10, Try.ntmps10
  go_upto_region 1 with fail
  have HQ1 := hide' (alloc_new w (.cells #[.int .i64 pt, .slice uf lf ucf, .slice ud ld ucd, .slice us ls ucs] 25))
  have HQ2 := hide' (alloc_new (w.alloc (.cells #[.int .i64 pt, .slice uf lf ucf, .slice ud ld ucd, .slice us ls ucs] 25)) (.cells #[.int .i64 pt, .slice vf lf vcf, .slice vd ld vcd, .slice vs ls vcs] 25))
  have HQ3 := hide' ((alloc_old (w.alloc (.cells #[.int .i64 pt, .slice uf lf ucf, .slice ud ld ucd, .slice us ls ucs] 25)) (.cells #[.int .i64 pt, .slice vf lf vcf, .slice vd ld vcd, .slice vs ls vcs] 25) (Array.getElem?_eq_some_iff.1 HQ1.out).1).trans HQ1.out)
  have HB1 : Hid (Below w.heap.size w ((w.alloc (.cells #[.int .i64 pt, .slice uf lf ucf, .slice ud ld ucd, .slice us ls ucs] 25)).alloc (.cells #[.int .i64 pt, .slice vf lf vcf, .slice vd ld vcd, .slice vs ls vcs] 25))) := (below_al w (.cells #[.int .i64 pt, .slice uf lf ucf, .slice ud ld ucd, .slice us ls ucs] 25)).alloc (below_al w (.cells #[.int .i64 pt, .slice uf lf ucf, .slice ud ld ucd, .slice us ls ucs] 25)).size _
  rw [show (w.alloc (.cells #[.int .i64 pt, .slice uf lf ucf, .slice ud ld ucd, .slice us ls ucs] 25)).heap.size = w.heap.size + 1 from World.size_alloc ..] at HQ2
  obtain ⟨w1, hw1⟩ : ∃ x, x = (w.alloc (.cells #[.int .i64 pt, .slice uf lf ucf, .slice ud ld ucd, .slice us ls ucs] 25)).alloc (.cells #[.int .i64 pt, .slice vf lf vcf, .slice vd ld vcd, .slice vs ls vcs] 25) := ⟨_, rfl⟩
  rw [← hw1] at HQ2 HQ3 HB1 ⊢
  obtain ⟨U, hU⟩ : ∃ U, U = w.heap.size := ⟨_, rfl⟩
  obtain ⟨V, hV⟩ : ∃ V, V = w.heap.size + 1 := ⟨_, rfl⟩
  rw [← hV] at HQ2
  rw [← hU] at HQ3
  rw [show (Value.pointer (some { block := w.heap.size, off := 0 })) = Value.pointer (some { block := U, off := 0 }) by rw [hU]]
  rw [show (Value.pointer (some { block := w.heap.size + 1, off := 0 })) = Value.pointer (some { block := V, off := 0 }) by rw [hV]]
  clear hw1 hU hV HQ1
  have u0 : w1.cell? ⟨U, 0, none⟩ = some (.int .i64 pt) := (cells_at HQ3.out 0).trans rfl
  have v0 : w1.cell? ⟨V, 0, none⟩ = some (.int .i64 pt) := (cells_at HQ2.out 0).trans rfl
  have u1 : w1.cell? ⟨U, 1, none⟩ = some (.slice uf lf ucf) := (cells_at HQ3.out 1).trans rfl
  have v1 : w1.cell? ⟨V, 1, none⟩ = some (.slice vf lf vcf) := (cells_at HQ2.out 1).trans rfl
  have HS1 := hide' (HSF.out w1 HB1.out)
  go_wp2_with fail
  refine HS1.out.mono ?_
  rintro e w2 ⟨rfl, hb2⟩
  have HP2 := hide' ((hb2.block U (Array.getElem?_eq_some_iff.1 HQ3.out).1).trans HQ3.out)
  have HR2 := hide' ((hb2.block V (Array.getElem?_eq_some_iff.1 HQ2.out).1).trans HQ2.out)
  have HB2 : Hid (Below w.heap.size w w2) := HB1.out.trans (hb2.mono HB1.out.size)
  clear HQ2 HQ3 HB1 HS1 hb2 u0 v0 u1 v1
  have u2 : w2.cell? ⟨U, 2, none⟩ = some (.slice ud ld ucd) := (cells_at HP2.out 2).trans rfl
  have v2 : w2.cell? ⟨V, 2, none⟩ = some (.slice vd ld vcd) := (cells_at HR2.out 2).trans rfl
  have HS2 := hide' (HSD.out w2 HB2.out)
  go_wp2_with fail
  refine HS2.out.mono ?_
  rintro e w3 ⟨rfl, hb3⟩
  have HP3 := hide' ((hb3.block U (Array.getElem?_eq_some_iff.1 HP2.out).1).trans HP2.out)
  have HR3 := hide' ((hb3.block V (Array.getElem?_eq_some_iff.1 HR2.out).1).trans HR2.out)
  have HB3 : Hid (Below w.heap.size w w3) := HB2.out.trans (hb3.mono HB2.out.size)
  clear HP2 HR2 HB2 HS2 hb3 u2 v2
  have u3 : w3.cell? ⟨U, 3, none⟩ = some (.slice us ls ucs) := (cells_at HP3.out 3).trans rfl
  have v3 : w3.cell? ⟨V, 3, none⟩ = some (.slice vs ls vcs) := (cells_at HR3.out 3).trans rfl
  go_wp2_with fail
  go_loopw [5] (fun i wr => ∃ (k : Nat), i = .int .i64 k ∧ k ≤ ls ∧ Hid (Below w3.heap.size w3 wr)) (fun i _ => ls - (intOf i).toNat)
  case atStart => exact ⟨0, rfl, Nat.zero_le _, Below.refl _ w3⟩
  case round =>
    obtain ⟨k, rfl, hk, HBE⟩ := hrel
    have x3 := up_cell HBE.out u3
    have z3 := up_cell HBE.out v3
    by_cases hlt : k < ls
    · have HBW := hide' (HB3.out.trans (HBE.out.mono HB3.out.size))
      have HBD : Hid (∀ m, Below w3.heap.size w3 (wr.drewN m)) := fun m => below_drewN HBE.out m
      have HU2 := hide' (HU.out.below HBW.out (Nat.le_refl _)).s
      have HV2 := hide' (HV.out.below HBW.out (Nat.le_refl _)).s
      obtain ⟨b1, o1, c1, ex1, hb1, hc1⟩ := row_elem (f := DevM.cells) (fun _ => rfl) HU2.out k (by rw [← HLS.out]; exact hlt) (by decide)
      cases ex1
      obtain ⟨b2, o2, c2, ex2, hb2, hc2⟩ := row_elem (f := DevM.cells) (fun _ => rfl) HV2.out k (by rw [← HLS.out]; exact hlt) (by decide)
      cases ex2
      obtain ⟨d, hd⟩ : ∃ d, d = y.devs[k]'(by rw [← HLS.out]; exact hlt) := ⟨_, rfl⟩
      rw [← hd] at hc1 hc2
      obtain ⟨x0, x1, x2, x3'⟩ := d
      have d0 := hc1 0 _ rfl
      have d1 := hc1 1 _ rfl
      have d2 := hc1 2 _ rfl
      have d3 := hc1 3 _ rfl
      have q0 := hc2 0 _ rfl
      have q1 := hc2 1 _ rfl
      have q2 := hc2 2 _ rfl
      have q3 := hc2 3 _ rfl
      rw [Nat.add_zero] at d0 q0
      dsimp only at d0 d1 d2 d3 q0 q1 q2 q3
      clear hc1 hc2 hb1 hb2 HU2 HV2 HBW HU HV hd
      go_wp2_with fail
      go_quiet (fail)
      go_wp2
      go_roundw
      case rel => exact ⟨k + 1, by go_num, by omega, HBD.out _⟩
      case measure => simp [intOf]; omega
    · go_wp2
      go_ret
      exact ⟨rfl, HB3.out.trans (HBE.out.mono HB3.out.size)⟩
end Go.Proofs.Ytcnoipcpifackah
