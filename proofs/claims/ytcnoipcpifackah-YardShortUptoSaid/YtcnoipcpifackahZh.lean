/- A yard made of raw numbers. -/
import Derived.Test.YtcnoipcpifackahZg
namespace Go.Proofs.Ytcnoipcpifackah
open Go.RowKit Go.Shelf

structure RawD where
  kind : Int
  a : Int
  b : Int
def RawD.cells (d : RawD) : List Value := [.int .i64 d.kind, .int .i64 d.a, .int .i64 d.b]
structure RawY where
  points : Int
  fed : Int
  drawn : Int
  devs : List RawD
/-- What yardFrom answers. -/
def FromO (w : World) (e : Ending) (w' : World) : Prop := ∃ (y : YardM) (af ad as' : Option Addr) (cf cd cs : Nat), e = .returned (.agg #[.int .i64 y.points, .slice af y.fed.length cf, .slice ad y.drawn.length cd, .slice as' y.devs.length cs]) ∧ MayY y ∧ (∀ d ∈ y.devs, d.shut = false) ∧ y.drawn.length = 1 ∧ YardAt w' af ad as' cf cd cs y ∧ Below w.heap.size w w'
/-- The boxes while a yard is made. -/
structure FB (w wr : World) (Rb A Z : Nat) (rc zc : Array Value) : Prop where
  hR : wr.heap[Rb]? = some (.cells rc 40 (0, 0))
  hA : wr.heap[A]? = some (.cells zero4 25 (0, 0))
  hZ : wr.heap[Z]? = some (.cells zc 25 (0, 0))
  nAZ : A ≠ Z
  sA : w.heap.size ≤ A
  sZ : w.heap.size ≤ Z
  bel : Below w.heap.size w wr
theorem FB.more {w wr wr' : World} {Rb A Z : Nat} {rc zc : Array Value} (h : FB w wr Rb A Z rc zc) (hb : Below wr.heap.size wr wr') : FB w wr' Rb A Z rc zc :=
  ⟨(hb.block Rb (Array.getElem?_eq_some_iff.1 h.hR).1).trans h.hR, (hb.block A (Array.getElem?_eq_some_iff.1 h.hA).1).trans h.hA, (hb.block Z (Array.getElem?_eq_some_iff.1 h.hZ).1).trans h.hZ, h.nAZ, h.sA, h.sZ, h.bel.trans (hb.mono h.bel.size)⟩
theorem FB.set {w wr : World} {Rb A Z j : Nat} {rc zc : Array Value} {x : Value} (h : FB w wr Rb A Z rc zc) : FB w (wr.setCell ⟨Z, j, none⟩ x) Rb A Z rc (zc.setIfInBounds j x) :=
  ⟨(keep_set h.hZ j x Rb _ _ _ h.hR (by decide)).trans h.hR, (Below.heap_setCell _ _ _ A h.nAZ).trans h.hA, set_any h.hZ j x, h.nAZ, h.sA, h.sZ, h.bel.setCell (p := ⟨Z, j, none⟩) h.sZ x⟩
theorem ints_own {w : World} {B T n : Nat} {l : List Int} (h : w.heap[T]? = some (.cells (ints l).toArray 3 (0, 0))) (hs : B ≤ T) (hl : l.length = n) (hn : n ≤ 1000) : w.ownsRow B 3 1 (.slice (some ⟨T, 0, none⟩) n n) n (ints l) := by
  subst hl
  exact ⟨by simp [ints], .inr ⟨T, _, _, rfl, hs, h, Nat.le_refl _, by unfold maxLen; omega, by simp [ints], by rw [List.take_of_length_le (by simp [ints])]⟩⟩
set_option maxRecDepth 100000 in
set_option maxHeartbeats 4000000 in
theorem yardFrom_any (r : RawY) (ag : Option Addr) (cg : Nat) (w : World) (hx : RowAt w (.slice ag r.devs.length cg) r.devs.length 3 (r.devs.flatMap RawD.cells)) (hI : ∀ d ∈ r.devs, I6 d.kind ∧ I6 d.a ∧ I6 d.b) (hp : I6 r.points) (hf : I6 r.fed) (hd : I6 r.drawn) :
    Calls Try.prog 15 #[.agg #[.int .i64 r.points, .int .i64 r.fed, .int .i64 r.drawn, .slice ag r.devs.length cg]] w (FromO w) := by
  have HX := hide' hx
  have HI := hide' hI
  obtain ⟨c0, hc0, hcc0⟩ := picked_is r.points 6 hp (by decide) (by decide)
  obtain ⟨n, hn⟩ : ∃ n : Nat, n = c0 + 2 := ⟨_, rfl⟩
  obtain ⟨fp, hfp, hfc⟩ := picked_is r.fed n hf (by omega) (by omega)
  obtain ⟨dp, hdp, hdc⟩ := picked_is r.drawn n hd (by omega) (by omega)
  have hw2 : IntKind.i64.wrap (2 + (c0 : Int)) = (n : Int) := by rw [hn, Go.IntWalk.i64_in _ (by omega)]; omega
  have HCC := hide' hcc0
  have HFC := hide' hfc
  have HDC := hide' hdc
  have hn7 : 2 ≤ n ∧ n ≤ 7 := by omega
  clear hx hI hcc0 hfc hdc hp hf hd hn
  go_enter Try.func15, Try.ntmps15
  go_upto_region 1 with fail
  have HQ1 := hide' (alloc_new w (.cells #[.int .i64 r.points, .int .i64 r.fed, .int .i64 r.drawn, .slice ag r.devs.length cg] 40))
  have HQ2 := hide' (alloc_new (w.alloc (.cells #[.int .i64 r.points, .int .i64 r.fed, .int .i64 r.drawn, .slice ag r.devs.length cg] 40)) (.cells zero4 25))
  have HQ3 := hide' ((alloc_old (w.alloc (.cells #[.int .i64 r.points, .int .i64 r.fed, .int .i64 r.drawn, .slice ag r.devs.length cg] 40)) (.cells zero4 25) (Array.getElem?_eq_some_iff.1 HQ1.out).1).trans HQ1.out)
  have HB1 : Hid (Below w.heap.size w ((w.alloc (.cells #[.int .i64 r.points, .int .i64 r.fed, .int .i64 r.drawn, .slice ag r.devs.length cg] 40)).alloc (.cells zero4 25))) := (below_al w (.cells #[.int .i64 r.points, .int .i64 r.fed, .int .i64 r.drawn, .slice ag r.devs.length cg] 40)).alloc (below_al w (.cells #[.int .i64 r.points, .int .i64 r.fed, .int .i64 r.drawn, .slice ag r.devs.length cg] 40)).size _
  rw [show (w.alloc (.cells #[.int .i64 r.points, .int .i64 r.fed, .int .i64 r.drawn, .slice ag r.devs.length cg] 40)).heap.size = w.heap.size + 1 from World.size_alloc ..] at HQ2
  rw [show (#[.int .i64 0, .slice none 0 0, .slice none 0 0, .slice none 0 0] : Array Value) = zero4 from rfl]
  obtain ⟨w1, hw1⟩ : ∃ x, x = (w.alloc (.cells #[.int .i64 r.points, .int .i64 r.fed, .int .i64 r.drawn, .slice ag r.devs.length cg] 40)).alloc (.cells zero4 25) := ⟨_, rfl⟩
  rw [← hw1] at HQ2 HQ3 HB1 ⊢
  obtain ⟨Rb, hU⟩ : ∃ U, U = w.heap.size := ⟨_, rfl⟩
  obtain ⟨A, hV⟩ : ∃ V, V = w.heap.size + 1 := ⟨_, rfl⟩
  have HSA : Hid (w.heap.size ≤ A) := by show _ ≤ _; omega
  rw [← hV] at HQ2
  rw [← hU] at HQ3
  rw [show (Value.pointer (some { block := w.heap.size, off := 0 })) = Value.pointer (some { block := Rb, off := 0 }) by rw [hU]]
  rw [show (Value.pointer (some { block := w.heap.size + 1, off := 0 })) = Value.pointer (some { block := A, off := 0 }) by rw [hV]]
  clear hw1 hU hV HQ1
  have r0 : w1.cell? ⟨Rb, 0, none⟩ = some (.int .i64 r.points) := (cells_at HQ3.out 0).trans rfl
  go_wp2_with fail
  refine (HCC.out _).mono ?_
  rintro e w' ⟨rfl, hw'⟩
  obtain rfl := hw'.symm
  go_upto_region 2 with fail
  have HF2 : Hid (FB w (w1.alloc (.cells #[.int .i64 (n : Int), .slice none 0 0, .slice none 0 0, .slice none 0 0] 25)) Rb A w1.heap.size #[.int .i64 r.points, .int .i64 r.fed, .int .i64 r.drawn, .slice ag r.devs.length cg] #[.int .i64 (n : Int), .slice none 0 0, .slice none 0 0, .slice none 0 0]) := ⟨(alloc_old _ _ (Array.getElem?_eq_some_iff.1 HQ3.out).1).trans HQ3.out, (alloc_old _ _ (Array.getElem?_eq_some_iff.1 HQ2.out).1).trans HQ2.out, alloc_new _ _, fun e => by have h9 := (Array.getElem?_eq_some_iff.1 HQ2.out).1; omega, HSA.out, HB1.out.size, HB1.out.alloc HB1.out.size _⟩
  obtain ⟨w2, hw2'⟩ : ∃ z, z = w1.alloc (.cells #[.int .i64 (n : Int), .slice none 0 0, .slice none 0 0, .slice none 0 0] 25) := ⟨_, rfl⟩
  obtain ⟨Z, hZ⟩ : ∃ z, z = w1.heap.size := ⟨_, rfl⟩
  rw [← hw2'] at HF2 ⊢
  rw [← hZ] at HF2 ⊢
  clear hw2' hZ HQ2 HQ3 HB1 HSA r0 HCC hc0
  have q1 : w2.cell? ⟨Rb, 1, none⟩ = some (.int .i64 r.fed) := (cells_at HF2.out.hR 1).trans rfl
  have z0 : w2.cell? ⟨Z, 0, none⟩ = some (.int .i64 (n : Int)) := (cells_at HF2.out.hZ 0).trans rfl
  have HM1 := hide' (HF2.out.more (below_al w2 (.cells #[.int .i64 (fp : Int)] 3)))
  have zj : (w2.alloc (.cells #[.int .i64 (fp : Int)] 3)).cell? ⟨Z, 1, none⟩ = some (.slice none 0 0) := (cells_at HM1.out.hZ 1).trans rfl
  have zf : (w2.alloc (.cells #[.int .i64 (fp : Int)] 3)).frozen? ⟨Z, 1, none⟩ = false := frozen_no HM1.out.hZ _
  go_wp2_with fail
  refine (HFC.out _).mono ?_
  rintro e w' ⟨rfl, hw'⟩
  obtain rfl := hw'.symm
  go_upto_region 3 with fail
  have HN1 : Hid (FB w ((w2.alloc (.cells #[.int .i64 (fp : Int)] 3)).setCell ⟨Z, 1, none⟩ (.slice (some ⟨w2.heap.size, 0, none⟩) 1 1)) Rb A Z #[.int .i64 r.points, .int .i64 r.fed, .int .i64 r.drawn, .slice ag r.devs.length cg] #[.int .i64 (n : Int), .slice (some ⟨w2.heap.size, 0, none⟩) 1 1, .slice none 0 0, .slice none 0 0]) := HM1.out.set
  have HKZ1 : Hid (KeepE 25 (w2.alloc (.cells #[.int .i64 (fp : Int)] 3)) ((w2.alloc (.cells #[.int .i64 (fp : Int)] 3)).setCell ⟨Z, 1, none⟩ (.slice (some ⟨w2.heap.size, 0, none⟩) 1 1))) := keep_set HM1.out.hZ _ _
  have HO1 : Hid (((w2.alloc (.cells #[.int .i64 (fp : Int)] 3)).setCell ⟨Z, 1, none⟩ (.slice (some ⟨w2.heap.size, 0, none⟩) 1 1)).ownsRow w.heap.size 3 1 (.slice (some ⟨w2.heap.size, 0, none⟩) 1 1) 1 (ints [(fp : Int)])) := own_keep (ints_own (alloc_new w2 (.cells #[.int .i64 (fp : Int)] 3)) HF2.out.bel.size rfl (by decide)) HKZ1.out (by decide)
  obtain ⟨w3, hw3⟩ : ∃ z, z = (w2.alloc (.cells #[.int .i64 (fp : Int)] 3)).setCell ⟨Z, 1, none⟩ (.slice (some ⟨w2.heap.size, 0, none⟩) 1 1) := ⟨_, rfl⟩
  obtain ⟨Fb, hFb⟩ : ∃ z, z = w2.heap.size := ⟨_, rfl⟩
  rw [← hw3] at HN1 HO1  ⊢
  rw [← hFb] at HN1 HO1 ⊢
  clear hw3 hFb q1 z0 zj zf HM1 HKZ1 HF2 HFC 
  have q2 : w3.cell? ⟨Rb, 2, none⟩ = some (.int .i64 r.drawn) := (cells_at HN1.out.hR 2).trans rfl
  have z0 : w3.cell? ⟨Z, 0, none⟩ = some (.int .i64 (n : Int)) := (cells_at HN1.out.hZ 0).trans rfl
  have HM2 := hide' (HN1.out.more (below_al w3 (.cells #[.int .i64 (dp : Int)] 3)))
  have zj : (w3.alloc (.cells #[.int .i64 (dp : Int)] 3)).cell? ⟨Z, 2, none⟩ = some (.slice none 0 0) := (cells_at HM2.out.hZ 2).trans rfl
  have zf : (w3.alloc (.cells #[.int .i64 (dp : Int)] 3)).frozen? ⟨Z, 2, none⟩ = false := frozen_no HM2.out.hZ _
  go_wp2_with fail
  refine (HDC.out _).mono ?_
  rintro e w' ⟨rfl, hw'⟩
  obtain rfl := hw'.symm
  go_upto_region 4 with fail
  have HN2 : Hid (FB w ((w3.alloc (.cells #[.int .i64 (dp : Int)] 3)).setCell ⟨Z, 2, none⟩ (.slice (some ⟨w3.heap.size, 0, none⟩) 1 1)) Rb A Z #[.int .i64 r.points, .int .i64 r.fed, .int .i64 r.drawn, .slice ag r.devs.length cg] #[.int .i64 (n : Int), .slice (some ⟨Fb, 0, none⟩) 1 1, .slice (some ⟨w3.heap.size, 0, none⟩) 1 1, .slice none 0 0]) := HM2.out.set
  have HKZ2 : Hid (KeepE 25 (w3.alloc (.cells #[.int .i64 (dp : Int)] 3)) ((w3.alloc (.cells #[.int .i64 (dp : Int)] 3)).setCell ⟨Z, 2, none⟩ (.slice (some ⟨w3.heap.size, 0, none⟩) 1 1))) := keep_set HM2.out.hZ _ _
  have HO2 : Hid (((w3.alloc (.cells #[.int .i64 (dp : Int)] 3)).setCell ⟨Z, 2, none⟩ (.slice (some ⟨w3.heap.size, 0, none⟩) 1 1)).ownsRow w.heap.size 3 1 (.slice (some ⟨w3.heap.size, 0, none⟩) 1 1) 1 (ints [(dp : Int)])) := own_keep (ints_own (alloc_new w3 (.cells #[.int .i64 (dp : Int)] 3)) HN1.out.bel.size rfl (by decide)) HKZ2.out (by decide)
  have HO1n : Hid (((w3.alloc (.cells #[.int .i64 (dp : Int)] 3)).setCell ⟨Z, 2, none⟩ (.slice (some ⟨w3.heap.size, 0, none⟩) 1 1)).ownsRow w.heap.size 3 1 (.slice (some ⟨Fb, 0, none⟩) 1 1) 1 (ints [(fp : Int)])) := own_keep (own_below HO1.out (below_al w3 (.cells #[.int .i64 (dp : Int)] 3)) (Nat.le_refl _)) HKZ2.out (by decide)
  obtain ⟨w4, hw4⟩ : ∃ z, z = (w3.alloc (.cells #[.int .i64 (dp : Int)] 3)).setCell ⟨Z, 2, none⟩ (.slice (some ⟨w3.heap.size, 0, none⟩) 1 1) := ⟨_, rfl⟩
  obtain ⟨Db, hDb⟩ : ∃ z, z = w3.heap.size := ⟨_, rfl⟩
  rw [← hw4] at HN2 HO2 HO1n ⊢
  rw [← hDb] at HN2 HO2 ⊢
  clear hw4 hDb q2 z0 zj zf HM2 HKZ2 HN1 HDC HO1
  go_wp2_with fail
  go_loopw [4] (fun iv wr => ∃ (k : Nat) (ds : List DevM) (sv : Value), iv = .int .i64 k ∧ k ≤ r.devs.length ∧ k ≤ 7 ∧ ds.length = k ∧ Hid (∀ d ∈ ds, DevOk (n : Int) d ∧ d.shut = false) ∧ Hid (FB w wr Rb A Z #[.int .i64 r.points, .int .i64 r.fed, .int .i64 r.drawn, .slice ag r.devs.length cg] #[.int .i64 (n : Int), .slice (some ⟨Fb, 0, none⟩) 1 1, .slice (some ⟨Db, 0, none⟩) 1 1, sv]) ∧ Hid (wr.ownsRow w.heap.size 45 4 sv ds.length (ds.flatMap DevM.cells)) ∧ Hid (wr.ownsRow w.heap.size 3 1 (.slice (some ⟨Fb, 0, none⟩) 1 1) 1 (ints [(fp : Int)])) ∧ Hid (wr.ownsRow w.heap.size 3 1 (.slice (some ⟨Db, 0, none⟩) 1 1) 1 (ints [(dp : Int)]))) (fun iv _ => 7 - (intOf iv).toNat)
  case atStart => exact ⟨0, [], .slice none 0 0, rfl, Nat.zero_le _, Nat.zero_le _, rfl, (fun d h => by cases h), HN2, World.ownsRow_nil _ _ _ _, HO1n, HO2⟩
  case round =>
    clear HN2 HO1n HO2
    obtain ⟨k, ds, sv, rfl, hk, hk7, hdk, HOK, HFB, HDV, HFE, HDR⟩ := hrel
    have q3 : wr.cell? ⟨Rb, 3, none⟩ = some (.slice ag r.devs.length cg) := (cells_at HFB.out.hR 3).trans rfl
    by_cases hlt : k < r.devs.length ∧ k < 7
    · obtain ⟨hkr, hk2⟩ := hlt
      obtain ⟨bt, ot, ct', ex, hbt, hct⟩ := row_elem (f := RawD.cells) (xs := r.devs) (fun _ => rfl) HX.out k hkr (by decide)
      cases ex
      have hxI := HI.out _ (List.getElem_mem hkr)
      obtain ⟨u, hu⟩ : ∃ u, u = r.devs[k] := ⟨_, rfl⟩
      rw [← hu] at hct hxI
      have d0 := up_cell HFB.out.bel (hct 0 _ rfl)
      have d1 := up_cell HFB.out.bel (hct 1 _ rfl)
      have d2 := up_cell HFB.out.bel (hct 2 _ rfl)
      rw [Nat.add_zero] at d0
      obtain ⟨kk, ka, kb⟩ := u
      dsimp only at d0 d1 d2 hxI
      obtain ⟨kc, hkc, hkcc⟩ := picked_is kk 3 hxI.1 (by decide) (by decide)
      obtain ⟨ac, hac, hacc⟩ := picked_is ka n hxI.2.1 (by omega) (by omega)
      obtain ⟨bc, hbc, hbcc⟩ := picked_is kb (n - 1) hxI.2.2 (by omega) (by omega)
      have en : ((n - 1 : Nat) : Int) = (n : Int) - 1 := by omega
      rw [en] at hbcc
      have HKK := hide' hkcc
      have HKA := hide' hacc
      have HKB := hide' hbcc
      have hw1c : IntKind.i64.wrap (1 + (kc : Int)) = 1 + (kc : Int) := Go.IntWalk.i64_in _ (by omega)
      clear hct hbt hu hxI hkcc hacc hbcc en
      go_upto_region 8 with fail
      have HB5 := hide' (below_al wr (.cells #[.int .i64 kk, .int .i64 ka, .int .i64 kb] 60))
      have HX5 := hide' (alloc_new wr (.cells #[.int .i64 kk, .int .i64 ka, .int .i64 kb] 60))
      obtain ⟨w5, hw5⟩ : ∃ z, z = wr.alloc (.cells #[.int .i64 kk, .int .i64 ka, .int .i64 kb] 60) := ⟨_, rfl⟩
      obtain ⟨X, hX⟩ : ∃ z, z = wr.heap.size := ⟨_, rfl⟩
      rw [← hw5] at HB5 HX5 ⊢
      rw [← hX] at HX5 ⊢
      have HFB5 := hide' (HFB.out.more HB5.out)
      have HDV5 := hide' (own_below HDV.out HB5.out (Nat.le_refl _))
      have HFE5 := hide' (own_below HFE.out HB5.out (Nat.le_refl _))
      have HDR5 := hide' (own_below HDR.out HB5.out (Nat.le_refl _))
      clear hw5 hX d0 d1 d2 q3 HFB HDV HFE HDR HB5
      have p0 : w5.cell? ⟨X, 0, none⟩ = some (.int .i64 kk) := (cells_at HX5.out 0).trans rfl
      have p1 : w5.cell? ⟨X, 1, none⟩ = some (.int .i64 ka) := (cells_at HX5.out 1).trans rfl
      have p2 : w5.cell? ⟨Z, 0, none⟩ = some (.int .i64 (n : Int)) := (cells_at HFB5.out.hZ 0).trans rfl
      go_cut [6] from 26 to 74 (fun v6 wc => ∃ D : Nat, v6 = .pointer (some ⟨D, 0, none⟩) ∧ w5.heap.size ≤ D ∧ Hid (wc.heap[D]? = some (.cells #[.int .i64 (1 + (kc : Int)), .int .i64 (ac : Int), .int .i64 0, .bool false] 45 (0, 0))) ∧ Hid (Below w5.heap.size w5 wc))
      case first =>
        refine wp_region_tail (fun W => W.cell? ⟨X, 0, none⟩ = some (.int .i64 kk) ∧ W.cell? ⟨X, 1, none⟩ = some (.int .i64 ka) ∧ W.cell? ⟨Z, 0, none⟩ = some (.int .i64 (n : Int))) 11 (by kernel_rfl) ?_
        refine wpAnyD_takeAt 0 (some 42) (v := ?_) rfl (by kernel_rfl) (by kernel_rfl) (by kernel_rfl) (by kernel_rfl) (by kernel_rfl) (fun _ _ _ h => h) (by exact ⟨p0, p1, p2⟩) (fun o hop => ?_) ?_
        rotate_left
        · injection hop with hop
          subst hop
          refine ⟨rfl, fun W hW => ?_⟩
          obtain ⟨s0, s1, s2⟩ := hW
          go_simp
          first
          | rfl
          | rw [if_neg (by omega)]
        try simp only [Act.put, List.setIfInBounds_toArray, List.set_cons_zero, List.set_cons_succ]
        refine wpAnyD_takeAt 1 (some 43) (v := ?_) rfl (by kernel_rfl) (by kernel_rfl) (by kernel_rfl) (by kernel_rfl) (by kernel_rfl) (fun _ _ _ h => h) (by exact ⟨p0, p1, p2⟩) (fun o hop => ?_) ?_
        rotate_left
        · injection hop with hop
          subst hop
          refine ⟨rfl, fun W hW => ?_⟩
          obtain ⟨s0, s1, s2⟩ := hW
          go_simp
          first
          | rfl
          | rw [if_neg (by omega)]
        try simp only [Act.put, List.setIfInBounds_toArray, List.set_cons_zero, List.set_cons_succ]
        refine wpAnyD_takeAt 4 (some 46) (v := ?_) rfl (by kernel_rfl) (by kernel_rfl) (by kernel_rfl) (by kernel_rfl) (by kernel_rfl) (fun _ _ _ h => h) (by exact ⟨p0, p1, p2⟩) (fun o hop => ?_) ?_
        rotate_left
        · injection hop with hop
          subst hop
          refine ⟨rfl, fun W hW => ?_⟩
          obtain ⟨s0, s1, s2⟩ := hW
          go_simp
          first
          | rfl
          | rw [if_neg (by omega)]
        try simp only [Act.put, List.setIfInBounds_toArray, List.set_cons_zero, List.set_cons_succ]
        refine wpAnyD_takeAt 5 (some 47) (v := ?_) rfl (by kernel_rfl) (by kernel_rfl) (by kernel_rfl) (by kernel_rfl) (by kernel_rfl) (fun _ _ _ h => h) (by exact ⟨p0, p1, p2⟩) (fun o hop => ?_) ?_
        rotate_left
        · injection hop with hop
          subst hop
          refine ⟨rfl, fun W hW => ?_⟩
          obtain ⟨s0, s1, s2⟩ := hW
          go_simp
          first
          | rfl
          | rw [if_neg (by omega)]
        try simp only [Act.put, List.setIfInBounds_toArray, List.set_cons_zero, List.set_cons_succ]
        refine wpAnyD_takeAt 6 (some 48) (v := ?_) rfl (by kernel_rfl) (by kernel_rfl) (by kernel_rfl) (by kernel_rfl) (by kernel_rfl) (fun _ _ _ h => h) (by exact ⟨p0, p1, p2⟩) (fun o hop => ?_) ?_
        rotate_left
        · injection hop with hop
          subst hop
          refine ⟨rfl, fun W hW => ?_⟩
          obtain ⟨s0, s1, s2⟩ := hW
          go_simp
          first
          | rfl
          | rw [if_neg (by omega)]
        try simp only [Act.put, List.setIfInBounds_toArray, List.set_cons_zero, List.set_cons_succ]
        refine wpAnyD_takeAt 7 (some 49) (v := ?_) rfl (by kernel_rfl) (by kernel_rfl) (by kernel_rfl) (by kernel_rfl) (by kernel_rfl) (fun _ _ _ h => h) (by exact ⟨p0, p1, p2⟩) (fun o hop => ?_) ?_
        rotate_left
        · injection hop with hop
          subst hop
          refine ⟨rfl, fun W hW => ?_⟩
          obtain ⟨s0, s1, s2⟩ := hW
          go_simp
          first
          | rfl
          | rw [if_neg (by omega)]
        try simp only [Act.put, List.setIfInBounds_toArray, List.set_cons_zero, List.set_cons_succ]
        refine wpAnyT_two (i := 2) (j := 10) (by kernel_rfl) rfl rfl rfl rfl (fun K' hK => ?_) (fun K' hK => ?_)
        · go_simp
          go_at_call 17
          refine (HKK.out _).mono ?_
          rintro e w' ⟨rfl, hw'⟩
          obtain rfl := hw'.symm
          refine hK.out _ _ (fun _ => by exact ⟨p0, p1, p2⟩) ?_
          clear hK K'
          refine wpAnyD_takeAt 3 (some 45) (v := ?_) rfl (by kernel_rfl) (by kernel_rfl) (by kernel_rfl) (by kernel_rfl) (by kernel_rfl) (fun _ _ _ h => h) (by exact ⟨p0, p1, p2⟩) (fun o hop => ?_) ?_
          rotate_left
          · injection hop with hop
            subst hop
            refine ⟨rfl, fun W hW => ?_⟩
            obtain ⟨s0, s1, s2⟩ := hW
            go_simp
            first
            | rfl
            | rw [if_neg (by omega)]
          try simp only [Act.put, List.setIfInBounds_toArray, List.set_cons_zero, List.set_cons_succ]
          refine wpAnyT_two (i := 8) (j := 10) (by kernel_rfl) rfl rfl rfl rfl (fun K' hK => ?_) (fun K' hK => ?_)
          · go_simp
            go_at_call 17
            refine (HKA.out _).mono ?_
            rintro e w' ⟨rfl, hw'⟩
            obtain rfl := hw'.symm
            refine hK.out _ _ (fun _ => by exact ⟨p0, p1, p2⟩) ?_
            clear hK K'
            refine wpAnyD_takeAt 9 (some 51) (v := ?_) rfl (by kernel_rfl) (by kernel_rfl) (by kernel_rfl) (by kernel_rfl) (by kernel_rfl) (fun _ _ _ h => h) (by exact ⟨p0, p1, p2⟩) (fun o hop => ?_) ?_
            rotate_left
            · injection hop with hop
              subst hop
              refine ⟨rfl, fun W hW => ?_⟩
              obtain ⟨s0, s1, s2⟩ := hW
              go_simp
              first
              | rfl
              | rw [if_neg (by omega)]
            try simp only [Act.put, List.setIfInBounds_toArray, List.set_cons_zero, List.set_cons_succ]
            refine wpAnyT_one (i := 10) (by kernel_rfl) rfl rfl (fun K' hK => ?_)
            go_simp
            have a0 : (w5.drew.alloc (.cells #[.int .i64 0, .int .i64 0, .int .i64 0, .bool false] 45)).cell? ⟨X, 0, none⟩ = some (.int .i64 kk) := later p0 _
            have a1 : (w5.drew.alloc (.cells #[.int .i64 0, .int .i64 0, .int .i64 0, .bool false] 45)).cell? ⟨X, 1, none⟩ = some (.int .i64 ka) := later p1 _
            have a2 : (w5.drew.alloc (.cells #[.int .i64 0, .int .i64 0, .int .i64 0, .bool false] 45)).cell? ⟨Z, 0, none⟩ = some (.int .i64 (n : Int)) := later p2 _
            refine hK.out _ _ (fun _ => by exact ⟨a0, a1, a2⟩) ?_
            clear hK K'
            refine wpAnyT_one (i := 11) (by kernel_rfl) rfl rfl (fun K' hK => ?_)
            go_simp
            refine hK.out _ _ (fun h => absurd rfl h) ?_
            clear hK K'
            refine wpAnyT_done (by kernel_rfl) ?_ _
            go_wp2
            go_meet
            case rel => exact ⟨w5.heap.size, rfl, Nat.le_refl _, alloc_new w5 _, (below_al w5 _).drew⟩
          · go_simp
            have a0 : (w5.drew.alloc (.cells #[.int .i64 0, .int .i64 0, .int .i64 0, .bool false] 45)).cell? ⟨X, 0, none⟩ = some (.int .i64 kk) := later p0 _
            have a1 : (w5.drew.alloc (.cells #[.int .i64 0, .int .i64 0, .int .i64 0, .bool false] 45)).cell? ⟨X, 1, none⟩ = some (.int .i64 ka) := later p1 _
            have a2 : (w5.drew.alloc (.cells #[.int .i64 0, .int .i64 0, .int .i64 0, .bool false] 45)).cell? ⟨Z, 0, none⟩ = some (.int .i64 (n : Int)) := later p2 _
            refine hK.out _ _ (fun _ => by exact ⟨a0, a1, a2⟩) ?_
            clear hK K'
            refine wpAnyT_one (i := 8) (by kernel_rfl) rfl rfl (fun K' hK => ?_)
            go_simp
            go_at_call 17
            refine (HKA.out _).mono ?_
            rintro e w' ⟨rfl, hw'⟩
            obtain rfl := hw'.symm
            refine hK.out _ _ (fun _ => by exact ⟨a0, a1, a2⟩) ?_
            clear hK K'
            refine wpAnyD_takeAt 9 (some 51) (v := ?_) rfl (by kernel_rfl) (by kernel_rfl) (by kernel_rfl) (by kernel_rfl) (by kernel_rfl) (fun _ _ _ h => h) (by exact ⟨a0, a1, a2⟩) (fun o hop => ?_) ?_
            rotate_left
            · injection hop with hop
              subst hop
              refine ⟨rfl, fun W hW => ?_⟩
              obtain ⟨s0, s1, s2⟩ := hW
              go_simp
              first
              | rfl
              | rw [if_neg (by omega)]
            try simp only [Act.put, List.setIfInBounds_toArray, List.set_cons_zero, List.set_cons_succ]
            refine wpAnyT_one (i := 11) (by kernel_rfl) rfl rfl (fun K' hK => ?_)
            go_simp
            refine hK.out _ _ (fun h => absurd rfl h) ?_
            clear hK K'
            refine wpAnyT_done (by kernel_rfl) ?_ _
            go_wp2
            go_meet
            case rel => exact ⟨w5.heap.size, rfl, Nat.le_refl _, alloc_new w5 _, (below_al w5 _).drew⟩
        · go_simp
          have a0 : (w5.drew.alloc (.cells #[.int .i64 0, .int .i64 0, .int .i64 0, .bool false] 45)).cell? ⟨X, 0, none⟩ = some (.int .i64 kk) := later p0 _
          have a1 : (w5.drew.alloc (.cells #[.int .i64 0, .int .i64 0, .int .i64 0, .bool false] 45)).cell? ⟨X, 1, none⟩ = some (.int .i64 ka) := later p1 _
          have a2 : (w5.drew.alloc (.cells #[.int .i64 0, .int .i64 0, .int .i64 0, .bool false] 45)).cell? ⟨Z, 0, none⟩ = some (.int .i64 (n : Int)) := later p2 _
          refine hK.out _ _ (fun _ => by exact ⟨a0, a1, a2⟩) ?_
          clear hK K'
          refine wpAnyT_one (i := 2) (by kernel_rfl) rfl rfl (fun K' hK => ?_)
          go_simp
          go_at_call 17
          refine (HKK.out _).mono ?_
          rintro e w' ⟨rfl, hw'⟩
          obtain rfl := hw'.symm
          refine hK.out _ _ (fun _ => by exact ⟨a0, a1, a2⟩) ?_
          clear hK K'
          refine wpAnyD_takeAt 3 (some 45) (v := ?_) rfl (by kernel_rfl) (by kernel_rfl) (by kernel_rfl) (by kernel_rfl) (by kernel_rfl) (fun _ _ _ h => h) (by exact ⟨a0, a1, a2⟩) (fun o hop => ?_) ?_
          rotate_left
          · injection hop with hop
            subst hop
            refine ⟨rfl, fun W hW => ?_⟩
            obtain ⟨s0, s1, s2⟩ := hW
            go_simp
            first
            | rfl
            | rw [if_neg (by omega)]
          try simp only [Act.put, List.setIfInBounds_toArray, List.set_cons_zero, List.set_cons_succ]
          refine wpAnyT_one (i := 8) (by kernel_rfl) rfl rfl (fun K' hK => ?_)
          go_simp
          go_at_call 17
          refine (HKA.out _).mono ?_
          rintro e w' ⟨rfl, hw'⟩
          obtain rfl := hw'.symm
          refine hK.out _ _ (fun _ => by exact ⟨a0, a1, a2⟩) ?_
          clear hK K'
          refine wpAnyD_takeAt 9 (some 51) (v := ?_) rfl (by kernel_rfl) (by kernel_rfl) (by kernel_rfl) (by kernel_rfl) (by kernel_rfl) (fun _ _ _ h => h) (by exact ⟨a0, a1, a2⟩) (fun o hop => ?_) ?_
          rotate_left
          · injection hop with hop
            subst hop
            refine ⟨rfl, fun W hW => ?_⟩
            obtain ⟨s0, s1, s2⟩ := hW
            go_simp
            first
            | rfl
            | rw [if_neg (by omega)]
          try simp only [Act.put, List.setIfInBounds_toArray, List.set_cons_zero, List.set_cons_succ]
          refine wpAnyT_one (i := 11) (by kernel_rfl) rfl rfl (fun K' hK => ?_)
          go_simp
          refine hK.out _ _ (fun h => absurd rfl h) ?_
          clear hK K'
          refine wpAnyT_done (by kernel_rfl) ?_ _
          go_wp2
          go_meet
          case rel => exact ⟨w5.heap.size, rfl, Nat.le_refl _, alloc_new w5 _, (below_al w5 _).drew⟩
      case rest =>
        obtain ⟨D, rfl, hD5, HDC, HBC⟩ := hcut
        obtain ⟨w6, hw6⟩ : ∃ z, z = wc := ⟨_, rfl⟩
        rw [← hw6] at HDC HBC ⊢
        clear hw6 p0 p1 p2 HKK HKA
        have HFB6 := hide' (HFB5.out.more HBC.out)
        have HDV6 := hide' (own_below HDV5.out HBC.out (Nat.le_refl _))
        have HFE6 := hide' (own_below HFE5.out HBC.out (Nat.le_refl _))
        have HDR6 := hide' (own_below HDR5.out HBC.out (Nat.le_refl _))
        have HX6 := hide' ((HBC.out.block X (Array.getElem?_eq_some_iff.1 HX5.out).1).trans HX5.out)
        have HDW : Hid (w.heap.size ≤ D) := by show _ ≤ _; have := HFB5.out.bel.size; omega
        have g0 : w6.cell? ⟨D, 0, none⟩ = some (.int .i64 (1 + (kc : Int))) := (cells_at HDC.out 0).trans rfl
        obtain ⟨va, vc, hsv⟩ := own_slice HDV6.out
        rw [hdk] at hsv
        subst hsv
        have HDG : Hid (∀ g, (Value.slice va k vc).ownBlock = some g → g ≠ D) := fun g hg e => by
          have h1 := (HDV5.out.lt g hg).2
          omega
        clear HFB5 HDV5 HFE5 HDR5 HX5 HBC
        go_upto_if 54 with fail
        go_cut [6] from 26 to 74 (fun v6 wx => v6 = .pointer (some ⟨D, 0, none⟩) ∧ ∃ bb : Nat, Hid (DevOk (n : Int) ⟨1 + (kc : Int), (ac : Int), (bb : Int), false⟩) ∧ Hid (wx.heap[D]? = some (.cells #[.int .i64 (1 + (kc : Int)), .int .i64 (ac : Int), .int .i64 (bb : Int), .bool false] 45 (0, 0))) ∧ Hid (FB w wx Rb A Z #[.int .i64 r.points, .int .i64 r.fed, .int .i64 r.drawn, .slice (some ⟨bt, ot, none⟩) r.devs.length cg] #[.int .i64 (n : Int), .slice (some ⟨Fb, 0, none⟩) 1 1, .slice (some ⟨Db, 0, none⟩) 1 1, .slice va k vc]) ∧ Hid (wx.ownsRow w.heap.size 45 4 (.slice va k vc) ds.length (ds.flatMap DevM.cells)) ∧ Hid (wx.ownsRow w.heap.size 3 1 (.slice (some ⟨Fb, 0, none⟩) 1 1) 1 (ints [(fp : Int)])) ∧ Hid (wx.ownsRow w.heap.size 3 1 (.slice (some ⟨Db, 0, none⟩) 1 1) 1 (ints [(dp : Int)])))
        case first =>
          by_cases hk3 : kc = 2
          · subst hk3
            have HOKD : Hid (DevOk (n : Int) ⟨1 + ((2 : Nat) : Int), (ac : Int), ((0 : Nat) : Int), false⟩) := .inr ⟨rfl, ⟨by show (0 : Int) ≤ (ac : Int); omega, by show (ac : Int) < n; omega⟩, rfl⟩
            go_wp2
            go_meet
            case rel => exact ⟨rfl, 0, HOKD, HDC, HFB6, HDV6, HFE6, HDR6⟩
          · have hne : ((1 + (kc : Int)) != 3) = true := by simp; omega
            have g1 : w6.cell? ⟨D, 1, none⟩ = some (.int .i64 (ac : Int)) := (cells_at HDC.out 1).trans rfl
            have g2 : w6.cell? ⟨X, 2, none⟩ = some (.int .i64 kb) := (cells_at HX6.out 2).trans rfl
            have g3 : w6.cell? ⟨Z, 0, none⟩ = some (.int .i64 (n : Int)) := (cells_at HFB6.out.hZ 0).trans rfl
            have gd : w6.cell? ⟨D, 2, none⟩ = some (.int .i64 0) := (cells_at HDC.out 2).trans rfl
            have gf : w6.frozen? ⟨D, 2, none⟩ = false := frozen_no HDC.out _
            have hwn : IntKind.i64.wrap ((n : Int) - 1) = (n : Int) - 1 := Go.IntWalk.i64_in _ (by omega)
            have hwa : IntKind.i64.wrap ((ac : Int) + 1) = (ac : Int) + 1 := Go.IntWalk.i64_in _ (by omega)
            have hwc : IntKind.i64.wrap ((ac : Int) + 1 + (bc : Int)) = (ac : Int) + 1 + (bc : Int) := Go.IntWalk.i64_in _ (by omega)
            have hn0 : ((n : Int) == 0) = false := by simp; omega
            obtain ⟨bb, hb⟩ : ∃ b, b = (ac + 1 + bc) % n := ⟨_, rfl⟩
            have hbn : bb < n := by rw [hb]; exact Nat.mod_lt _ (by omega)
            have hab : ac ≠ bb := by
              rw [hb]
              by_cases h : ac + 1 + bc < n
              · rw [Nat.mod_eq_of_lt h]; omega
              · have e : ac + 1 + bc = (ac + 1 + bc - n) + n := by omega
                rw [e, Nat.add_mod_right, Nat.mod_eq_of_lt (by omega)]; omega
            have hrem : ((ac : Int) + 1 + (bc : Int)).tmod (n : Int) = (bb : Int) := by
              rw [hb, show (ac : Int) + 1 + (bc : Int) = ((ac + 1 + bc : Nat) : Int) by omega]
              exact Int.ofNat_tmod _ _
            have HOKD : Hid (DevOk (n : Int) ⟨1 + (kc : Int), (ac : Int), (bb : Int), false⟩) := .inl ⟨by show 1 + (kc : Int) = 1 ∨ 1 + (kc : Int) = 2; omega, ⟨by show (0 : Int) ≤ (ac : Int); omega, by show (ac : Int) < n; omega⟩, ⟨by show (0 : Int) ≤ (bb : Int); omega, by show (bb : Int) < n; omega⟩, by show (ac : Int) ≠ (bb : Int); omega⟩
            have hke : KeepE 45 w6 (w6.setCell ⟨D, 2, none⟩ (.int .i64 (bb : Int))) := keep_set HDC.out _ _
            have HDN := hide' (set_any HDC.out 2 (.int .i64 (bb : Int)))
            have HFN : Hid (FB w (w6.setCell ⟨D, 2, none⟩ (.int .i64 (bb : Int))) Rb A Z #[.int .i64 r.points, .int .i64 r.fed, .int .i64 r.drawn, .slice (some ⟨bt, ot, none⟩) r.devs.length cg] #[.int .i64 (n : Int), .slice (some ⟨Fb, 0, none⟩) 1 1, .slice (some ⟨Db, 0, none⟩) 1 1, .slice va k vc]) := ⟨(hke Rb _ _ _ HFB6.out.hR (by decide)).trans HFB6.out.hR, (hke A _ _ _ HFB6.out.hA (by decide)).trans HFB6.out.hA, (hke Z _ _ _ HFB6.out.hZ (by decide)).trans HFB6.out.hZ, HFB6.out.nAZ, HFB6.out.sA, HFB6.out.sZ, HFB6.out.bel.setCell (p := ⟨D, 2, none⟩) HDW.out _⟩
            have HDVN : Hid ((w6.setCell ⟨D, 2, none⟩ (.int .i64 (bb : Int))).ownsRow w.heap.size 45 4 (.slice va k vc) ds.length (ds.flatMap DevM.cells)) := by
              refine ⟨HDV6.out.1, ?_⟩
              rcases HDV6.out.2 with h2 | ⟨g, cap, cur, h3, h4, h5, h6⟩
              · exact .inl h2
              · refine .inr ⟨g, cap, cur, h3, h4, (Below.heap_setCell _ _ _ g (HDG.out g (by rw [h3]; rfl))).trans h5, h6⟩
            have HFEN := hide' (own_keep HFE6.out hke (by decide))
            have HDRN := hide' (own_keep HDR6.out hke (by decide))
            clear hke hb hbn hab
            go_wp2_with fail
            refine wp_region_tail (fun W => W.cell? ⟨D, 1, none⟩ = some (.int .i64 (ac : Int)) ∧ W.cell? ⟨X, 2, none⟩ = some (.int .i64 kb) ∧ W.cell? ⟨Z, 0, none⟩ = some (.int .i64 (n : Int))) 14 (by kernel_rfl) ?_
            refine wpAnyD_takeAt 0 (some 55) (v := ?_) rfl (by kernel_rfl) (by kernel_rfl) (by kernel_rfl) (by kernel_rfl) (by kernel_rfl) (fun _ _ _ h => h) (by exact ⟨g1, g2, g3⟩) (fun o hop => ?_) ?_
            rotate_left
            · injection hop with hop
              subst hop
              refine ⟨rfl, fun W hW => ?_⟩
              obtain ⟨s0, s1, s2⟩ := hW
              go_simp
              first
              | rfl
              | rw [if_neg (by omega)]
            try simp only [Act.put, List.setIfInBounds_toArray, List.set_cons_zero, List.set_cons_succ]
            refine wpAnyD_takeAt 1 (some 56) (v := ?_) rfl (by kernel_rfl) (by kernel_rfl) (by kernel_rfl) (by kernel_rfl) (by kernel_rfl) (fun _ _ _ h => h) (by exact ⟨g1, g2, g3⟩) (fun o hop => ?_) ?_
            rotate_left
            · injection hop with hop
              subst hop
              refine ⟨rfl, fun W hW => ?_⟩
              obtain ⟨s0, s1, s2⟩ := hW
              go_simp
              first
              | rfl
              | rw [if_neg (by omega)]
            try simp only [Act.put, List.setIfInBounds_toArray, List.set_cons_zero, List.set_cons_succ]
            refine wpAnyD_takeAt 2 (some 57) (v := ?_) rfl (by kernel_rfl) (by kernel_rfl) (by kernel_rfl) (by kernel_rfl) (by kernel_rfl) (fun _ _ _ h => h) (by exact ⟨g1, g2, g3⟩) (fun o hop => ?_) ?_
            rotate_left
            · injection hop with hop
              subst hop
              refine ⟨rfl, fun W hW => ?_⟩
              obtain ⟨s0, s1, s2⟩ := hW
              go_simp
              first
              | rfl
              | rw [if_neg (by omega)]
            try simp only [Act.put, List.setIfInBounds_toArray, List.set_cons_zero, List.set_cons_succ]
            refine wpAnyD_takeAt 3 (some 58) (v := ?_) rfl (by kernel_rfl) (by kernel_rfl) (by kernel_rfl) (by kernel_rfl) (by kernel_rfl) (fun _ _ _ h => h) (by exact ⟨g1, g2, g3⟩) (fun o hop => ?_) ?_
            rotate_left
            · injection hop with hop
              subst hop
              refine ⟨rfl, fun W hW => ?_⟩
              obtain ⟨s0, s1, s2⟩ := hW
              go_simp
              first
              | rfl
              | rw [if_neg (by omega)]
            try simp only [Act.put, List.setIfInBounds_toArray, List.set_cons_zero, List.set_cons_succ]
            refine wpAnyD_takeAt 4 (some 59) (v := ?_) rfl (by kernel_rfl) (by kernel_rfl) (by kernel_rfl) (by kernel_rfl) (by kernel_rfl) (fun _ _ _ h => h) (by exact ⟨g1, g2, g3⟩) (fun o hop => ?_) ?_
            rotate_left
            · injection hop with hop
              subst hop
              refine ⟨rfl, fun W hW => ?_⟩
              obtain ⟨s0, s1, s2⟩ := hW
              go_simp
              first
              | rfl
              | rw [if_neg (by omega)]
            try simp only [Act.put, List.setIfInBounds_toArray, List.set_cons_zero, List.set_cons_succ]
            refine wpAnyD_takeAt 5 (some 60) (v := ?_) rfl (by kernel_rfl) (by kernel_rfl) (by kernel_rfl) (by kernel_rfl) (by kernel_rfl) (fun _ _ _ h => h) (by exact ⟨g1, g2, g3⟩) (fun o hop => ?_) ?_
            rotate_left
            · injection hop with hop
              subst hop
              refine ⟨rfl, fun W hW => ?_⟩
              obtain ⟨s0, s1, s2⟩ := hW
              go_simp
              first
              | rfl
              | rw [if_neg (by omega)]
            try simp only [Act.put, List.setIfInBounds_toArray, List.set_cons_zero, List.set_cons_succ]
            refine wpAnyD_takeAt 6 (some 61) (v := ?_) rfl (by kernel_rfl) (by kernel_rfl) (by kernel_rfl) (by kernel_rfl) (by kernel_rfl) (fun _ _ _ h => h) (by exact ⟨g1, g2, g3⟩) (fun o hop => ?_) ?_
            rotate_left
            · injection hop with hop
              subst hop
              refine ⟨rfl, fun W hW => ?_⟩
              obtain ⟨s0, s1, s2⟩ := hW
              go_simp
              first
              | rfl
              | rw [if_neg (by omega)]
            try simp only [Act.put, List.setIfInBounds_toArray, List.set_cons_zero, List.set_cons_succ]
            refine wpAnyD_takeAt 7 (some 62) (v := ?_) rfl (by kernel_rfl) (by kernel_rfl) (by kernel_rfl) (by kernel_rfl) (by kernel_rfl) (fun _ _ _ h => h) (by exact ⟨g1, g2, g3⟩) (fun o hop => ?_) ?_
            rotate_left
            · injection hop with hop
              subst hop
              refine ⟨rfl, fun W hW => ?_⟩
              obtain ⟨s0, s1, s2⟩ := hW
              go_simp
              first
              | rfl
              | rw [if_neg (by omega)]
            try simp only [Act.put, List.setIfInBounds_toArray, List.set_cons_zero, List.set_cons_succ]
            refine wpAnyD_takeAt 10 (some 65) (v := ?_) rfl (by kernel_rfl) (by kernel_rfl) (by kernel_rfl) (by kernel_rfl) (by kernel_rfl) (fun _ _ _ h => h) (by exact ⟨g1, g2, g3⟩) (fun o hop => ?_) ?_
            rotate_left
            · injection hop with hop
              subst hop
              refine ⟨rfl, fun W hW => ?_⟩
              obtain ⟨s0, s1, s2⟩ := hW
              go_simp
              first
              | rfl
              | rw [if_neg (by omega)]
            try simp only [Act.put, List.setIfInBounds_toArray, List.set_cons_zero, List.set_cons_succ]
            refine wpAnyD_takeAt 11 (some 66) (v := ?_) rfl (by kernel_rfl) (by kernel_rfl) (by kernel_rfl) (by kernel_rfl) (by kernel_rfl) (fun _ _ _ h => h) (by exact ⟨g1, g2, g3⟩) (fun o hop => ?_) ?_
            rotate_left
            · injection hop with hop
              subst hop
              refine ⟨rfl, fun W hW => ?_⟩
              obtain ⟨s0, s1, s2⟩ := hW
              go_simp
              first
              | rfl
              | rw [if_neg (by omega)]
            try simp only [Act.put, List.setIfInBounds_toArray, List.set_cons_zero, List.set_cons_succ]
            refine wpAnyT_one (i := 8) (by kernel_rfl) rfl rfl (fun K' hK => ?_)
            go_simp
            go_at_call 17
            refine (HKB.out _).mono ?_
            rintro e w' ⟨rfl, hw'⟩
            obtain rfl := hw'.symm
            refine hK.out _ _ (fun _ => by exact ⟨g1, g2, g3⟩) ?_
            clear hK K'
            refine wpAnyD_takeAt 9 (some 64) (v := ?_) rfl (by kernel_rfl) (by kernel_rfl) (by kernel_rfl) (by kernel_rfl) (by kernel_rfl) (fun _ _ _ h => h) (by exact ⟨g1, g2, g3⟩) (fun o hop => ?_) ?_
            rotate_left
            · injection hop with hop
              subst hop
              refine ⟨rfl, fun W hW => ?_⟩
              obtain ⟨s0, s1, s2⟩ := hW
              go_simp
              first
              | rfl
              | rw [if_neg (by omega)]
            try simp only [Act.put, List.setIfInBounds_toArray, List.set_cons_zero, List.set_cons_succ]
            refine wpAnyD_takeAt 12 (some 67) (v := ?_) rfl (by kernel_rfl) (by kernel_rfl) (by kernel_rfl) (by kernel_rfl) (by kernel_rfl) (fun _ _ _ h => h) (by exact ⟨g1, g2, g3⟩) (fun o hop => ?_) ?_
            rotate_left
            · injection hop with hop
              subst hop
              refine ⟨rfl, fun W hW => ?_⟩
              obtain ⟨s0, s1, s2⟩ := hW
              go_simp
              first
              | rfl
              | rw [if_neg (by omega)]
            try simp only [Act.put, List.setIfInBounds_toArray, List.set_cons_zero, List.set_cons_succ]
            refine wpAnyD_takeAt 13 (some 68) (v := ?_) rfl (by kernel_rfl) (by kernel_rfl) (by kernel_rfl) (by kernel_rfl) (by kernel_rfl) (fun _ _ _ h => h) (by exact ⟨g1, g2, g3⟩) (fun o hop => ?_) ?_
            rotate_left
            · injection hop with hop
              subst hop
              refine ⟨rfl, fun W hW => ?_⟩
              obtain ⟨s0, s1, s2⟩ := hW
              go_simp
              first
              | rfl
              | rw [if_neg (by omega)]
            try simp only [Act.put, List.setIfInBounds_toArray, List.set_cons_zero, List.set_cons_succ]
            refine wpAnyT_one (i := 14) (by kernel_rfl) rfl rfl (fun K' hK => ?_)
            go_simp
            refine hK.out _ _ (fun h => absurd rfl h) ?_
            clear hK K'
            refine wpAnyT_done (by kernel_rfl) ?_ _
            go_wp2
            go_meet
            case rel => exact ⟨rfl, bb, HOKD, HDN.out, HFN.out.more ((Below.refl _ _).drew), own_below HDVN.out ((Below.refl _ _).drew) (Nat.le_refl _), own_below HFEN.out ((Below.refl _ _).drew) (Nat.le_refl _), own_below HDRN.out ((Below.refl _ _).drew) (Nat.le_refl _)⟩
        case rest =>
          obtain ⟨rfl, bb, HOKD, HDC7, HFB7, HDV7, HFE7, HDR7⟩ := hcut
          obtain ⟨w7, hw7⟩ : ∃ z, z = wc := ⟨_, rfl⟩
          rw [← hw7] at HDC7 HFB7 HDV7 HFE7 HDR7 ⊢
          clear hw7 HDC HFE6 HDR6 HX6 g0 HFB6 HDV6 HDG HKB
          obtain ⟨i45, hi45, h450, h451, h452⟩ := info_parts Try.info45
          have z3 : w7.cell? ⟨Z, 3, none⟩ = some (.slice va k vc) := (cells_at HFB7.out.hZ 3).trans rfl
          have c0' : w7.cell? ⟨D, 0, none⟩ = some (.int .i64 (1 + (kc : Int))) := (cells_at HDC7.out 0).trans rfl
          have c1' : w7.cell? ⟨D, 1, none⟩ = some (.int .i64 (ac : Int)) := (cells_at HDC7.out 1).trans rfl
          have c2' : w7.cell? ⟨D, 2, none⟩ = some (.int .i64 (bb : Int)) := (cells_at HDC7.out 2).trans rfl
          have c3' : w7.cell? ⟨D, 3, none⟩ = some (.bool false) := (cells_at HDC7.out 3).trans rfl
          have HZW : Hid (w.heap.size ≤ w7.heap.size) := HFB7.out.bel.size
          have hone : ∀ u ∈ DevM.cells (⟨1 + (kc : Int), (ac : Int), (bb : Int), false⟩ : DevM), u.oneCell' = true := fun u hu => devs_one [(⟨1 + (kc : Int), (ac : Int), (bb : Int), false⟩ : DevM)] u (by rw [List.flatMap_cons, List.flatMap_nil, List.append_nil]; exact hu)
          go_wp2_with (at_builtin; refine wpList_append_own _ rfl _ _ 23 rfl w.heap.size 45 i45 _ 4 32 Try.underlying23 hi45 h450 h451 h452 rfl (by decide) _ _ _ rfl (HDV7.out.alloc _) ⟨w7.heap.size, 0, none⟩ 1 1 (DevM.cells (⟨1 + (kc : Int), (ac : Int), (bb : Int), false⟩ : DevM)) rfl rfl (cell_news _ (DevM.cells (⟨1 + (kc : Int), (ac : Int), (bb : Int), false⟩ : DevM)) 45) hone (by unfold maxLen; omega) (by omega) (by have := HZW.out; simp; omega) ?_; intro v' w8 hown' hgrow _; refine Still.go ?_)
          unfold Still
          have hg : (w7.alloc (.cells (DevM.cells (⟨1 + (kc : Int), (ac : Int), (bb : Int), false⟩ : DevM)).toArray 45)).grownBy w8 (Value.slice va k vc).ownBlock := hgrow
          have HKE : Hid (KeepE 45 w7 w8) := (KeepE.alloc 45 w7 _).trans (KeepE.grown (HDV7.out.alloc _) hg)
          have HB8 := hide' (below_app HFB7.out.bel HDV7.out (Nat.le_refl _) HFB7.out.bel.size hg)
          have HFB8 : Hid (FB w w8 Rb A Z #[.int .i64 r.points, .int .i64 r.fed, .int .i64 r.drawn, .slice (some ⟨bt, ot, none⟩) r.devs.length cg] #[.int .i64 (n : Int), .slice (some ⟨Fb, 0, none⟩) 1 1, .slice (some ⟨Db, 0, none⟩) 1 1, .slice va k vc]) := ⟨(HKE.out _ _ _ _ HFB7.out.hR (by decide)).trans HFB7.out.hR, (HKE.out _ _ _ _ HFB7.out.hA (by decide)).trans HFB7.out.hA, (HKE.out _ _ _ _ HFB7.out.hZ (by decide)).trans HFB7.out.hZ, HFB7.out.nAZ, HFB7.out.sA, HFB7.out.sZ, HB8.out⟩
          have HFE8 := hide' (own_keep HFE7.out HKE.out (by decide))
          have HDR8 := hide' (own_keep HDR7.out HKE.out (by decide))
          have HDV8 : Hid (w8.ownsRow w.heap.size 45 4 v' (ds ++ [(⟨1 + (kc : Int), (ac : Int), (bb : Int), false⟩ : DevM)]).length ((ds ++ [(⟨1 + (kc : Int), (ac : Int), (bb : Int), false⟩ : DevM)]).flatMap DevM.cells)) := by
            have h1 := hown'
            rw [List.length_append, List.length_singleton, List.flatMap_append, List.flatMap_cons, List.flatMap_nil, List.append_nil]
            exact h1
          obtain ⟨va', vc', hv⟩ := own_slice HDV8.out
          rw [List.length_append, List.length_singleton, hdk] at hv
          subst hv
          have z3' : w8.cell? ⟨Z, 3, none⟩ = some (.slice va k vc) := (cells_at HFB8.out.hZ 3).trans rfl
          have f3' : w8.frozen? ⟨Z, 3, none⟩ = false := frozen_no HFB8.out.hZ _
          have HFB9 : Hid (FB w (w8.setCell ⟨Z, 3, none⟩ (.slice va' (k + 1) vc')) Rb A Z #[.int .i64 r.points, .int .i64 r.fed, .int .i64 r.drawn, .slice (some ⟨bt, ot, none⟩) r.devs.length cg] #[.int .i64 (n : Int), .slice (some ⟨Fb, 0, none⟩) 1 1, .slice (some ⟨Db, 0, none⟩) 1 1, (.slice va' (k + 1) vc')]) := HFB8.out.set (j := 3)
          have HKZ := hide' (keep_set HFB8.out.hZ 3 (.slice va' (k + 1) vc'))
          have HFE9 := hide' (own_keep HFE8.out HKZ.out (by decide))
          have HDR9 := hide' (own_keep HDR8.out HKZ.out (by decide))
          have HDV9 := hide' (own_keep HDV8.out HKZ.out (by decide))
          have HOK9 : Hid (∀ d ∈ ds ++ [(⟨1 + (kc : Int), (ac : Int), (bb : Int), false⟩ : DevM)], DevOk (n : Int) d ∧ d.shut = false) := fun d hd => by
            rcases List.mem_append.1 hd with h | h
            · exact HOK.out d h
            · rw [List.mem_singleton.1 h]; exact ⟨HOKD.out, rfl⟩
          clear hown' hgrow hg z3 c0' c1' c2' c3' HFB8 HFE8 HDR8 HDV8 HKE HKZ HB8
          go_wp2
          go_roundw
          case rel => exact ⟨k + 1, ds ++ [(⟨1 + (kc : Int), (ac : Int), (bb : Int), false⟩ : DevM)], .slice va' (k + 1) vc', by go_num, by omega, by omega, by simp; omega, HOK9, HFB9, HDV9, HFE9, HDR9⟩
          case measure => simp [intOf]; omega
    · obtain ⟨va, vc, hv⟩ := own_slice HDV.out
      rw [hdk] at hv
      subst hv
      have s0 : wr.cell? ⟨Z, 0, none⟩ = some (.int .i64 (n : Int)) := (cells_at HFB.out.hZ 0).trans rfl
      have b0 : wr.cell? ⟨A, 0, none⟩ = some (.int .i64 0) := (cells_at HFB.out.hA 0).trans rfl
      have e0 : wr.frozen? ⟨A, 0, none⟩ = false := frozen_no HFB.out.hA _
      have s1 : wr.cell? ⟨Z, 1, none⟩ = some (.slice (some ⟨Fb, 0, none⟩) 1 1) := (cells_at HFB.out.hZ 1).trans rfl
      have b1 : wr.cell? ⟨A, 1, none⟩ = some (.slice none 0 0) := (cells_at HFB.out.hA 1).trans rfl
      have e1 : wr.frozen? ⟨A, 1, none⟩ = false := frozen_no HFB.out.hA _
      have s2 : wr.cell? ⟨Z, 2, none⟩ = some (.slice (some ⟨Db, 0, none⟩) 1 1) := (cells_at HFB.out.hZ 2).trans rfl
      have b2 : wr.cell? ⟨A, 2, none⟩ = some (.slice none 0 0) := (cells_at HFB.out.hA 2).trans rfl
      have e2 : wr.frozen? ⟨A, 2, none⟩ = false := frozen_no HFB.out.hA _
      have s3 : wr.cell? ⟨Z, 3, none⟩ = some (.slice va k vc) := (cells_at HFB.out.hZ 3).trans rfl
      have b3 : wr.cell? ⟨A, 3, none⟩ = some (.slice none 0 0) := (cells_at HFB.out.hA 3).trans rfl
      have e3 : wr.frozen? ⟨A, 3, none⟩ = false := frozen_no HFB.out.hA _
      have hs9 : ∀ j, j ≠ A → ((((wr.setCell ⟨A, 0, none⟩ (.int .i64 (n : Int))).setCell ⟨A, 1, none⟩ (.slice (some ⟨Fb, 0, none⟩) 1 1)).setCell ⟨A, 2, none⟩ (.slice (some ⟨Db, 0, none⟩) 1 1)).setCell ⟨A, 3, none⟩ (.slice va k vc)).heap[j]? = wr.heap[j]? := fun j hj => by
        rw [Below.heap_setCell _ _ _ j hj, Below.heap_setCell _ _ _ j hj, Below.heap_setCell _ _ _ j hj, Below.heap_setCell _ _ _ j hj]
      have HAA : Hid (((((wr.setCell ⟨A, 0, none⟩ (.int .i64 (n : Int))).setCell ⟨A, 1, none⟩ (.slice (some ⟨Fb, 0, none⟩) 1 1)).setCell ⟨A, 2, none⟩ (.slice (some ⟨Db, 0, none⟩) 1 1)).setCell ⟨A, 3, none⟩ (.slice va k vc)).heap[A]? = some (.cells #[.int .i64 (n : Int), .slice (some ⟨Fb, 0, none⟩) 1 1, .slice (some ⟨Db, 0, none⟩) 1 1, .slice va k vc] 25 (0, 0))) := (set_any (set_any (set_any (set_any HFB.out.hA 0 _) 1 _) 2 _) 3 _).trans (by simp only [zero4, List.setIfInBounds_toArray, List.set_cons_zero, List.set_cons_succ])
      have HBF : Hid (Below w.heap.size w ((((wr.setCell ⟨A, 0, none⟩ (.int .i64 (n : Int))).setCell ⟨A, 1, none⟩ (.slice (some ⟨Fb, 0, none⟩) 1 1)).setCell ⟨A, 2, none⟩ (.slice (some ⟨Db, 0, none⟩) 1 1)).setCell ⟨A, 3, none⟩ (.slice va k vc))) := ((((HFB.out.bel.setCell (p := ⟨A, 0, none⟩) HFB.out.sA _).setCell (p := ⟨A, 1, none⟩) HFB.out.sA _).setCell (p := ⟨A, 2, none⟩) HFB.out.sA _).setCell (p := ⟨A, 3, none⟩) HFB.out.sA _)
      have hke : KeepE 25 wr ((((wr.setCell ⟨A, 0, none⟩ (.int .i64 (n : Int))).setCell ⟨A, 1, none⟩ (.slice (some ⟨Fb, 0, none⟩) 1 1)).setCell ⟨A, 2, none⟩ (.slice (some ⟨Db, 0, none⟩) 1 1)).setCell ⟨A, 3, none⟩ (.slice va k vc)) := fun j cur e1 fz hj he => hs9 j (fun e => by subst e; rw [HFB.out.hA] at hj; cases hj; exact he rfl)
      have HOF := hide' (own_keep HFE.out hke (by decide))
      have HPF := hide' (own_keep HDR.out hke (by decide))
      have HSF := hide' (own_keep HDV.out hke (by decide))
      have HMY : Hid (MayY (⟨(n : Int), [(fp : Int)], [(dp : Int)], ds⟩ : YardM)) := by
        refine ⟨⟨?_, ?_⟩, ?_, ?_, ?_, fun d hd => (HOK.out d hd).1⟩
        · show (1 : Int) ≤ n; omega
        · show (n : Int) ≤ 10; omega
        · show ds.length ≤ 10; omega
        · intro i x hi hx
          have h0 : i = 0 := by simp at hi; exact hi
          subst h0
          cases hx
          exact ⟨Int.natCast_nonneg _, by show (fp : Int) < n; omega, fun y h => absurd h (by omega)⟩
        · intro i x hi hx
          have h0 : i = 0 := by simp at hi; exact hi
          subst h0
          cases hx
          exact ⟨Int.natCast_nonneg _, by show (dp : Int) < n; omega, fun y h => absurd h (by omega)⟩
      clear hs9 hke HDV HFE HDR HFB
      by_cases h20 : k < r.devs.length
      all_goals
        go_wp2
        refine bodyPost_ret (results_cell_row rfl _ _ A 25 _ (0, 0) _ rfl HAA.out Try.underlying25 rfl (by kernel_rfl)) rfl ?_
        subst hdk
        exact ⟨(⟨(n : Int), [(fp : Int)], [(dp : Int)], ds⟩ : YardM), some ⟨Fb, 0, none⟩, some ⟨Db, 0, none⟩, va, 1, 1, vc, rfl, HMY.out, fun d hd => (HOK.out d hd).2, rfl, ⟨rowAt_of_own HOF.out, rowAt_of_own HPF.out, rowAt_of_own HSF.out⟩, HBF.out⟩
end Go.Proofs.Ytcnoipcpifackah
