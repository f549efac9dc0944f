/- Contract: a line of the kind load, in the document's answer. -/
import Derived.Test.YtjmadnpcadidhaaDoorB2
namespace Go.Proofs.YtjmadnpcadidhaaDoor
open Go.RowKit

/-- What is wrong with a line of the kind load; 0: nothing. -/
def loadE (n : NetM) (x p y : ByteArray) : Int :=
  if newNameE n x n.loads.length 16 ≠ 0 then newNameE n x n.loads.length 16 else if placeL n.buses p < 0 then 9 else numsE [y] [0] [100000]
def loadM (n : NetM) (x p y : ByteArray) : LoadM := ⟨x, placeL n.buses p, numL (bytesOf y)⟩
theorem Tryd.info47 : (Tryd.prog.info? 47).map (fun i => (i.zero, i.size, i.bytes)) = some (some (.agg #[.string ⟨#[]⟩, .int .i64 0, .int .i64 0]), 3, 32) := by kernel_rfl
theorem Tryd.underlying25 : Tryd.prog.underlying 25 = some (.slice 47) := by kernel_rfl
theorem n47 : (47 : TypeId) ≠ 28 := by decide
theorem three_one {x : ByteArray} {a b : Int} : ∀ u ∈ [Value.string x, .int .i64 a, .int .i64 b], u.oneCell' = true := by
  intro u hu; simp at hu; rcases hu with rfl | rfl | rfl <;> rfl
theorem sizes_one {y : ByteArray} (hy : y.size ≤ 20000) : ∀ x ∈ [y], x.size ≤ 20000 := by
  intro x hx; simp at hx; subst hx; exact hy

set_option maxRecDepth 100000 in
set_option maxHeartbeats 8000000 in
theorem readLine_load (b l g d t : Value) (bw ow cw : Nat) (n : NetM) (x p y : ByteArray) (B : Nat) (w : World) (ho : Owns w B b l g d t n) (hf : Fits n)
    (hc0 : w.cell? ⟨bw, ow, none⟩ = some (.string kLoad)) (hc1 : w.cell? ⟨bw, ow + 1, none⟩ = some (.string x)) (hc2 : w.cell? ⟨bw, ow + 2, none⟩ = some (.string p)) (hc3 : w.cell? ⟨bw, ow + 3, none⟩ = some (.string y))
    (HNB : Hid (some bw ≠ d.ownBlock)) (hcw : 4 ≤ cw) (hcm : cw ≤ 9223372036854775807) (hB : B ≤ w.heap.size) (hsx : x.size ≤ 20000) (hsy : y.size ≤ 20000) :
    Calls Tryd.prog 12 #[.agg #[.string n.name, b, l, g, d, t], .slice (some ⟨bw, ow, none⟩) 4 cw] w fun e w' => ∃ v' : Value, e = .returned (.tuple #[v', .int .i64 (loadE n x p y)]) ∧
      (loadE n x p y = 0 → ∃ d' : Value, v' = .agg #[.string n.name, b, l, g, d', t] ∧ Owns w' B b l g d' t { n with loads := n.loads ++ [loadM n x p y] }) ∧ Below B w w' ∧ NetV v' := by
  obtain ⟨ab, cb, rfl⟩ := own_slice ho.hb
  obtain ⟨al, cl, rfl⟩ := own_slice ho.hl
  obtain ⟨ag, cg, rfl⟩ := own_slice ho.hg
  obtain ⟨ad, cd, rfl⟩ := own_slice ho.hd
  obtain ⟨at', ct, rfl⟩ := own_slice ho.ht
  have hbl : bw < w.heap.size := World.block_lt_of_cell? w _ hc1
  have HO := hide' ho
  have q0 : ∀ o1 o2, ((w.alloc o1).alloc o2).cell? ⟨bw, ow, none⟩ = some (.string kLoad) := fun o1 o2 => ((((Below.refl _ w).alloc (Nat.le_refl _) o1).alloc (by simp) o2).cell (p := ⟨bw, ow, none⟩) hbl).trans hc0
  clear ho hc0
  have b0 : (kLoad.toList == [110, 101, 116]) = false := by rw [lit_beq]; decide
  have b1 : (kLoad.toList == [98, 117, 115]) = false := by rw [lit_beq]; decide
  have b2 : (kLoad.toList == [108, 105, 110, 101]) = false := by rw [lit_beq]; decide
  have b3 : (kLoad.toList == [103, 101, 110]) = false := by rw [lit_beq]; decide
  have b4 : (kLoad.toList == [108, 111, 97, 100]) = true := by rw [lit_beq]; decide
  have HCM := hide' hcm
  clear hcm
  obtain ⟨E1, hE1⟩ : ∃ E1, newNameE n x n.loads.length 16 = E1 := ⟨_, rfl⟩
  obtain ⟨E2, hE2⟩ : ∃ E2, placeL n.buses p = E2 := ⟨_, rfl⟩
  obtain ⟨E3, hE3⟩ : ∃ E3, numsE [y] [0] [100000] = E3 := ⟨_, rfl⟩
  have HE : Hid (loadE n x p y = if E1 ≠ 0 then E1 else if E2 < 0 then 9 else E3) := by show _ = _; unfold loadE; rw [hE1, hE2, hE3]
  have HE1 := hide' hE1
  have HE2 := hide' hE2
  have HE3 := hide' hE3
  clear hE1 hE2 hE3
  go_enter Tryd.func12, Tryd.ntmps12
  go_wp2_with fail
  obtain ⟨W0, hW0⟩ : ∃ W0, (w.alloc (Obj.cells #[Value.string n.name, .slice ab n.buses.length cb, .slice al n.lines.length cl, .slice ag n.gens.length cg, .slice ad n.loads.length cd, .slice at' n.ties.length ct] 28)).alloc (Obj.cells #[Value.string { data := #[] }, Value.slice none 0 0, Value.slice none 0 0, Value.slice none 0 0, Value.slice none 0 0, Value.slice none 0 0] 28) = W0 := ⟨_, rfl⟩
  rw [hW0]
  have hR := hide' (RL.mk' w _ _ _ _ _ _ W0 hW0)
  have csOf : ∀ W, Below (w.heap.size + 2) W0 W → W.cell? ⟨w.heap.size, 0, none⟩ = some (.string n.name) ∧ W.cell? ⟨w.heap.size, 1, none⟩ = some (.slice ab n.buses.length cb) ∧ W.cell? ⟨w.heap.size, 2, none⟩ = some (.slice al n.lines.length cl) ∧ W.cell? ⟨w.heap.size, 3, none⟩ = some (.slice ag n.gens.length cg) ∧ W.cell? ⟨w.heap.size, 4, none⟩ = some (.slice ad n.loads.length cd) ∧ W.cell? ⟨w.heap.size, 5, none⟩ = some (.slice at' n.ties.length ct) ∧ W.cell? ⟨bw, ow + 1, none⟩ = some (.string x) ∧ W.cell? ⟨bw, ow + 2, none⟩ = some (.string p) ∧ W.cell? ⟨bw, ow + 3, none⟩ = some (.string y) ∧ Below (w.heap.size + 2) W0 W := fun W hW => by
    have wc : ∀ j u, w.cell? ⟨bw, ow + j, none⟩ = some u → W.cell? ⟨bw, ow + j, none⟩ = some u := fun j u h => (hW.cell (p := ⟨bw, ow + j, none⟩) (by show bw < _; omega)).trans ((hR.out.below.cell (p := ⟨bw, ow + j, none⟩) hbl).trans h)
    have X := hR.out.box6.below hW (by omega)
    exact ⟨X.h0, X.h1, X.h2, X.h3, X.h4, X.h5, wc 1 _ hc1, wc 2 _ hc2, wc 3 _ hc3, hW⟩
  have CS := hide' csOf
  clear csOf hW0 q0 hc1 hc2 hc3
  have HOW : Hid (∀ W, Below (w.heap.size + 2) W0 W → Owns W B (.slice ab n.buses.length cb) (.slice al n.lines.length cl) (.slice ag n.gens.length cg) (.slice ad n.loads.length cd) (.slice at' n.ties.length ct) n) := fun W hW => (HO.out.below hR.out.below (Nat.le_refl _)).below hW (by rw [hR.out.size]; exact Nat.le_refl _)
  go_region_held3 (fun W => W.cell? ⟨w.heap.size, 0, none⟩ = some (.string n.name) ∧ W.cell? ⟨w.heap.size, 1, none⟩ = some (.slice ab n.buses.length cb) ∧ W.cell? ⟨w.heap.size, 2, none⟩ = some (.slice al n.lines.length cl) ∧ W.cell? ⟨w.heap.size, 3, none⟩ = some (.slice ag n.gens.length cg) ∧ W.cell? ⟨w.heap.size, 4, none⟩ = some (.slice ad n.loads.length cd) ∧ W.cell? ⟨w.heap.size, 5, none⟩ = some (.slice at' n.ties.length ct) ∧ W.cell? ⟨bw, ow + 1, none⟩ = some (.string x) ∧ W.cell? ⟨bw, ow + 2, none⟩ = some (.string p) ∧ W.cell? ⟨bw, ow + 3, none⟩ = some (.string y) ∧ Below (w.heap.size + 2) W0 W)
    (first | exact CS.out _ (Below.refl _ _).drew | exact CS.out _ ((Below.refl _ _).drew.trans (hB1.mono (by simp [hR.out.size]))))
    (first | (go_at_call 19; refine (newName_any _ n x _ _ _ ?_ hf hsx).mono ?_; exact (HOW.out _ (Below.refl _ _).drew).at; rw [HE1.out]; rintro e wx ⟨rfl, hB1⟩))
  have hBx := hide' ((Below.refl (w.heap.size + 2) W0).drew.trans (hB1.mono (by simp [hR.out.size])))
  clear hB1
  by_cases e1 : E1 ≠ 0
  · have e1' : (E1 != 0) = true := by simpa using e1
    have HP : Hid (loadE n x p y = E1) := by have := HE.out; rwa [if_pos e1] at this
    obtain ⟨u0, u1, u2, u3, u4, u5, Y0⟩ := hR.out.res6
    have Y1 := Y0.below hBx.out (by omega)
    have y0 := Y1.h0
    have y1 := Y1.h1
    have y2 := Y1.h2
    have y3 := Y1.h3
    have y4 := Y1.h4
    have y5 := Y1.h5
    have fy := Y1.f
    clear Y0 Y1
    go_wp2
    refine bodyPost_ret (v := .tuple #[.agg #[.string n.name, .slice ab n.buses.length cb, .slice al n.lines.length cl, .slice ag n.gens.length cg, .slice ad n.loads.length cd, .slice at' n.ties.length ct], .int .i64 E1]) (by simp [results, Tryd.results12, go_sem, y0, y1, y2, y3, y4, y5]) rfl ⟨_, by rw [HP.out], fun h => absurd (HP.out.symm.trans h) e1, err_below (rl_below0 hR.out hB hBx.out) hB _ _ _ _ _ _, netV_mk⟩
  have e1' : (E1 != 0) = false := by simpa using e1
  have HB : Hid (E1 = 0) := by show E1 = 0; simpa using e1'
  have HE0 : Hid (loadE n x p y = if E2 < 0 then 9 else E3) := by have := HE.out; rwa [if_neg e1] at this
  clear HE e1
  go_wp2_with fail
  go_region_held3 (fun W => W.cell? ⟨w.heap.size, 0, none⟩ = some (.string n.name) ∧ W.cell? ⟨w.heap.size, 1, none⟩ = some (.slice ab n.buses.length cb) ∧ W.cell? ⟨w.heap.size, 2, none⟩ = some (.slice al n.lines.length cl) ∧ W.cell? ⟨w.heap.size, 3, none⟩ = some (.slice ag n.gens.length cg) ∧ W.cell? ⟨w.heap.size, 4, none⟩ = some (.slice ad n.loads.length cd) ∧ W.cell? ⟨w.heap.size, 5, none⟩ = some (.slice at' n.ties.length ct) ∧ W.cell? ⟨bw, ow + 1, none⟩ = some (.string x) ∧ W.cell? ⟨bw, ow + 2, none⟩ = some (.string p) ∧ W.cell? ⟨bw, ow + 3, none⟩ = some (.string y) ∧ Below (w.heap.size + 2) W0 W)
    (first | exact CS.out _ hBx.out.drew)
    (first | (go_at_call 22; refine (placeOf_any _ n.buses p _ ?_ (by have := hf.1; omega)).mono ?_; exact rowAt_of_own (HOW.out _ hBx.out.drew).hb; rw [HE2.out]; rintro e wy ⟨rfl, hw'⟩; obtain rfl := hw'.symm))
  have hBy := hide' hBx.out.drew
  by_cases e2 : E2 < 0
  · have e2' : decide (E2 < 0) = true := by simpa using e2
    have HP : Hid (loadE n x p y = 9) := by have := HE0.out; rwa [if_pos e2] at this
    obtain ⟨u0, u1, u2, u3, u4, u5, Y0⟩ := hR.out.res6
    have Y1 := Y0.below hBx.out (by omega)
    have y0 := Y1.h0
    have y1 := Y1.h1
    have y2 := Y1.h2
    have y3 := Y1.h3
    have y4 := Y1.h4
    have y5 := Y1.h5
    have fy := Y1.f
    clear Y0 Y1
    go_wp2
    refine bodyPost_ret (v := .tuple #[.agg #[.string n.name, .slice ab n.buses.length cb, .slice al n.lines.length cl, .slice ag n.gens.length cg, .slice ad n.loads.length cd, .slice at' n.ties.length ct], .int .i64 9]) (by simp [results, Tryd.results12, go_sem, y0, y1, y2, y3, y4, y5]) rfl ⟨_, by rw [HP.out], fun h => absurd (HP.out.symm.trans h) (by decide), (err_below (rl_below0 hR.out hB hBx.out) hB _ _ _ _ _ _).drew, netV_mk⟩
  have HE00 : Hid (loadE n x p y = E3) := by have := HE0.out; rwa [if_neg e2] at this
  clear HE0
  have ncw : ¬ cw = 3 := by omega
  go_wp2_with fail
  obtain ⟨k0, k1, k2, k3, k4, k5, kw1, kw2, kw3, -⟩ := CS.out _ hBy.out
  have hszy : w.heap.size + 2 ≤ wx.heap.size := by have := hBx.out.size; rw [hR.out.size] at this; exact this
  have hT : TextsAt ((wx.alloc (Obj.cells #[Value.int IntKind.i64 0] 3)).alloc (Obj.cells #[Value.int IntKind.i64 100000] 3)).drew (.slice (some ⟨bw, ow + 3, none⟩) 1 (cw - 3)) [y] := rowAt_one (later (later kw3 _) _)
  have hlo : IntsAt ((wx.alloc (Obj.cells #[Value.int IntKind.i64 0] 3)).alloc (Obj.cells #[Value.int IntKind.i64 100000] 3)).drew (.slice (some ⟨wx.heap.size, 0, none⟩) 1 1) [0] := rowAt_one (by simp)
  have hhi : IntsAt ((wx.alloc (Obj.cells #[Value.int IntKind.i64 0] 3)).alloc (Obj.cells #[Value.int IntKind.i64 100000] 3)).drew (.slice (some ⟨wx.heap.size + 1, 0, none⟩) 1 1) [100000] := rowAt_one (by simp)
  refine (numbersIn_any _ _ _ [y] [0] [100000] _ hT hlo hhi rfl rfl (by simp) (sizes_one hsy)).mono ?_
  rw [HE3.out]
  rintro e wz ⟨u, rfl, hu, hB3⟩
  have hBz := hide' ((hBx.out.trans (((Below.refl (w.heap.size + 2) wx).alloc hszy (Obj.cells #[Value.int IntKind.i64 0] 3)).alloc (by simp; omega) (Obj.cells #[Value.int IntKind.i64 100000] 3))).trans ((Below.refl _ _).drew.trans (hB3.mono (by simp; omega))))
  have HU := hide' hu
  clear k0 k1 k2 k3 k4 k5 kw1 kw2 kw3 hT hlo hhi hu hB3
  obtain ⟨k0, k1, k2, k3, k4, k5, kw1, -, -, -⟩ := CS.out wz hBz.out
  by_cases e3 : E3 ≠ 0
  · have e3' : (E3 != 0) = true := by simpa using e3
    have HP : Hid (loadE n x p y = E3) := by exact HE00.out
    obtain ⟨u0, u1, u2, u3, u4, u5, Y0⟩ := hR.out.res6
    have Y1 := Y0.below hBz.out (by omega)
    have y0 := Y1.h0
    have y1 := Y1.h1
    have y2 := Y1.h2
    have y3 := Y1.h3
    have y4 := Y1.h4
    have y5 := Y1.h5
    have fy := Y1.f
    clear Y0 Y1
    go_wp2
    refine bodyPost_ret (v := .tuple #[.agg #[.string n.name, .slice ab n.buses.length cb, .slice al n.lines.length cl, .slice ag n.gens.length cg, .slice ad n.loads.length cd, .slice at' n.ties.length ct], .int .i64 E3]) (by simp [results, Tryd.results12, go_sem, y0, y1, y2, y3, y4, y5]) rfl ⟨_, by rw [HP.out], fun h => absurd (HP.out.symm.trans h) e3, err_below (rl_below0 hR.out hB hBz.out) hB _ _ _ _ _ _, netV_mk⟩
  have e3' : (E3 != 0) = false := by simpa using e3
  have e30 := Decidable.of_not_not e3
  obtain ⟨gu, cu, rfl, hgu, hcu, hcu2, hcu3⟩ := own_cells (HU.out e30) (by simp)
  have HEF : Hid (loadE n x p y = 0) := HE00.out.trans e30
  have l0 : wz.cell? ⟨gu, 0, none⟩ = some (.int .i64 (numL (bytesOf y))) := hcu 0 _ rfl
  have how := hide' (HOW.out wz hBz.out)
  have HNG : Hid (some gu ≠ (Value.slice ad n.loads.length cd).ownBlock) := fun h => by have := (HO.out.hd.lt gu h.symm).2; have h2 := hgu; have := hBx.out.size; have := hR.out.size; simp at h2; omega
  have HNW : Hid (some bw ≠ (Value.slice ad n.loads.length cd).ownBlock) := HNB
  have X0 := hR.out.box6.below hBz.out (by omega)
  have fxf : wz.frozen? ⟨w.heap.size, 4, none⟩ = false := X0.f 4
  have BX := hide' X0.box
  have kf : wz.cell? ⟨w.heap.size, 4, none⟩ = some (.slice ad n.loads.length cd) := X0.h4
  have hszz : w.heap.size + 2 ≤ wz.heap.size := by have := hBz.out.size; rw [hR.out.size] at this; exact this
  have hlen := hf.2.2.2.1
  obtain ⟨i0, hi, hz0, hz1, hz2⟩ := info_parts Tryd.info47
  have a2 := later kf
  have m0 := later kw1
  have m1 := later l0
  have HB1 : Hid (n.loads.length + 1 ≤ maxLen) := by show _ ≤ _; unfold maxLen; omega
  have HB2 : Hid ((n.loads.length + 1) * 32 ≤ 140737488355328) := by show _ ≤ _; omega
  have HB4 : Hid (∀ o, B ≤ (wz.alloc o).drew.heap.size) := fun o => by show B ≤ (wz.alloc o).heap.size; rw [World.size_alloc]; omega
  have HC1 : Hid (∀ j u, [.string x, .int .i64 E2, .int .i64 (numL (bytesOf y))][j]? = some u → (wz.alloc (Obj.cells #[.string x, .int .i64 E2, .int .i64 (numL (bytesOf y))] 47)).drew.cell? ((⟨wz.heap.size, 0, none⟩ : Addr).add j) = some u) := cell_news wz _ 47
  have HA : Hid ((wz.alloc (Obj.cells #[.string x, .int .i64 E2, .int .i64 (numL (bytesOf y))] 47)).drew.ownsRow B 47 3 (.slice ad n.loads.length cd) n.loads.length (n.loads.flatMap LoadM.cells)) := how.out.hd.alloc _
  clear X0 hcu e3 HU e30 k0 k1 k2 k3 k4 k5
  go_wp2_with fail
  have HS0 : Hid (wz.cell? ⟨w.heap.size, 4, none⟩ = some (.slice ad n.loads.length cd) ∧ wz.cell? ⟨bw, ow + 1, none⟩ = some (.string x) ∧ wz.cell? ⟨gu, 0, none⟩ = some (.int .i64 (numL (bytesOf y)))) := ⟨kf, kw1, l0⟩
  refine wp_region_tail (fun W => W.cell? ⟨w.heap.size, 4, none⟩ = some (.slice ad n.loads.length cd) ∧ W.cell? ⟨bw, ow + 1, none⟩ = some (.string x) ∧ W.cell? ⟨gu, 0, none⟩ = some (.int .i64 (numL (bytesOf y)))) 13 (by kernel_rfl) ?_
  refine wpAnyT_takeAt 0 (some 219) (v := ?_) rfl (by kernel_rfl) (by kernel_rfl) (by kernel_rfl) rfl (by kernel_rfl) (fun _ _ _ h => h) (by exact HS0.out) (fun o hop => ?_) ?_
  rotate_left
  · injection hop with hop
    subst hop
    refine ⟨rfl, fun W hW => ?_⟩
    obtain ⟨s1, s2, s3⟩ := hW
    go_simp
    try rfl
  try simp only [Act.put, List.setIfInBounds_toArray, List.set_cons_zero, List.set_cons_succ]
  refine wpAnyT_takeAt 1 (some 220) (v := ?_) rfl (by kernel_rfl) (by kernel_rfl) (by kernel_rfl) rfl (by kernel_rfl) (fun _ _ _ h => h) (by exact HS0.out) (fun o hop => ?_) ?_
  rotate_left
  · injection hop with hop
    subst hop
    refine ⟨rfl, fun W hW => ?_⟩
    obtain ⟨s1, s2, s3⟩ := hW
    go_simp
    try rfl
  try simp only [Act.put, List.setIfInBounds_toArray, List.set_cons_zero, List.set_cons_succ]
  refine wpAnyT_takeAt 2 (some 221) (v := ?_) rfl (by kernel_rfl) (by kernel_rfl) (by kernel_rfl) rfl (by kernel_rfl) (fun _ _ _ h => h) (by exact HS0.out) (fun o hop => ?_) ?_
  rotate_left
  · injection hop with hop
    subst hop
    refine ⟨rfl, fun W hW => ?_⟩
    obtain ⟨s1, s2, s3⟩ := hW
    go_simp
    try rfl
  try simp only [Act.put, List.setIfInBounds_toArray, List.set_cons_zero, List.set_cons_succ]
  refine wpAnyT_takeAt 3 (some 222) (v := ?_) rfl (by kernel_rfl) (by kernel_rfl) (by kernel_rfl) rfl (by kernel_rfl) (fun _ _ _ h => h) (by exact HS0.out) (fun o hop => ?_) ?_
  rotate_left
  · injection hop with hop
    subst hop
    refine ⟨rfl, fun W hW => ?_⟩
    obtain ⟨s1, s2, s3⟩ := hW
    go_simp
    try rfl
  try simp only [Act.put, List.setIfInBounds_toArray, List.set_cons_zero, List.set_cons_succ]
  refine wpAnyT_takeAt 4 (some 223) (v := ?_) rfl (by kernel_rfl) (by kernel_rfl) (by kernel_rfl) rfl (by kernel_rfl) (fun _ _ _ h => h) (by exact HS0.out) (fun o hop => ?_) ?_
  rotate_left
  · injection hop with hop
    subst hop
    refine ⟨rfl, fun W hW => ?_⟩
    obtain ⟨s1, s2, s3⟩ := hW
    go_simp
    try rfl
  try simp only [Act.put, List.setIfInBounds_toArray, List.set_cons_zero, List.set_cons_succ]
  refine wpAnyT_takeAt 5 (some 224) (v := ?_) rfl (by kernel_rfl) (by kernel_rfl) (by kernel_rfl) rfl (by kernel_rfl) (fun _ _ _ h => h) (by exact HS0.out) (fun o hop => ?_) ?_
  rotate_left
  · injection hop with hop
    subst hop
    refine ⟨rfl, fun W hW => ?_⟩
    obtain ⟨s1, s2, s3⟩ := hW
    go_simp
    try rfl
  try simp only [Act.put, List.setIfInBounds_toArray, List.set_cons_zero, List.set_cons_succ]
  refine wpAnyT_takeAt 6 (some 225) (v := ?_) rfl (by kernel_rfl) (by kernel_rfl) (by kernel_rfl) rfl (by kernel_rfl) (fun _ _ _ h => h) (by exact HS0.out) (fun o hop => ?_) ?_
  rotate_left
  · injection hop with hop
    subst hop
    refine ⟨rfl, fun W hW => ?_⟩
    obtain ⟨s1, s2, s3⟩ := hW
    go_simp
    try rfl
  try simp only [Act.put, List.setIfInBounds_toArray, List.set_cons_zero, List.set_cons_succ]
  refine wpAnyT_takeAt 7 (some 226) (v := ?_) rfl (by kernel_rfl) (by kernel_rfl) (by kernel_rfl) rfl (by kernel_rfl) (fun _ _ _ h => h) (by exact HS0.out) (fun o hop => ?_) ?_
  rotate_left
  · injection hop with hop
    subst hop
    refine ⟨rfl, fun W hW => ?_⟩
    obtain ⟨s1, s2, s3⟩ := hW
    go_simp
    try rfl
  try simp only [Act.put, List.setIfInBounds_toArray, List.set_cons_zero, List.set_cons_succ]
  refine wpAnyT_takeAt 8 (some 227) (v := ?_) rfl (by kernel_rfl) (by kernel_rfl) (by kernel_rfl) rfl (by kernel_rfl) (fun _ _ _ h => h) (by exact HS0.out) (fun o hop => ?_) ?_
  rotate_left
  · injection hop with hop
    subst hop
    refine ⟨rfl, fun W hW => ?_⟩
    obtain ⟨s1, s2, s3⟩ := hW
    go_simp
    try rfl
  try simp only [Act.put, List.setIfInBounds_toArray, List.set_cons_zero, List.set_cons_succ]
  refine wpAnyT_takeAt 9 (some 228) (v := ?_) rfl (by kernel_rfl) (by kernel_rfl) (by kernel_rfl) rfl (by kernel_rfl) (fun _ _ _ h => h) (by exact HS0.out) (fun o hop => ?_) ?_
  rotate_left
  · injection hop with hop
    subst hop
    refine ⟨rfl, fun W hW => ?_⟩
    obtain ⟨s1, s2, s3⟩ := hW
    go_simp
    try rfl
  try simp only [Act.put, List.setIfInBounds_toArray, List.set_cons_zero, List.set_cons_succ]
  refine wpAnyT_one (i := 10) (by kernel_rfl) rfl rfl (fun K hK => ?_)
  go_simp
  refine hK.out _ _ (fun _ => by exact ⟨a2 _, m0 _, m1 _⟩) ?_
  clear hK K
  try simp only [Act.put, List.setIfInBounds_toArray, List.set_cons_zero, List.set_cons_succ]
  refine wpAnyT_one (i := 11) (by kernel_rfl) rfl rfl (fun K hK => ?_)
  refine step_append_own (hg := rfl) (s := .tmp 220) (x := .tmp 229) (t := 25) (hop := rfl) (base := B) (e := 47) (i := i0) (z := .agg #[.string ⟨#[]⟩, .int .i64 0, .int .i64 0]) (size := 3) (bytes := 32) (h1 := Tryd.underlying25) (h2 := hi) (h3 := hz0) (h4 := hz1) (h5 := hz2) (h6 := rfl) (h7 := Nat.succ_pos 2) (v := .slice ad n.loads.length cd) (n := n.loads.length) (xs := n.loads.flatMap LoadM.cells) (hs := rfl) (hown := HA.out) (ad := ⟨wz.heap.size, 0, none⟩) (m := 1) (c := 1) (news := [.string x, .int .i64 E2, .int .i64 (numL (bytesOf y))]) (hx := rfl) (hn := rfl) (hc := HC1.out) (h1c := three_one) (b1 := HB1.out) (b2 := HB2.out) (b3 := HB4.out _) (hK := ?_)
  intro v' w1 hown' hgrow0
  have hgrow := undrew hgrow0
  obtain ⟨a', c', rfl⟩ := own_slice hown'
  obtain ⟨k11, f11⟩ := app_box hgrow how.out.hd BX.out n47 kf fxf
  have HS1 : Hid (w1.cell? ⟨w.heap.size, 4, none⟩ = some (.slice ad n.loads.length cd) ∧ w1.cell? ⟨bw, ow + 1, none⟩ = some (.string x) ∧ w1.cell? ⟨gu, 0, none⟩ = some (.int .i64 (numL (bytesOf y)))) := ⟨k11, grownC hgrow (m0 _) HNW.out, grownC hgrow (m1 _) HNG.out⟩
  clear hgrow0
  refine hK.out _ _ (fun _ => by exact HS1.out) ?_
  clear hK K
  refine wpAnyT_takeAt 12 (some 231) (v := ?_) rfl (by kernel_rfl) (by kernel_rfl) (by kernel_rfl) rfl (by kernel_rfl) (fun _ _ _ h => h) (by exact HS1.out) (fun o hop => ?_) ?_
  rotate_left
  · injection hop with hop
    subst hop
    refine ⟨rfl, fun W hW => ?_⟩
    obtain ⟨s1, s2, s3⟩ := hW
    go_simp
    try rfl
  refine wpAnyT_one (i := 13) (by kernel_rfl) rfl rfl (fun K hK => ?_)
  go_simp
  refine hK.out _ _ (fun h => absurd rfl h) ?_
  clear hK K
  refine wpAnyT_done (by kernel_rfl) ?_ _
  have X1 := (hR.out.box6.below hBz.out (by omega)).grow hgrow how.out.hd n47
  obtain ⟨u0, u1, u2, u3, u4, u5, Y0⟩ := hR.out.res6
  have Y1 := (Y0.below hBz.out (by omega)).grow hgrow how.out.hd n47
  have x0 := X1.h0
  have x1 := X1.h1
  have x2 := X1.h2
  have x3 := X1.h3
  have x5 := X1.h5
  have y0 := Y1.h0
  have y1 := Y1.h1
  have y2 := Y1.h2
  have y3 := Y1.h3
  have y4 := Y1.h4
  have y5 := Y1.h5
  have fy := Y1.f
  have XX := hide' X1
  have YY := hide' Y1
  have HG := hide' hgrow
  have HOW1 := hide' hown'
  clear hgrow hown' X1 Y1 Y0 HC1 HA HB1 HB2 HB4 a2 CS HOW kf fxf HS0 HS1 m0 m1
  go_wp2
  refine bodyPost_ret (v := .tuple #[.agg #[.string n.name, .slice ab n.buses.length cb, .slice al n.lines.length cl, .slice ag n.gens.length cg, .slice a' (n.loads.length + 1) c', .slice at' n.ties.length ct], .int .i64 E1]) (by simp [results, Tryd.results12, go_sem, y0, y1, y2, y3, y4, y5]) rfl ⟨_, by rw [HEF.out, HB.out], fun _ => ⟨_, rfl, ?_⟩, ?_, netV_mk⟩
  · refine out_owns (n := { n with loads := n.loads ++ [loadM n x p y] }) ⟨own_kept (how.out.hb.alloc _) (how.out.hd.alloc _) (by decide) HG.out, own_kept (how.out.hl.alloc _) (how.out.hd.alloc _) (by decide) HG.out, own_kept (how.out.hg.alloc _) (how.out.hd.alloc _) (by decide) HG.out, ?_, own_kept (how.out.ht.alloc _) (how.out.hd.alloc _) (by decide) HG.out⟩ XX.out.box YY.out.box _ _ _ _ _ _ _ _
    have := HOW1.out
    simpa [loadM, LoadM.cells, HE2.out] using this
  · exact out_below (rl_below hR.out hB hBz.out HG.out how.out.hd) hB _ _ _ _ _ _ _ _
end Go.Proofs.YtjmadnpcadidhaaDoor
