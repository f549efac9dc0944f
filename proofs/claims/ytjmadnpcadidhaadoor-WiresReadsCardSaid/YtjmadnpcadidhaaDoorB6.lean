/- Contract: a line of the kind tie, in the document's answer. -/
import Derived.Test.YtjmadnpcadidhaaDoorB5
namespace Go.Proofs.YtjmadnpcadidhaaDoor
open Go.RowKit

set_option maxRecDepth 100000 in
set_option maxHeartbeats 8000000 in
theorem readLine_tie_closed (b l g d t : Value) (bw ow cw : Nat) (n : NetM) (x p q s : ByteArray) (B : Nat) (w : World) (ho : Owns w B b l g d t n) (hf : Fits n)
    (hc0 : w.cell? ⟨bw, ow, none⟩ = some (.string kTie)) (hc1 : w.cell? ⟨bw, ow + 1, none⟩ = some (.string x)) (hc2 : w.cell? ⟨bw, ow + 2, none⟩ = some (.string p)) (hc3 : w.cell? ⟨bw, ow + 3, none⟩ = some (.string q)) (hc4 : w.cell? ⟨bw, ow + 4, none⟩ = some (.string s))
    (HNB : Hid (some bw ≠ t.ownBlock)) (_hcw : 5 ≤ cw) (hcm : cw ≤ 9223372036854775807) (hB : B ≤ w.heap.size) (hsx : x.size ≤ 20000) (ho1 : (s.toList == [111, 112, 101, 110]) = false) (ho2 : (s.toList == [99, 108, 111, 115, 101, 100]) = true) :
    Calls Tryd.prog 12 #[.agg #[.string n.name, b, l, g, d, t], .slice (some ⟨bw, ow, none⟩) 5 cw] w fun e w' => ∃ v' : Value, e = .returned (.tuple #[v', .int .i64 (tieE n x p q s)]) ∧
      (tieE n x p q s = 0 → ∃ t' : Value, v' = .agg #[.string n.name, b, l, g, d, t'] ∧ Owns w' B b l g d t' { n with ties := n.ties ++ [tieM n x p q s] }) ∧ Below B w w' ∧ NetV v' := by
  obtain ⟨ab, cb, rfl⟩ := own_slice ho.hb
  obtain ⟨al, cl, rfl⟩ := own_slice ho.hl
  obtain ⟨ag, cg, rfl⟩ := own_slice ho.hg
  obtain ⟨ad, cd, rfl⟩ := own_slice ho.hd
  obtain ⟨at', ct, rfl⟩ := own_slice ho.ht
  have hbl : bw < w.heap.size := World.block_lt_of_cell? w _ hc1
  have HO := hide' ho
  have q0 : ∀ o1 o2, ((w.alloc o1).alloc o2).cell? ⟨bw, ow, none⟩ = some (.string kTie) := fun o1 o2 => ((((Below.refl _ w).alloc (Nat.le_refl _) o1).alloc (by simp) o2).cell (p := ⟨bw, ow, none⟩) hbl).trans hc0
  clear ho hc0
  have b0 : (kTie.toList == [110, 101, 116]) = false := by rw [lit_beq]; decide
  have b1 : (kTie.toList == [98, 117, 115]) = false := by rw [lit_beq]; decide
  have b2 : (kTie.toList == [108, 105, 110, 101]) = false := by rw [lit_beq]; decide
  have b3 : (kTie.toList == [103, 101, 110]) = false := by rw [lit_beq]; decide
  have b4 : (kTie.toList == [108, 111, 97, 100]) = false := by rw [lit_beq]; decide
  have b5 : (kTie.toList == [116, 105, 101]) = true := by rw [lit_beq]; decide
  have HCM := hide' hcm
  clear hcm
  obtain ⟨E1, hE1⟩ : ∃ E1, newNameE n x n.ties.length 24 = E1 := ⟨_, rfl⟩
  obtain ⟨E2, hE2⟩ : ∃ E2, twoE n.buses p q = E2 := ⟨_, rfl⟩
  have HE : Hid (tieE n x p q s = if E1 ≠ 0 then E1 else if E2 ≠ 0 then E2 else if (s.toList == [111, 112, 101, 110]) = true ∨ (s.toList == [99, 108, 111, 115, 101, 100]) = true then 0 else 1) := by show _ = _; unfold tieE; rw [hE1, hE2]
  have HE1 := hide' hE1
  have HE2 := hide' hE2
  clear hE1 hE2
  go_enter Tryd.func12, Tryd.ntmps12
  go_wp2_with fail
  obtain ⟨W0, hW0⟩ : ∃ W0, (w.alloc (Obj.cells #[Value.string n.name, .slice ab n.buses.length cb, .slice al n.lines.length cl, .slice ag n.gens.length cg, .slice ad n.loads.length cd, .slice at' n.ties.length ct] 28)).alloc (Obj.cells #[Value.string { data := #[] }, Value.slice none 0 0, Value.slice none 0 0, Value.slice none 0 0, Value.slice none 0 0, Value.slice none 0 0] 28) = W0 := ⟨_, rfl⟩
  rw [hW0]
  have hR := hide' (RL.mk' w _ _ _ _ _ _ W0 hW0)
  have csOf : ∀ W, Below (w.heap.size + 2) W0 W → W.cell? ⟨w.heap.size, 0, none⟩ = some (.string n.name) ∧ W.cell? ⟨w.heap.size, 1, none⟩ = some (.slice ab n.buses.length cb) ∧ W.cell? ⟨w.heap.size, 2, none⟩ = some (.slice al n.lines.length cl) ∧ W.cell? ⟨w.heap.size, 3, none⟩ = some (.slice ag n.gens.length cg) ∧ W.cell? ⟨w.heap.size, 4, none⟩ = some (.slice ad n.loads.length cd) ∧ W.cell? ⟨w.heap.size, 5, none⟩ = some (.slice at' n.ties.length ct) ∧ W.cell? ⟨bw, ow + 1, none⟩ = some (.string x) ∧ W.cell? ⟨bw, ow + 2, none⟩ = some (.string p) ∧ W.cell? ⟨bw, ow + 3, none⟩ = some (.string q) ∧ W.cell? ⟨bw, ow + 4, none⟩ = some (.string s) ∧ Below (w.heap.size + 2) W0 W := fun W hW => by
    have wc : ∀ j u, w.cell? ⟨bw, ow + j, none⟩ = some u → W.cell? ⟨bw, ow + j, none⟩ = some u := fun j u h => (hW.cell (p := ⟨bw, ow + j, none⟩) (by show bw < _; omega)).trans ((hR.out.below.cell (p := ⟨bw, ow + j, none⟩) hbl).trans h)
    have X := hR.out.box6.below hW (by omega)
    exact ⟨X.h0, X.h1, X.h2, X.h3, X.h4, X.h5, wc 1 _ hc1, wc 2 _ hc2, wc 3 _ hc3, wc 4 _ hc4, hW⟩
  have CS := hide' csOf
  clear csOf hW0 q0 hc1 hc2 hc3 hc4
  have HOW : Hid (∀ W, Below (w.heap.size + 2) W0 W → Owns W B (.slice ab n.buses.length cb) (.slice al n.lines.length cl) (.slice ag n.gens.length cg) (.slice ad n.loads.length cd) (.slice at' n.ties.length ct) n) := fun W hW => (HO.out.below hR.out.below (Nat.le_refl _)).below hW (by rw [hR.out.size]; exact Nat.le_refl _)
  go_region_held3 (fun W => W.cell? ⟨w.heap.size, 0, none⟩ = some (.string n.name) ∧ W.cell? ⟨w.heap.size, 1, none⟩ = some (.slice ab n.buses.length cb) ∧ W.cell? ⟨w.heap.size, 2, none⟩ = some (.slice al n.lines.length cl) ∧ W.cell? ⟨w.heap.size, 3, none⟩ = some (.slice ag n.gens.length cg) ∧ W.cell? ⟨w.heap.size, 4, none⟩ = some (.slice ad n.loads.length cd) ∧ W.cell? ⟨w.heap.size, 5, none⟩ = some (.slice at' n.ties.length ct) ∧ W.cell? ⟨bw, ow + 1, none⟩ = some (.string x) ∧ W.cell? ⟨bw, ow + 2, none⟩ = some (.string p) ∧ W.cell? ⟨bw, ow + 3, none⟩ = some (.string q) ∧ W.cell? ⟨bw, ow + 4, none⟩ = some (.string s) ∧ Below (w.heap.size + 2) W0 W)
    (first | exact CS.out _ (Below.refl _ _).drew | exact CS.out _ ((Below.refl _ _).drew.trans (hB1.mono (by simp [hR.out.size]))))
    (first | (go_at_call 19; refine (newName_any _ n x _ _ _ ?_ hf hsx).mono ?_; exact (HOW.out _ (Below.refl _ _).drew).at; rw [HE1.out]; rintro e wx ⟨rfl, hB1⟩))
  have hBx := hide' ((Below.refl (w.heap.size + 2) W0).drew.trans (hB1.mono (by simp [hR.out.size])))
  clear hB1
  by_cases e1 : E1 ≠ 0
  · have e1' : (E1 != 0) = true := by simpa using e1
    have HP : Hid (tieE n x p q s = E1) := by have := HE.out; rwa [if_pos e1] at this
    obtain ⟨u0, u1, u2, u3, u4, u5, Y0⟩ := hR.out.res6
    have Y1 := Y0.below hBx.out (by omega)
    have y0 := Y1.h0
    have y1 := Y1.h1
    have y2 := Y1.h2
    have y3 := Y1.h3
    have y4 := Y1.h4
    have y5 := Y1.h5
    have fy := Y1.f
    clear Y0 Y1
    go_wp2
    refine bodyPost_ret (v := .tuple #[.agg #[.string n.name, .slice ab n.buses.length cb, .slice al n.lines.length cl, .slice ag n.gens.length cg, .slice ad n.loads.length cd, .slice at' n.ties.length ct], .int .i64 E1]) (by simp [results, Tryd.results12, go_sem, y0, y1, y2, y3, y4, y5]) rfl ⟨_, by rw [HP.out], fun h => absurd (HP.out.symm.trans h) e1, err_below (rl_below0 hR.out hB hBx.out) hB _ _ _ _ _ _, netV_mk⟩
  have e1' : (E1 != 0) = false := by simpa using e1
  have HB : Hid (E1 = 0) := by show E1 = 0; simpa using e1'
  have HE0 : Hid (tieE n x p q s = if E2 ≠ 0 then E2 else if (s.toList == [111, 112, 101, 110]) = true ∨ (s.toList == [99, 108, 111, 115, 101, 100]) = true then 0 else 1) := by have := HE.out; rwa [if_neg e1] at this
  clear HE e1
  go_wp2_with fail
  go_region_held3 (fun W => W.cell? ⟨w.heap.size, 0, none⟩ = some (.string n.name) ∧ W.cell? ⟨w.heap.size, 1, none⟩ = some (.slice ab n.buses.length cb) ∧ W.cell? ⟨w.heap.size, 2, none⟩ = some (.slice al n.lines.length cl) ∧ W.cell? ⟨w.heap.size, 3, none⟩ = some (.slice ag n.gens.length cg) ∧ W.cell? ⟨w.heap.size, 4, none⟩ = some (.slice ad n.loads.length cd) ∧ W.cell? ⟨w.heap.size, 5, none⟩ = some (.slice at' n.ties.length ct) ∧ W.cell? ⟨bw, ow + 1, none⟩ = some (.string x) ∧ W.cell? ⟨bw, ow + 2, none⟩ = some (.string p) ∧ W.cell? ⟨bw, ow + 3, none⟩ = some (.string q) ∧ W.cell? ⟨bw, ow + 4, none⟩ = some (.string s) ∧ Below (w.heap.size + 2) W0 W)
    (first | exact CS.out _ hBx.out.drew | exact CS.out _ (hBx.out.drew.trans (hB2.mono (by have := hBx.out.size; have := hR.out.size; simp; omega))))
    (first | (go_at_call 20; refine (twoBuses_any _ n p q _ ?_ hf).mono ?_; exact (HOW.out _ hBx.out.drew).at; rw [HE2.out]; rintro e wy ⟨pa, pb, rfl, hpab, hB2⟩))
  have hBy := hide' (hBx.out.drew.trans (hB2.mono (by have := hBx.out.size; have := hR.out.size; simp; omega)))
  have HPAB := hide' hpab
  clear hB2 hpab
  by_cases e2 : E2 ≠ 0
  · have e2' : (E2 != 0) = true := by simpa using e2
    have HP : Hid (tieE n x p q s = E2) := by have := HE0.out; rwa [if_pos e2] at this
    obtain ⟨u0, u1, u2, u3, u4, u5, Y0⟩ := hR.out.res6
    have Y1 := Y0.below hBy.out (by omega)
    have y0 := Y1.h0
    have y1 := Y1.h1
    have y2 := Y1.h2
    have y3 := Y1.h3
    have y4 := Y1.h4
    have y5 := Y1.h5
    have fy := Y1.f
    clear Y0 Y1
    go_wp2
    refine bodyPost_ret (v := .tuple #[.agg #[.string n.name, .slice ab n.buses.length cb, .slice al n.lines.length cl, .slice ag n.gens.length cg, .slice ad n.loads.length cd, .slice at' n.ties.length ct], .int .i64 E2]) (by simp [results, Tryd.results12, go_sem, y0, y1, y2, y3, y4, y5]) rfl ⟨_, by rw [HP.out], fun h => absurd (HP.out.symm.trans h) e2, err_below (rl_below0 hR.out hB hBy.out) hB _ _ _ _ _ _, netV_mk⟩
  have e2' : (E2 != 0) = false := by simpa using e2
  have HE00 : Hid (tieE n x p q s = if (s.toList == [111, 112, 101, 110]) = true ∨ (s.toList == [99, 108, 111, 115, 101, 100]) = true then 0 else 1) := by have := HE0.out; rwa [if_neg e2] at this
  obtain ⟨rfl, rfl⟩ := HPAB.out (Decidable.of_not_not e2)
  clear HE0 e2 HPAB
  obtain ⟨k0, k1, k2, k3, k4, k5, kw1, -, -, kw4, -⟩ := CS.out wy hBy.out
  have HEF : Hid (tieE n x p q s = 0) := by have := HE00.out; rwa [if_pos (by simp [ho1, ho2])] at this
  have how := hide' (HOW.out wy hBy.out)
  have X0 := hR.out.box6.below hBy.out (by omega)
  have fxf : wy.frozen? ⟨w.heap.size, 5, none⟩ = false := X0.f 5
  have BX := hide' X0.box
  have kf : wy.cell? ⟨w.heap.size, 5, none⟩ = some (.slice at' n.ties.length ct) := X0.h5
  have hszz : w.heap.size + 2 ≤ wy.heap.size := by have := hBy.out.size; rw [hR.out.size] at this; exact this
  have hlen := hf.2.2.2.2
  obtain ⟨i0, hi, hz0, hz1, hz2⟩ := info_parts Tryd.info49
  have a2 := later kf
  have m0 := later kw1
  have m1 := later kw4
  have HB1 : Hid (n.ties.length + 1 ≤ maxLen) := by show _ ≤ _; unfold maxLen; omega
  have HB2 : Hid ((n.ties.length + 1) * 40 ≤ 140737488355328) := by show _ ≤ _; omega
  have HB4 : Hid (∀ o, B ≤ (wy.alloc o).drew.heap.size) := fun o => by show B ≤ (wy.alloc o).heap.size; rw [World.size_alloc]; omega
  have HC1 : Hid (∀ j u, [.string x, .int .i64 (placeL n.buses p), .int .i64 (placeL n.buses q), .bool true][j]? = some u → (wy.alloc (Obj.cells #[.string x, .int .i64 (placeL n.buses p), .int .i64 (placeL n.buses q), .bool true] 49)).drew.cell? ((⟨wy.heap.size, 0, none⟩ : Addr).add j) = some u) := cell_news wy _ 49
  have HA : Hid ((wy.alloc (Obj.cells #[.string x, .int .i64 (placeL n.buses p), .int .i64 (placeL n.buses q), .bool true] 49)).drew.ownsRow B 49 4 (.slice at' n.ties.length ct) n.ties.length (n.ties.flatMap TieM.cells)) := how.out.ht.alloc _
  clear X0 k0 k1 k2 k3 k4 k5
  go_wp2_with fail
  have HS0 : Hid (wy.cell? ⟨w.heap.size, 5, none⟩ = some (.slice at' n.ties.length ct) ∧ wy.cell? ⟨bw, ow + 1, none⟩ = some (.string x) ∧ wy.cell? ⟨bw, ow + 4, none⟩ = some (.string s)) := ⟨kf, kw1, kw4⟩
  refine wp_region_tail (fun W => W.cell? ⟨w.heap.size, 5, none⟩ = some (.slice at' n.ties.length ct) ∧ W.cell? ⟨bw, ow + 1, none⟩ = some (.string x) ∧ W.cell? ⟨bw, ow + 4, none⟩ = some (.string s)) 15 (by kernel_rfl) ?_
  refine wpAnyT_takeAt 0 (some 273) (v := ?_) rfl (by kernel_rfl) (by kernel_rfl) (by kernel_rfl) rfl (by kernel_rfl) (fun _ _ _ h => h) (by exact HS0.out) (fun o hop => ?_) ?_
  rotate_left
  · injection hop with hop
    subst hop
    refine ⟨rfl, fun W hW => ?_⟩
    obtain ⟨s1, s2, s3⟩ := hW
    go_simp
    try rfl
  try simp only [Act.put, List.setIfInBounds_toArray, List.set_cons_zero, List.set_cons_succ]
  refine wpAnyT_takeAt 1 (some 274) (v := ?_) rfl (by kernel_rfl) (by kernel_rfl) (by kernel_rfl) rfl (by kernel_rfl) (fun _ _ _ h => h) (by exact HS0.out) (fun o hop => ?_) ?_
  rotate_left
  · injection hop with hop
    subst hop
    refine ⟨rfl, fun W hW => ?_⟩
    obtain ⟨s1, s2, s3⟩ := hW
    go_simp
    try rfl
  try simp only [Act.put, List.setIfInBounds_toArray, List.set_cons_zero, List.set_cons_succ]
  refine wpAnyT_takeAt 2 (some 275) (v := ?_) rfl (by kernel_rfl) (by kernel_rfl) (by kernel_rfl) rfl (by kernel_rfl) (fun _ _ _ h => h) (by exact HS0.out) (fun o hop => ?_) ?_
  rotate_left
  · injection hop with hop
    subst hop
    refine ⟨rfl, fun W hW => ?_⟩
    obtain ⟨s1, s2, s3⟩ := hW
    go_simp
    try rfl
  try simp only [Act.put, List.setIfInBounds_toArray, List.set_cons_zero, List.set_cons_succ]
  refine wpAnyT_takeAt 3 (some 276) (v := ?_) rfl (by kernel_rfl) (by kernel_rfl) (by kernel_rfl) rfl (by kernel_rfl) (fun _ _ _ h => h) (by exact HS0.out) (fun o hop => ?_) ?_
  rotate_left
  · injection hop with hop
    subst hop
    refine ⟨rfl, fun W hW => ?_⟩
    obtain ⟨s1, s2, s3⟩ := hW
    go_simp
    try rfl
  try simp only [Act.put, List.setIfInBounds_toArray, List.set_cons_zero, List.set_cons_succ]
  refine wpAnyT_takeAt 4 (some 277) (v := ?_) rfl (by kernel_rfl) (by kernel_rfl) (by kernel_rfl) rfl (by kernel_rfl) (fun _ _ _ h => h) (by exact HS0.out) (fun o hop => ?_) ?_
  rotate_left
  · injection hop with hop
    subst hop
    refine ⟨rfl, fun W hW => ?_⟩
    obtain ⟨s1, s2, s3⟩ := hW
    go_simp
    try rfl
  try simp only [Act.put, List.setIfInBounds_toArray, List.set_cons_zero, List.set_cons_succ]
  refine wpAnyT_takeAt 5 (some 278) (v := ?_) rfl (by kernel_rfl) (by kernel_rfl) (by kernel_rfl) rfl (by kernel_rfl) (fun _ _ _ h => h) (by exact HS0.out) (fun o hop => ?_) ?_
  rotate_left
  · injection hop with hop
    subst hop
    refine ⟨rfl, fun W hW => ?_⟩
    obtain ⟨s1, s2, s3⟩ := hW
    go_simp
    try rfl
  try simp only [Act.put, List.setIfInBounds_toArray, List.set_cons_zero, List.set_cons_succ]
  refine wpAnyT_takeAt 6 (some 279) (v := ?_) rfl (by kernel_rfl) (by kernel_rfl) (by kernel_rfl) rfl (by kernel_rfl) (fun _ _ _ h => h) (by exact HS0.out) (fun o hop => ?_) ?_
  rotate_left
  · injection hop with hop
    subst hop
    refine ⟨rfl, fun W hW => ?_⟩
    obtain ⟨s1, s2, s3⟩ := hW
    go_simp
    try rfl
  try simp only [Act.put, List.setIfInBounds_toArray, List.set_cons_zero, List.set_cons_succ]
  refine wpAnyT_takeAt 7 (some 280) (v := ?_) rfl (by kernel_rfl) (by kernel_rfl) (by kernel_rfl) rfl (by kernel_rfl) (fun _ _ _ h => h) (by exact HS0.out) (fun o hop => ?_) ?_
  rotate_left
  · injection hop with hop
    subst hop
    refine ⟨rfl, fun W hW => ?_⟩
    obtain ⟨s1, s2, s3⟩ := hW
    go_simp
    try rfl
  try simp only [Act.put, List.setIfInBounds_toArray, List.set_cons_zero, List.set_cons_succ]
  refine wpAnyT_takeAt 8 (some 281) (v := ?_) rfl (by kernel_rfl) (by kernel_rfl) (by kernel_rfl) rfl (by kernel_rfl) (fun _ _ _ h => h) (by exact HS0.out) (fun o hop => ?_) ?_
  rotate_left
  · injection hop with hop
    subst hop
    refine ⟨rfl, fun W hW => ?_⟩
    obtain ⟨s1, s2, s3⟩ := hW
    go_simp
    try rfl
  try simp only [Act.put, List.setIfInBounds_toArray, List.set_cons_zero, List.set_cons_succ]
  refine wpAnyT_takeAt 9 (some 282) (v := ?_) rfl (by kernel_rfl) (by kernel_rfl) (by kernel_rfl) rfl (by kernel_rfl) (fun _ _ _ h => h) (by exact HS0.out) (fun o hop => ?_) ?_
  rotate_left
  · injection hop with hop
    subst hop
    refine ⟨rfl, fun W hW => ?_⟩
    obtain ⟨s1, s2, s3⟩ := hW
    go_simp
    try rfl
  try simp only [Act.put, List.setIfInBounds_toArray, List.set_cons_zero, List.set_cons_succ]
  refine wpAnyT_takeAt 10 (some 283) (v := ?_) rfl (by kernel_rfl) (by kernel_rfl) (by kernel_rfl) rfl (by kernel_rfl) (fun _ _ _ h => h) (by exact HS0.out) (fun o hop => ?_) ?_
  rotate_left
  · injection hop with hop
    subst hop
    refine ⟨rfl, fun W hW => ?_⟩
    obtain ⟨s1, s2, s3⟩ := hW
    go_simp
    try rfl
  try simp only [Act.put, List.setIfInBounds_toArray, List.set_cons_zero, List.set_cons_succ]
  refine wpAnyT_takeAt 11 (some 284) (v := ?_) rfl (by kernel_rfl) (by kernel_rfl) (by kernel_rfl) rfl (by kernel_rfl) (fun _ _ _ h => h) (by exact HS0.out) (fun o hop => ?_) ?_
  rotate_left
  · injection hop with hop
    subst hop
    refine ⟨rfl, fun W hW => ?_⟩
    obtain ⟨s1, s2, s3⟩ := hW
    go_simp
    try rfl
  try simp only [Act.put, List.setIfInBounds_toArray, List.set_cons_zero, List.set_cons_succ]
  refine wpAnyT_one (i := 12) (by kernel_rfl) rfl rfl (fun K hK => ?_)
  go_simp
  refine hK.out _ _ (fun _ => by exact ⟨a2 _, m0 _, m1 _⟩) ?_
  clear hK K
  try simp only [Act.put, List.setIfInBounds_toArray, List.set_cons_zero, List.set_cons_succ]
  refine wpAnyT_one (i := 13) (by kernel_rfl) rfl rfl (fun K hK => ?_)
  refine step_append_own (hg := rfl) (s := .tmp 274) (x := .tmp 285) (t := 26) (hop := rfl) (base := B) (e := 49) (i := i0) (z := .agg #[.string ⟨#[]⟩, .int .i64 0, .int .i64 0, .bool false]) (size := 4) (bytes := 40) (h1 := Tryd.underlying26) (h2 := hi) (h3 := hz0) (h4 := hz1) (h5 := hz2) (h6 := rfl) (h7 := Nat.succ_pos 3) (v := .slice at' n.ties.length ct) (n := n.ties.length) (xs := n.ties.flatMap TieM.cells) (hs := rfl) (hown := HA.out) (ad := ⟨wy.heap.size, 0, none⟩) (m := 1) (c := 1) (news := [.string x, .int .i64 (placeL n.buses p), .int .i64 (placeL n.buses q), .bool true]) (hx := rfl) (hn := rfl) (hc := HC1.out) (h1c := four_one) (b1 := HB1.out) (b2 := HB2.out) (b3 := HB4.out _) (hK := ?_)
  intro v' w1 hown' hgrow0
  have hgrow := undrew hgrow0
  obtain ⟨a', c', rfl⟩ := own_slice hown'
  obtain ⟨k11, f11⟩ := app_box hgrow how.out.ht BX.out n49 kf fxf
  have HS1 : Hid (w1.cell? ⟨w.heap.size, 5, none⟩ = some (.slice at' n.ties.length ct) ∧ w1.cell? ⟨bw, ow + 1, none⟩ = some (.string x) ∧ w1.cell? ⟨bw, ow + 4, none⟩ = some (.string s)) := ⟨k11, grownC hgrow (m0 _) HNB, grownC hgrow (m1 _) HNB⟩
  clear hgrow0
  refine hK.out _ _ (fun _ => by exact HS1.out) ?_
  clear hK K
  refine wpAnyT_takeAt 14 (some 287) (v := ?_) rfl (by kernel_rfl) (by kernel_rfl) (by kernel_rfl) rfl (by kernel_rfl) (fun _ _ _ h => h) (by exact HS1.out) (fun o hop => ?_) ?_
  rotate_left
  · injection hop with hop
    subst hop
    refine ⟨rfl, fun W hW => ?_⟩
    obtain ⟨s1, s2, s3⟩ := hW
    go_simp
    try rfl
  refine wpAnyT_one (i := 15) (by kernel_rfl) rfl rfl (fun K hK => ?_)
  go_simp
  refine hK.out _ _ (fun h => absurd rfl h) ?_
  clear hK K
  refine wpAnyT_done (by kernel_rfl) ?_ _
  have X1 := (hR.out.box6.below hBy.out (by omega)).grow hgrow how.out.ht n49
  obtain ⟨u0, u1, u2, u3, u4, u5, Y0⟩ := hR.out.res6
  have Y1 := (Y0.below hBy.out (by omega)).grow hgrow how.out.ht n49
  have x0 := X1.h0
  have x1 := X1.h1
  have x2 := X1.h2
  have x3 := X1.h3
  have x4 := X1.h4
  have y0 := Y1.h0
  have y1 := Y1.h1
  have y2 := Y1.h2
  have y3 := Y1.h3
  have y4 := Y1.h4
  have y5 := Y1.h5
  have fy := Y1.f
  have XX := hide' X1
  have YY := hide' Y1
  have HG := hide' hgrow
  have HOW1 := hide' hown'
  clear hgrow hown' X1 Y1 Y0 HC1 HA HB1 HB2 HB4 a2 CS HOW kf fxf HS0 HS1 m0 m1
  go_wp2
  refine bodyPost_ret (v := .tuple #[.agg #[.string n.name, .slice ab n.buses.length cb, .slice al n.lines.length cl, .slice ag n.gens.length cg, .slice ad n.loads.length cd, .slice a' (n.ties.length + 1) c'], .int .i64 E1]) (by simp [results, Tryd.results12, go_sem, y0, y1, y2, y3, y4, y5]) rfl ⟨_, by rw [HEF.out, HB.out], fun _ => ⟨_, rfl, ?_⟩, ?_, netV_mk⟩
  · refine out_owns (n := { n with ties := n.ties ++ [tieM n x p q s] }) ⟨own_kept (how.out.hb.alloc _) (how.out.ht.alloc _) (by decide) HG.out, own_kept (how.out.hl.alloc _) (how.out.ht.alloc _) (by decide) HG.out, own_kept (how.out.hg.alloc _) (how.out.ht.alloc _) (by decide) HG.out, own_kept (how.out.hd.alloc _) (how.out.ht.alloc _) (by decide) HG.out, ?_⟩ XX.out.box YY.out.box _ _ _ _ _ _ _ _
    have := HOW1.out
    simpa [tieM, TieM.cells, ho2] using this
  · exact out_below (rl_below hR.out hB hBy.out HG.out how.out.ht) hB _ _ _ _ _ _ _ _
end Go.Proofs.YtjmadnpcadidhaaDoor
