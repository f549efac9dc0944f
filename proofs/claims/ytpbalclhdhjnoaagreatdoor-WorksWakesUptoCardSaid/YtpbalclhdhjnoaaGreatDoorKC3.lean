/- The program's reader: a line that tells a load. -/
import Derived.Test.YtpbalclhdhjnoaaGreatDoorKC2
import Derived.Test.YtpbalclhdhjnoaaGreatDoorKB2
namespace Go.Proofs.YtpbalclhdhjnoaaGreatDoor
open Go.RowKit Go.Maps

/-- A struct of the call's own. -/
def Bx (e : TypeId) (W : World) (L : Nat) (cur : Array Value) : Prop := W.heap[L]? = some (.cells cur e (0, 0))
section
variable {W W' : World} {L K M j : Nat} {e : TypeId} {cur : Array Value} {v : Value}
theorem Bx.new (w : World) (e : TypeId) (cur : Array Value) : Bx e (w.alloc (.cells cur e)) w.heap.size cur := heap_alloc_new w _
theorem Bx.cell (h : Bx e W L cur) (j : Nat) (hv : cur[j]? = some v) : W.cell? ⟨L, j, none⟩ = some v := by
  have h' : W.heap[L]? = some (.cells cur e (0, 0)) := h
  simp only [World.cell?, h']
  exact hv
theorem Bx.fz (h : Bx e W L cur) (j : Nat) : W.frozen? ⟨L, j, none⟩ = false := by
  have h' : W.heap[L]? = some (.cells cur e (0, 0)) := h
  simp [World.frozen?, h']
theorem Bx.fr (h : Bx e W L cur) (hf : Fr K M W W') (h1 : L ≠ K) (h2 : L ≠ M) : Bx e W' L cur := (hf.block L (Array.getElem?_eq_some_iff.1 h).1 h1 h2).trans h
theorem Bx.set (h : Bx e W L cur) (j : Nat) (u : Value) : Bx e (W.setCell ⟨L, j, none⟩ u) L (cur.setIfInBounds j u) := by
  have h' : W.heap[L]? = some (.cells cur e (0, 0)) := h
  show (W.setCell ⟨L, j, none⟩ u).heap[L]? = _
  simp only [World.setCell, Array.getElem?_modify, if_true, h', Option.map_some]
  rfl
end

set_option maxHeartbeats 800000 in
set_option maxRecDepth 100000 in
theorem load_ok (B Z K M n : Nat) (N : NetM) (f : Taken) (x p y : ByteArray) (at_ q : Int) (w : World) (hs : St w B Z K M N n f at_ [x, p, y]) (hZ : Z ≤ w.heap.size) (hx : x.size ≤ 20000) (hpx : p.size ≤ 20000) (hy : y.size ≤ 20000) (hn : n ≤ 5000)
    (hv : nameL (bytesOf x) = true) (hf : (f (bytesOf x)).isSome = false) (hl : N.loads.length < 16) (hp : (f.set (bytesOf x) (-1)) (bytesOf p) = some q) (hq : q ≠ -1) (hv1 : 0 ≤ numL (bytesOf y)) (hv2 : ¬ (numL (bytesOf y) < 0 ∨ 100000 < numL (bytesOf y))) :
    Calls Tryz.prog 68 #[.pointer (some ⟨K, 0, none⟩)] w fun e w' => e = .returned (.tuple #[]) ∧ St w' B w'.heap.size K M { N with loads := N.loads ++ [⟨x, q, numL (bytesOf y)⟩] } (n + 1) (f.set (bytesOf x) (-1)) at_ [] ∧ Bel B w w' := by
  obtain ⟨i0, hi, hz0, hz1, hz2⟩ := info_parts Tryz.info51
  have HS0 : Hid (∀ o, St (w.alloc o) B Z K M N n f at_ [x, p, y]) := fun o => hs.alloc hZ o
  have hKM : w.heap.size ≠ K ∧ w.heap.size ≠ M := ⟨by have := hs.ltK; omega, by have := hs.ltM; omega⟩
  have HS := hide' hs
  obtain ⟨b, l, g, d, t, wv, hs⟩ := hs
  obtain ⟨ad, cd, rfl⟩ := own_slice hs.owns.hd
  have c4 : ∀ o, (w.alloc o).cell? ⟨K, 4, none⟩ = some (.slice ad N.loads.length cd) := later (hs.cell 4 rfl)
  have HNN : Hid (n ≤ 10000) := by show n ≤ 10000; omega
  have HLL : Hid ((N.loads.length : Int) < 16) := by show (N.loads.length : Int) < 16; omega
  have HP := hide' hp
  have HV := hide' hv
  have HF := hide' hf
  have HV1 := hide' hv1
  have HV2 := hide' hv2
  clear hs hp hv hf hv1 hv2
  go_enter Tryz.func68, Tryz.ntmps68
  go_wp2_with (first
    | (go_at_call 79; refine (newName_ok B Z K M n N f x [p, y] at_ N.loads.length 16 _ (HS0.out _) hx HNN.out HV.out HF.out HLL.out).mono ?_; rintro e w1 ⟨rfl, h1, fr1⟩; have bx1 := (Bx.new w 51 _).fr fr1 hKM.1 hKM.2; have k0 : w1.cell? ⟨w.heap.size, 0, none⟩ = some (.string ⟨#[]⟩) := bx1.cell 0 rfl; have z0 := bx1.fz 0)
    | (go_at_call 82; refine (place_ok B Z K M (n + 1) N (f.set (bytesOf x) (-1)) p [y] at_ q _ (h1.set hZ 0 _) hpx HP.out hq).mono ?_; rintro e w2 ⟨rfl, h2, fr2⟩; have bx2 := (bx1.set 0 _).fr fr2 hKM.1 hKM.2; have k1 : w2.cell? ⟨w.heap.size, 1, none⟩ = some (.int .i64 0) := bx2.cell 1 rfl; have z1 := bx2.fz 1)
    | (go_at_call 81; refine (num_ok (h2.set hZ 1 _) hy (Int.not_lt.2 HV1.out) HV2.out).mono ?_; rintro e w3 ⟨rfl, h3, fr3⟩; have bx3 := (bx2.set 1 _).fr fr3 hKM.1 hKM.2; have k2 : w3.cell? ⟨w.heap.size, 2, none⟩ = some (.int .i64 0) := bx3.cell 2 rfl; have z2 := bx3.fz 2)
    | go_in)
  have h4 := h3.set hZ 2 (.int .i64 (numL (bytesOf y)))
  have bx4 := bx3.set 2 (.int .i64 (numL (bytesOf y)))
  obtain ⟨W5, hW5⟩ : ∃ W5, w3.setCell ⟨w.heap.size, 2, none⟩ (.int .i64 (numL (bytesOf y))) = W5 := ⟨_, rfl⟩
  rw [hW5] at h4 bx4 ⊢
  obtain ⟨b4, l4, g4, d4, t4, wv4, h4⟩ := h4
  obtain ⟨ad4, cd4, rfl⟩ := own_slice h4.owns.hd
  have hsz : Bel B w W5 := by
    have e1 : Bel B w (w.alloc (Obj.cells #[Value.string { data := #[] }, Value.int IntKind.i64 0, Value.int IntKind.i64 0] 51)) := (Bel.refl B w).alloc (by have := HS.out.ltK; have := h4.hBK; omega) _
    have e2 : Bel B w1 (w1.setCell ⟨w.heap.size, 0, none⟩ (.string x)) := set_below (by have := HS.out.ltK; have := h4.hBK; omega) _ _
    have e3 : Bel B w2 (w2.setCell ⟨w.heap.size, 1, none⟩ (.int .i64 q)) := set_below (by have := HS.out.ltK; have := h4.hBK; omega) _ _
    have e4 : Bel B w3 W5 := by rw [← hW5]; exact set_below (by have := HS.out.ltK; have := h4.hBK; omega) _ _
    exact (((e1.trans ((HS0.out _).fr fr1)).trans (e2.trans ((h1.set hZ 0 _).fr fr2))).trans (e3.trans ((h2.set hZ 1 _).fr fr3))).trans e4
  have HSZ := hide' hsz
  have kf : W5.cell? ⟨K, 4, none⟩ = some (.slice ad4 N.loads.length cd4) := h4.cell 4 rfl
  have ff : W5.frozen? ⟨K, 4, none⟩ = false := h4.frozen 4
  have l0 : W5.cell? ⟨w.heap.size, 0, none⟩ = some (.string x) := bx4.cell 0 rfl
  have l1 : W5.cell? ⟨w.heap.size, 1, none⟩ = some (.int .i64 q) := bx4.cell 1 rfl
  have l2 : W5.cell? ⟨w.heap.size, 2, none⟩ = some (.int .i64 (numL (bytesOf y))) := bx4.cell 2 rfl
  have H4 := hide' h4
  have BX4 := hide' bx4
  have a4 := later kf
  have m0 := later l0
  have m1 := later l1
  have m2 := later l2
  have HB1 : Hid (N.loads.length + 1 ≤ maxLen) := by show _ ≤ _; unfold maxLen; omega
  have HB2 : Hid ((N.loads.length + 1) * 32 ≤ 140737488355328) := by show _ ≤ _; omega
  have HB4 : Hid (∀ o, B ≤ (W5.alloc o).drew.heap.size) := fun o => by show B ≤ (W5.alloc o).heap.size; rw [World.size_alloc]; have := h4.lt; have := h4.hBK; omega
  have HC1 : Hid (∀ j u, [.string x, .int .i64 q, .int .i64 (numL (bytesOf y))][j]? = some u → (W5.alloc (Obj.cells #[.string x, .int .i64 q, .int .i64 (numL (bytesOf y))] 51)).drew.cell? ((⟨W5.heap.size, 0, none⟩ : Addr).add j) = some u) := cell_news W5 _ 51
  have HA : Hid ((W5.alloc (Obj.cells #[.string x, .int .i64 q, .int .i64 (numL (bytesOf y))] 51)).drew.ownsRow B 51 3 (.slice ad4 N.loads.length cd4) N.loads.length (N.loads.flatMap LoadM.cells)) := h4.owns.hd.alloc _
  have HNL : Hid (some w.heap.size ≠ (Value.slice ad4 N.loads.length cd4).ownBlock) := fun h => by have := h4.hz (.slice ad4 N.loads.length cd4) (by simp) _ h.symm; omega
  have HS5 : Hid (W5.cell? ⟨K, 4, none⟩ = some (.slice ad4 N.loads.length cd4) ∧ W5.cell? ⟨w.heap.size, 0, none⟩ = some (.string x) ∧ W5.cell? ⟨w.heap.size, 1, none⟩ = some (.int .i64 q) ∧ W5.cell? ⟨w.heap.size, 2, none⟩ = some (.int .i64 (numL (bytesOf y)))) := ⟨kf, l0, l1, l2⟩
  clear h4 bx4 hW5 hsz bx3 bx2 bx1 k0 k1 k2 z0 z1 z2 h1 h2 h3 fr1 fr2 fr3
  refine wp_region_tail (fun W => W.cell? ⟨K, 4, none⟩ = some (.slice ad4 N.loads.length cd4) ∧ W.cell? ⟨w.heap.size, 0, none⟩ = some (.string x) ∧ W.cell? ⟨w.heap.size, 1, none⟩ = some (.int .i64 q) ∧ W.cell? ⟨w.heap.size, 2, none⟩ = some (.int .i64 (numL (bytesOf y)))) 12 (by kernel_rfl) ?_
  refine wpAnyT_takeAt 0 (some 18) (v := ?_) rfl (by kernel_rfl) (by kernel_rfl) (by kernel_rfl) rfl (by kernel_rfl) (fun _ _ _ h => h) (by exact HS5.out) (fun o hop => ?_) ?_
  rotate_left
  · injection hop with hop
    subst hop
    refine ⟨rfl, fun W hW => ?_⟩
    obtain ⟨s1, s2, s3, s4⟩ := hW
    go_simp
    try rfl
  try simp only [Act.put, List.setIfInBounds_toArray, List.set_cons_zero, List.set_cons_succ]
  refine wpAnyT_takeAt 1 (some 19) (v := ?_) rfl (by kernel_rfl) (by kernel_rfl) (by kernel_rfl) rfl (by kernel_rfl) (fun _ _ _ h => h) (by exact HS5.out) (fun o hop => ?_) ?_
  rotate_left
  · injection hop with hop
    subst hop
    refine ⟨rfl, fun W hW => ?_⟩
    obtain ⟨s1, s2, s3, s4⟩ := hW
    go_simp
    try rfl
  try simp only [Act.put, List.setIfInBounds_toArray, List.set_cons_zero, List.set_cons_succ]
  refine wpAnyT_takeAt 2 (some 20) (v := ?_) rfl (by kernel_rfl) (by kernel_rfl) (by kernel_rfl) rfl (by kernel_rfl) (fun _ _ _ h => h) (by exact HS5.out) (fun o hop => ?_) ?_
  rotate_left
  · injection hop with hop
    subst hop
    refine ⟨rfl, fun W hW => ?_⟩
    obtain ⟨s1, s2, s3, s4⟩ := hW
    go_simp
    try rfl
  try simp only [Act.put, List.setIfInBounds_toArray, List.set_cons_zero, List.set_cons_succ]
  refine wpAnyT_takeAt 3 (some 21) (v := ?_) rfl (by kernel_rfl) (by kernel_rfl) (by kernel_rfl) rfl (by kernel_rfl) (fun _ _ _ h => h) (by exact HS5.out) (fun o hop => ?_) ?_
  rotate_left
  · injection hop with hop
    subst hop
    refine ⟨rfl, fun W hW => ?_⟩
    obtain ⟨s1, s2, s3, s4⟩ := hW
    go_simp
    try rfl
  try simp only [Act.put, List.setIfInBounds_toArray, List.set_cons_zero, List.set_cons_succ]
  refine wpAnyT_takeAt 4 (some 22) (v := ?_) rfl (by kernel_rfl) (by kernel_rfl) (by kernel_rfl) rfl (by kernel_rfl) (fun _ _ _ h => h) (by exact HS5.out) (fun o hop => ?_) ?_
  rotate_left
  · injection hop with hop
    subst hop
    refine ⟨rfl, fun W hW => ?_⟩
    obtain ⟨s1, s2, s3, s4⟩ := hW
    go_simp
    try rfl
  try simp only [Act.put, List.setIfInBounds_toArray, List.set_cons_zero, List.set_cons_succ]
  refine wpAnyT_takeAt 5 (some 23) (v := ?_) rfl (by kernel_rfl) (by kernel_rfl) (by kernel_rfl) rfl (by kernel_rfl) (fun _ _ _ h => h) (by exact HS5.out) (fun o hop => ?_) ?_
  rotate_left
  · injection hop with hop
    subst hop
    refine ⟨rfl, fun W hW => ?_⟩
    obtain ⟨s1, s2, s3, s4⟩ := hW
    go_simp
    try rfl
  try simp only [Act.put, List.setIfInBounds_toArray, List.set_cons_zero, List.set_cons_succ]
  refine wpAnyT_takeAt 6 (some 24) (v := ?_) rfl (by kernel_rfl) (by kernel_rfl) (by kernel_rfl) rfl (by kernel_rfl) (fun _ _ _ h => h) (by exact HS5.out) (fun o hop => ?_) ?_
  rotate_left
  · injection hop with hop
    subst hop
    refine ⟨rfl, fun W hW => ?_⟩
    obtain ⟨s1, s2, s3, s4⟩ := hW
    go_simp
    try rfl
  try simp only [Act.put, List.setIfInBounds_toArray, List.set_cons_zero, List.set_cons_succ]
  refine wpAnyT_one (i := 7) (by kernel_rfl) rfl rfl (fun K' hK => ?_)
  go_simp
  refine hK.out _ _ (fun _ => by exact ⟨a4 _, m0 _, m1 _, m2 _⟩) ?_
  clear hK K'
  try simp only [Act.put, List.setIfInBounds_toArray, List.set_cons_zero, List.set_cons_succ]
  refine wpAnyT_one (i := 8) (by kernel_rfl) rfl rfl (fun K' hK => ?_)
  refine step_append_own (hg := rfl) (s := .tmp 23) (x := .tmp 25) (t := 25) (hop := rfl) (base := B) (e := 51) (i := i0) (z := .agg #[.string ⟨#[]⟩, .int .i64 0, .int .i64 0]) (size := 3) (bytes := 32) (h1 := Tryz.underlying25) (h2 := hi) (h3 := hz0) (h4 := hz1) (h5 := hz2) (h6 := rfl) (h7 := Nat.succ_pos 2) (v := .slice ad4 N.loads.length cd4) (n := N.loads.length) (xs := N.loads.flatMap LoadM.cells) (hs := rfl) (hown := HA.out) (ad := ⟨W5.heap.size, 0, none⟩) (m := 1) (c := 1) (news := [.string x, .int .i64 q, .int .i64 (numL (bytesOf y))]) (hx := rfl) (hn := rfl) (hc := HC1.out) (h1c := three_one) (b1 := HB1.out) (b2 := HB2.out) (b3 := HB4.out _) (hK := ?_)
  intro v' w6 hown' hgrow0
  have hgrow := undrew hgrow0
  obtain ⟨a', c', rfl⟩ := own_slice hown'
  have hgr := hide' (H4.out.grown _ H4.out.owns.hd (by decide) hgrow)
  have k11 : w6.cell? ⟨K, 4, none⟩ = some (.slice ad4 N.loads.length cd4) := H4.out.cl hgr.out.1 4 rfl
  have f11 : w6.frozen? ⟨K, 4, none⟩ = false := H4.out.fz hgr.out.1 4
  have HS6 : Hid (w6.cell? ⟨K, 4, none⟩ = some (.slice ad4 N.loads.length cd4) ∧ w6.cell? ⟨w.heap.size, 0, none⟩ = some (.string x) ∧ w6.cell? ⟨w.heap.size, 1, none⟩ = some (.int .i64 q) ∧ w6.cell? ⟨w.heap.size, 2, none⟩ = some (.int .i64 (numL (bytesOf y)))) := ⟨k11, grownC hgrow (m0 _) HNL.out, grownC hgrow (m1 _) HNL.out, grownC hgrow (m2 _) HNL.out⟩
  clear hgrow0
  refine hK.out _ _ (fun _ => by exact HS6.out) ?_
  clear hK K'
  refine wpAnyT_one (i := 9) (by kernel_rfl) rfl rfl (fun K' hK => ?_)
  go_simp
  refine hK.out _ _ (fun _ => by exact HS6.out) ?_
  clear hK K'
  refine wpAnyT_one (i := 10) (by kernel_rfl) rfl rfl (fun K' hK => ?_)
  go_simp
  refine hK.out _ _ (fun _ => by exact HS6.out) ?_
  clear hK K'
  refine wpAnyT_one (i := 11) (by kernel_rfl) rfl rfl (fun K' hK => ?_)
  go_simp
  refine hK.out _ _ (fun _ => by exact HS6.out) ?_
  clear hK K'
  refine wpAnyT_one (i := 12) (by kernel_rfl) rfl rfl (fun K' hK => ?_)
  go_simp
  refine hK.out _ _ (fun h => absurd rfl h) ?_
  clear hK K'
  refine wpAnyT_done (by kernel_rfl) ?_ _
  go_end0
  obtain ⟨g1', g2', g3', g4'⟩ := hgr.out
  have h2 := H4.out
  have hK := g1'.trans h2.box
  refine ⟨rfl, ⟨b4, l4, g4, _, t4, wv4, StV.make (set_box hK 4 _) ⟨set_own hK (g4' _ _ _ _ _ (by decide) h2.owns.hb) (by decide) _ _, set_own hK (g4' _ _ _ _ _ (by decide) h2.owns.hl) (by decide) _ _, set_own hK (g4' _ _ _ _ _ (by decide) h2.owns.hg) (by decide) _ _, ?_, set_own hK (g4' _ _ _ _ _ (by decide) h2.owns.ht) (by decide) _ _⟩ (set_taken hK g2' _ _) (left_nil _ _ h2.words) h2.hBK h2.hBM⟩, HSZ.out.trans (g3'.trans (set_below h2.hBK _ _))⟩
  have := set_own hK hown' (by decide) 4 (.slice a' (N.loads.length + 1) c')
  simpa [LoadM.cells] using this
end Go.Proofs.YtpbalclhdhjnoaaGreatDoor
namespace Go.Proofs.YtpbalclhdhjnoaaGreatDoor
open Go.RowKit Go.Maps

set_option maxHeartbeats 800000 in
set_option maxRecDepth 100000 in
theorem gen_ok (B Z K M n : Nat) (N : NetM) (f : Taken) (x p y z r : ByteArray) (at_ q : Int) (w : World) (hs : St w B Z K M N n f at_ [x, p, y, z, r]) (hZ : Z ≤ w.heap.size) (hsx : x.size ≤ 20000) (hsp : p.size ≤ 20000) (hsy : y.size ≤ 20000) (hsz : z.size ≤ 20000) (hsr : r.size ≤ 20000) (hn : n ≤ 5000)
    (hv : nameL (bytesOf x) = true) (hf : (f (bytesOf x)).isSome = false) (hl : N.gens.length < 12) (hp : (f.set (bytesOf x) (-1)) (bytesOf p) = some q) (hq : q ≠ -1) (hvy : 0 ≤ numL (bytesOf y)) (hry : ¬ (numL (bytesOf y) < 0 ∨ 100000 < numL (bytesOf y))) (hvz : 0 ≤ numL (bytesOf z)) (hrz : ¬ (numL (bytesOf z) < (numL (bytesOf y)) ∨ 100000 < numL (bytesOf z))) (hvr : 0 ≤ numL (bytesOf r)) (hrr : ¬ (numL (bytesOf r) < 0 ∨ 100000 < numL (bytesOf r))) :
    Calls Tryz.prog 67 #[.pointer (some ⟨K, 0, none⟩)] w fun e w' => e = .returned (.tuple #[]) ∧ St w' B w'.heap.size K M { N with gens := N.gens ++ [⟨x, q, numL (bytesOf y), numL (bytesOf z), numL (bytesOf r)⟩] } (n + 1) (f.set (bytesOf x) (-1)) at_ [] ∧ Bel B w w' := by
  obtain ⟨i0, hi, hz0, hz1, hz2⟩ := info_parts Tryz.info46
  have HS0 : Hid (∀ o, St (w.alloc o) B Z K M N n f at_ [x, p, y, z, r]) := fun o => hs.alloc hZ o
  have hKM : w.heap.size ≠ K ∧ w.heap.size ≠ M := ⟨by have := hs.ltK; omega, by have := hs.ltM; omega⟩
  have HS := hide' hs
  obtain ⟨b, l, g, d, t, wv, hs⟩ := hs
  obtain ⟨ad, cd, rfl⟩ := own_slice hs.owns.hg
  have c4 : ∀ o, (w.alloc o).cell? ⟨K, 3, none⟩ = some (.slice ad N.gens.length cd) := later (hs.cell 3 rfl)
  have HNN : Hid (n ≤ 10000) := by show n ≤ 10000; omega
  have HLL : Hid ((N.gens.length : Int) < 12) := by show (N.gens.length : Int) < 12; omega
  have H_hv := hide' hv
  have H_hf := hide' hf
  have H_hp := hide' hp
  have H_hvy := hide' hvy
  have H_hry := hide' hry
  have H_hvz := hide' hvz
  have H_hrz := hide' hrz
  have H_hvr := hide' hvr
  have H_hrr := hide' hrr
  clear hs hv hf hp hvy hry hvz hrz hvr hrr
  go_enter Tryz.func67, Tryz.ntmps67
  go_wp2_with (first
    | (go_at_call 81; refine (num_ok (x := r) (h4.set hZ 3 _) hsr (Int.not_lt.2 H_hvr.out) H_hrr.out).mono ?_; rintro e w5 ⟨rfl, h5, fr5⟩; have bx5 := (bx4.set 3 _).fr fr5 hKM.1 hKM.2; have k4 : w5.cell? ⟨w.heap.size, 4, none⟩ = some (.int .i64 0) := bx5.cell 4 rfl; have z4 := bx5.fz 4)
    | (go_at_call 81; refine (num_ok (x := z) (h3.set hZ 2 _) hsz (Int.not_lt.2 H_hvz.out) H_hrz.out).mono ?_; rintro e w4 ⟨rfl, h4, fr4⟩; have bx4 := (bx3.set 2 _).fr fr4 hKM.1 hKM.2; have k3 : w4.cell? ⟨w.heap.size, 3, none⟩ = some (.int .i64 0) := bx4.cell 3 rfl; have z3 := bx4.fz 3)
    | (go_at_call 81; refine (num_ok (x := y) (h2.set hZ 1 _) hsy (Int.not_lt.2 H_hvy.out) H_hry.out).mono ?_; rintro e w3 ⟨rfl, h3, fr3⟩; have bx3 := (bx2.set 1 _).fr fr3 hKM.1 hKM.2; have k2 : w3.cell? ⟨w.heap.size, 2, none⟩ = some (.int .i64 0) := bx3.cell 2 rfl; have z2 := bx3.fz 2)
    | (go_at_call 82; refine (place_ok B Z K M (n + 1) N (f.set (bytesOf x) (-1)) p [y, z, r] at_ q _ (h1.set hZ 0 _) hsp H_hp.out hq).mono ?_; rintro e w2 ⟨rfl, h2, fr2⟩; have bx2 := (bx1.set 0 _).fr fr2 hKM.1 hKM.2; have k1 : w2.cell? ⟨w.heap.size, 1, none⟩ = some (.int .i64 0) := bx2.cell 1 rfl; have z1 := bx2.fz 1)
    | (go_at_call 79; refine (newName_ok B Z K M n N f x [p, y, z, r] at_ N.gens.length 12 _ (HS0.out _) hsx HNN.out H_hv.out H_hf.out HLL.out).mono ?_; rintro e w1 ⟨rfl, h1, fr1⟩; have bx1 := (Bx.new w 46 _).fr fr1 hKM.1 hKM.2; have k0 : w1.cell? ⟨w.heap.size, 0, none⟩ = some (.string ⟨#[]⟩) := bx1.cell 0 rfl; have z0 := bx1.fz 0)
    | go_in)
  have hE := (h5.set hZ 4 (.int .i64 (numL (bytesOf r))))
  have bxE := (bx5.set 4 (.int .i64 (numL (bytesOf r))))
  have hLB : B ≤ w.heap.size := by have := HS.out.ltK; obtain ⟨_, _, _, _, _, _, h⟩ := HS.out; have := h.hBK; omega
  have e1 : Bel B w (w.alloc (Obj.cells #[Value.string { data := #[] }, Value.int IntKind.i64 0, Value.int IntKind.i64 0, Value.int IntKind.i64 0, Value.int IntKind.i64 0] 46)) := (Bel.refl B w).alloc hLB _
  have hBel := e1.trans ((HS0.out _).fr fr1) |>.trans (set_below hLB 0 _) |>.trans ((h1.set hZ 0 _).fr fr2) |>.trans (set_below hLB 1 _) |>.trans ((h2.set hZ 1 _).fr fr3) |>.trans (set_below hLB 2 _) |>.trans ((h3.set hZ 2 _).fr fr4) |>.trans (set_below hLB 3 _) |>.trans ((h4.set hZ 3 _).fr fr5) |>.trans (set_below hLB 4 (.int .i64 (numL (bytesOf r))))
  obtain ⟨W5, hW5⟩ : ∃ W5, (w5.setCell ⟨w.heap.size, 4, none⟩ (.int .i64 (numL (bytesOf r)))) = W5 := ⟨_, rfl⟩
  rw [hW5] at hE bxE hBel ⊢
  obtain ⟨b4, l4, g4, d4, t4, wv4, hE⟩ := hE
  obtain ⟨ad4, cd4, rfl⟩ := own_slice hE.owns.hg
  have HSZ := hide' hBel
  have kf : W5.cell? ⟨K, 3, none⟩ = some (.slice ad4 N.gens.length cd4) := hE.cell 3 rfl
  have lc0 : W5.cell? ⟨w.heap.size, 0, none⟩ = some (.string x) := bxE.cell 0 rfl
  have lc1 : W5.cell? ⟨w.heap.size, 1, none⟩ = some (.int .i64 q) := bxE.cell 1 rfl
  have lc2 : W5.cell? ⟨w.heap.size, 2, none⟩ = some (.int .i64 (numL (bytesOf y))) := bxE.cell 2 rfl
  have lc3 : W5.cell? ⟨w.heap.size, 3, none⟩ = some (.int .i64 (numL (bytesOf z))) := bxE.cell 3 rfl
  have lc4 : W5.cell? ⟨w.heap.size, 4, none⟩ = some (.int .i64 (numL (bytesOf r))) := bxE.cell 4 rfl
  have H4 := hide' hE
  have a4 := later kf
  have m0 := later lc0
  have m1 := later lc1
  have m2 := later lc2
  have m3 := later lc3
  have m4 := later lc4
  have HB1 : Hid (N.gens.length + 1 ≤ maxLen) := by show _ ≤ _; unfold maxLen; omega
  have HB2 : Hid ((N.gens.length + 1) * 48 ≤ 140737488355328) := by show _ ≤ _; omega
  have HB4 : Hid (∀ o, B ≤ (W5.alloc o).drew.heap.size) := fun o => by show B ≤ (W5.alloc o).heap.size; rw [World.size_alloc]; have := hE.lt; have := hE.hBK; omega
  have HC1 : Hid (∀ j u, [.string x, .int .i64 q, .int .i64 (numL (bytesOf y)), .int .i64 (numL (bytesOf z)), .int .i64 (numL (bytesOf r))][j]? = some u → (W5.alloc (Obj.cells #[.string x, .int .i64 q, .int .i64 (numL (bytesOf y)), .int .i64 (numL (bytesOf z)), .int .i64 (numL (bytesOf r))] 46)).drew.cell? ((⟨W5.heap.size, 0, none⟩ : Addr).add j) = some u) := cell_news W5 _ 46
  have HA : Hid ((W5.alloc (Obj.cells #[.string x, .int .i64 q, .int .i64 (numL (bytesOf y)), .int .i64 (numL (bytesOf z)), .int .i64 (numL (bytesOf r))] 46)).drew.ownsRow B 46 5 (.slice ad4 N.gens.length cd4) N.gens.length (N.gens.flatMap GenM.cells)) := hE.owns.hg.alloc _
  have HNL : Hid (some w.heap.size ≠ (Value.slice ad4 N.gens.length cd4).ownBlock) := fun h => by have := hE.hz (.slice ad4 N.gens.length cd4) (by simp) _ h.symm; omega
  have HS5 : Hid (W5.cell? ⟨K, 3, none⟩ = some (.slice ad4 N.gens.length cd4) ∧ W5.cell? ⟨w.heap.size, 0, none⟩ = some (.string x) ∧ W5.cell? ⟨w.heap.size, 1, none⟩ = some (.int .i64 q) ∧ W5.cell? ⟨w.heap.size, 2, none⟩ = some (.int .i64 (numL (bytesOf y))) ∧ W5.cell? ⟨w.heap.size, 3, none⟩ = some (.int .i64 (numL (bytesOf z))) ∧ W5.cell? ⟨w.heap.size, 4, none⟩ = some (.int .i64 (numL (bytesOf r)))) := ⟨kf, lc0, lc1, lc2, lc3, lc4⟩
  clear hE bxE hW5 hBel e1 bx1 bx2 bx3 bx4 bx5 k0 z0 k1 z1 k2 z2 k3 z3 k4 z4 h1 h2 h3 h4 h5 fr1 fr2 fr3 fr4 fr5
  refine wp_region_tail (fun W => W.cell? ⟨K, 3, none⟩ = some (.slice ad4 N.gens.length cd4) ∧ W.cell? ⟨w.heap.size, 0, none⟩ = some (.string x) ∧ W.cell? ⟨w.heap.size, 1, none⟩ = some (.int .i64 q) ∧ W.cell? ⟨w.heap.size, 2, none⟩ = some (.int .i64 (numL (bytesOf y))) ∧ W.cell? ⟨w.heap.size, 3, none⟩ = some (.int .i64 (numL (bytesOf z))) ∧ W.cell? ⟨w.heap.size, 4, none⟩ = some (.int .i64 (numL (bytesOf r)))) 12 (by kernel_rfl) ?_
  refine wpAnyT_takeAt 0 (some 26) (v := ?_) rfl (by kernel_rfl) (by kernel_rfl) (by kernel_rfl) rfl (by kernel_rfl) (fun _ _ _ h => h) (by exact HS5.out) (fun o hop => ?_) ?_
  rotate_left
  · injection hop with hop
    subst hop
    refine ⟨rfl, fun W hW => ?_⟩
    obtain ⟨s0, s1, s2, s3, s4, s5⟩ := hW
    go_simp
    try rfl
  try simp only [Act.put, List.setIfInBounds_toArray, List.set_cons_zero, List.set_cons_succ]
  refine wpAnyT_takeAt 1 (some 27) (v := ?_) rfl (by kernel_rfl) (by kernel_rfl) (by kernel_rfl) rfl (by kernel_rfl) (fun _ _ _ h => h) (by exact HS5.out) (fun o hop => ?_) ?_
  rotate_left
  · injection hop with hop
    subst hop
    refine ⟨rfl, fun W hW => ?_⟩
    obtain ⟨s0, s1, s2, s3, s4, s5⟩ := hW
    go_simp
    try rfl
  try simp only [Act.put, List.setIfInBounds_toArray, List.set_cons_zero, List.set_cons_succ]
  refine wpAnyT_takeAt 2 (some 28) (v := ?_) rfl (by kernel_rfl) (by kernel_rfl) (by kernel_rfl) rfl (by kernel_rfl) (fun _ _ _ h => h) (by exact HS5.out) (fun o hop => ?_) ?_
  rotate_left
  · injection hop with hop
    subst hop
    refine ⟨rfl, fun W hW => ?_⟩
    obtain ⟨s0, s1, s2, s3, s4, s5⟩ := hW
    go_simp
    try rfl
  try simp only [Act.put, List.setIfInBounds_toArray, List.set_cons_zero, List.set_cons_succ]
  refine wpAnyT_takeAt 3 (some 29) (v := ?_) rfl (by kernel_rfl) (by kernel_rfl) (by kernel_rfl) rfl (by kernel_rfl) (fun _ _ _ h => h) (by exact HS5.out) (fun o hop => ?_) ?_
  rotate_left
  · injection hop with hop
    subst hop
    refine ⟨rfl, fun W hW => ?_⟩
    obtain ⟨s0, s1, s2, s3, s4, s5⟩ := hW
    go_simp
    try rfl
  try simp only [Act.put, List.setIfInBounds_toArray, List.set_cons_zero, List.set_cons_succ]
  refine wpAnyT_takeAt 4 (some 30) (v := ?_) rfl (by kernel_rfl) (by kernel_rfl) (by kernel_rfl) rfl (by kernel_rfl) (fun _ _ _ h => h) (by exact HS5.out) (fun o hop => ?_) ?_
  rotate_left
  · injection hop with hop
    subst hop
    refine ⟨rfl, fun W hW => ?_⟩
    obtain ⟨s0, s1, s2, s3, s4, s5⟩ := hW
    go_simp
    try rfl
  try simp only [Act.put, List.setIfInBounds_toArray, List.set_cons_zero, List.set_cons_succ]
  refine wpAnyT_takeAt 5 (some 31) (v := ?_) rfl (by kernel_rfl) (by kernel_rfl) (by kernel_rfl) rfl (by kernel_rfl) (fun _ _ _ h => h) (by exact HS5.out) (fun o hop => ?_) ?_
  rotate_left
  · injection hop with hop
    subst hop
    refine ⟨rfl, fun W hW => ?_⟩
    obtain ⟨s0, s1, s2, s3, s4, s5⟩ := hW
    go_simp
    try rfl
  try simp only [Act.put, List.setIfInBounds_toArray, List.set_cons_zero, List.set_cons_succ]
  refine wpAnyT_takeAt 6 (some 32) (v := ?_) rfl (by kernel_rfl) (by kernel_rfl) (by kernel_rfl) rfl (by kernel_rfl) (fun _ _ _ h => h) (by exact HS5.out) (fun o hop => ?_) ?_
  rotate_left
  · injection hop with hop
    subst hop
    refine ⟨rfl, fun W hW => ?_⟩
    obtain ⟨s0, s1, s2, s3, s4, s5⟩ := hW
    go_simp
    try rfl
  try simp only [Act.put, List.setIfInBounds_toArray, List.set_cons_zero, List.set_cons_succ]
  refine wpAnyT_one (i := 7) (by kernel_rfl) rfl rfl (fun K' hK => ?_)
  go_simp
  refine hK.out _ _ (fun _ => by exact ⟨a4 _, m0 _, m1 _, m2 _, m3 _, m4 _⟩) ?_
  clear hK K'
  try simp only [Act.put, List.setIfInBounds_toArray, List.set_cons_zero, List.set_cons_succ]
  refine wpAnyT_one (i := 8) (by kernel_rfl) rfl rfl (fun K' hK => ?_)
  refine step_append_own (hg := rfl) (s := .tmp 31) (x := .tmp 33) (t := 24) (hop := rfl) (base := B) (e := 46) (i := i0) (z := .agg #[.string ⟨#[]⟩, .int .i64 0, .int .i64 0, .int .i64 0, .int .i64 0]) (size := 5) (bytes := 48) (h1 := Tryz.underlying24) (h2 := hi) (h3 := hz0) (h4 := hz1) (h5 := hz2) (h6 := rfl) (h7 := Nat.succ_pos 4) (v := .slice ad4 N.gens.length cd4) (n := N.gens.length) (xs := N.gens.flatMap GenM.cells) (hs := rfl) (hown := HA.out) (ad := ⟨W5.heap.size, 0, none⟩) (m := 1) (c := 1) (news := [.string x, .int .i64 q, .int .i64 (numL (bytesOf y)), .int .i64 (numL (bytesOf z)), .int .i64 (numL (bytesOf r))]) (hx := rfl) (hn := rfl) (hc := HC1.out) (h1c := five_one) (b1 := HB1.out) (b2 := HB2.out) (b3 := HB4.out _) (hK := ?_)
  intro v' w6 hown' hgrow0
  have hgrow := undrew hgrow0
  obtain ⟨a', c', rfl⟩ := own_slice hown'
  have hgr := hide' (H4.out.grown _ H4.out.owns.hg (by decide) hgrow)
  have k11 : w6.cell? ⟨K, 3, none⟩ = some (.slice ad4 N.gens.length cd4) := H4.out.cl hgr.out.1 3 rfl
  have f11 : w6.frozen? ⟨K, 3, none⟩ = false := H4.out.fz hgr.out.1 3
  have HS6 : Hid (w6.cell? ⟨K, 3, none⟩ = some (.slice ad4 N.gens.length cd4) ∧ w6.cell? ⟨w.heap.size, 0, none⟩ = some (.string x) ∧ w6.cell? ⟨w.heap.size, 1, none⟩ = some (.int .i64 q) ∧ w6.cell? ⟨w.heap.size, 2, none⟩ = some (.int .i64 (numL (bytesOf y))) ∧ w6.cell? ⟨w.heap.size, 3, none⟩ = some (.int .i64 (numL (bytesOf z))) ∧ w6.cell? ⟨w.heap.size, 4, none⟩ = some (.int .i64 (numL (bytesOf r)))) := ⟨k11, grownC hgrow (m0 _) HNL.out, grownC hgrow (m1 _) HNL.out, grownC hgrow (m2 _) HNL.out, grownC hgrow (m3 _) HNL.out, grownC hgrow (m4 _) HNL.out⟩
  clear hgrow0
  refine hK.out _ _ (fun _ => by exact HS6.out) ?_
  clear hK K'
  refine wpAnyT_one (i := 9) (by kernel_rfl) rfl rfl (fun K' hK => ?_)
  go_simp
  refine hK.out _ _ (fun _ => by exact HS6.out) ?_
  clear hK K'
  refine wpAnyT_one (i := 10) (by kernel_rfl) rfl rfl (fun K' hK => ?_)
  go_simp
  refine hK.out _ _ (fun _ => by exact HS6.out) ?_
  clear hK K'
  refine wpAnyT_one (i := 11) (by kernel_rfl) rfl rfl (fun K' hK => ?_)
  go_simp
  refine hK.out _ _ (fun _ => by exact HS6.out) ?_
  clear hK K'
  refine wpAnyT_one (i := 12) (by kernel_rfl) rfl rfl (fun K' hK => ?_)
  go_simp
  refine hK.out _ _ (fun h => absurd rfl h) ?_
  clear hK K'
  refine wpAnyT_done (by kernel_rfl) ?_ _
  go_end0
  obtain ⟨g1', g2', g3', g4'⟩ := hgr.out
  have h2 := H4.out
  have hK := g1'.trans h2.box
  refine ⟨rfl, ⟨b4, l4, _, d4, t4, wv4, StV.make (set_box hK 3 _) ⟨set_own hK (g4' _ _ _ _ _ (by decide) h2.owns.hb) (by decide) _ _, set_own hK (g4' _ _ _ _ _ (by decide) h2.owns.hl) (by decide) _ _, ?_, set_own hK (g4' _ _ _ _ _ (by decide) h2.owns.hd) (by decide) _ _, set_own hK (g4' _ _ _ _ _ (by decide) h2.owns.ht) (by decide) _ _⟩ (set_taken hK g2' _ _) (left_nil _ _ h2.words) h2.hBK h2.hBM⟩, HSZ.out.trans (g3'.trans (set_below h2.hBK _ _))⟩
  have := set_own hK hown' (by decide) 3 (.slice a' (N.gens.length + 1) c')
  simpa [GenM.cells] using this
end Go.Proofs.YtpbalclhdhjnoaaGreatDoor
namespace Go.Proofs.YtpbalclhdhjnoaaGreatDoor
open Go.RowKit Go.Maps

set_option maxHeartbeats 800000 in
set_option maxRecDepth 100000 in
theorem line_ok (B Z K M n : Nat) (N : NetM) (f : Taken) (x p r y z : ByteArray) (at_ q q2 : Int) (w : World) (hs : St w B Z K M N n f at_ [x, p, r, y, z]) (hZ : Z ≤ w.heap.size) (hsx : x.size ≤ 20000) (hsp : p.size ≤ 20000) (hsr : r.size ≤ 20000) (hsy : y.size ≤ 20000) (hsz : z.size ≤ 20000) (hn : n ≤ 5000)
    (hv : nameL (bytesOf x) = true) (hf : (f (bytesOf x)).isSome = false) (hl : N.lines.length < 30) (hp : (f.set (bytesOf x) (-1)) (bytesOf p) = some q) (hq : q ≠ -1) (hp2 : (f.set (bytesOf x) (-1)) (bytesOf r) = some q2) (hq2 : q2 ≠ -1) (hne : q ≠ q2) (hvy : 0 ≤ numL (bytesOf y)) (hry : ¬ (numL (bytesOf y) < 1 ∨ 10000 < numL (bytesOf y))) (hvz : 0 ≤ numL (bytesOf z)) (hrz : ¬ (numL (bytesOf z) < 0 ∨ 100000 < numL (bytesOf z))) :
    Calls Tryz.prog 66 #[.pointer (some ⟨K, 0, none⟩)] w fun e w' => e = .returned (.tuple #[]) ∧ St w' B w'.heap.size K M { N with lines := N.lines ++ [⟨x, q, q2, numL (bytesOf y), numL (bytesOf z)⟩] } (n + 1) (f.set (bytesOf x) (-1)) at_ [] ∧ Bel B w w' := by
  obtain ⟨i0, hi, hz0, hz1, hz2⟩ := info_parts Tryz.info54
  have HS0 : Hid (∀ o, St (w.alloc o) B Z K M N n f at_ [x, p, r, y, z]) := fun o => hs.alloc hZ o
  have hKM : w.heap.size ≠ K ∧ w.heap.size ≠ M := ⟨by have := hs.ltK; omega, by have := hs.ltM; omega⟩
  have HS := hide' hs
  obtain ⟨b, l, g, d, t, wv, hs⟩ := hs
  obtain ⟨ad, cd, rfl⟩ := own_slice hs.owns.hl
  have c4 : ∀ o, (w.alloc o).cell? ⟨K, 2, none⟩ = some (.slice ad N.lines.length cd) := later (hs.cell 2 rfl)
  have HNN : Hid (n ≤ 10000) := by show n ≤ 10000; omega
  have HLL : Hid ((N.lines.length : Int) < 30) := by show (N.lines.length : Int) < 30; omega
  have H_hv := hide' hv
  have H_hf := hide' hf
  have H_hp := hide' hp
  have H_hp2 := hide' hp2
  have H_hne := hide' hne
  have H_hvy := hide' hvy
  have H_hry := hide' hry
  have H_hvz := hide' hvz
  have H_hrz := hide' hrz
  clear hs hv hf hp hp2 hne hvy hry hvz hrz
  go_enter Tryz.func66, Tryz.ntmps66
  go_wp2_with (first
    | (go_at_call 81; refine (num_ok (x := z) (h3.set hZ 3 _) hsz (Int.not_lt.2 H_hvz.out) H_hrz.out).mono ?_; rintro e w4 ⟨rfl, h4, fr4⟩; have bx4 := (bx3.set 3 _).fr fr4 hKM.1 hKM.2; have k4 : w4.cell? ⟨w.heap.size, 4, none⟩ = some (.int .i64 0) := bx4.cell 4 rfl; have z4 := bx4.fz 4)
    | (go_at_call 81; refine (num_ok (x := y) ((h2.set hZ 1 _).set hZ 2 _) hsy (Int.not_lt.2 H_hvy.out) H_hry.out).mono ?_; rintro e w3 ⟨rfl, h3, fr3⟩; have bx3 := ((bx2.set 1 _).set 2 _).fr fr3 hKM.1 hKM.2; have k3 : w3.cell? ⟨w.heap.size, 3, none⟩ = some (.int .i64 0) := bx3.cell 3 rfl; have z3 := bx3.fz 3)
    | (go_at_call 80; refine (ends_ok B Z K M (n + 1) N (f.set (bytesOf x) (-1)) p r [y, z] at_ q q2 _ (h1.set hZ 0 _) hsp hsr H_hp.out hq H_hp2.out hq2 H_hne.out).mono ?_; rintro e w2 ⟨rfl, h2, fr2⟩; have bx2 := (bx1.set 0 _).fr fr2 hKM.1 hKM.2; have k1 : w2.cell? ⟨w.heap.size, 1, none⟩ = some (.int .i64 0) := bx2.cell 1 rfl; have z1 := bx2.fz 1; have k2 : w2.cell? ⟨w.heap.size, 2, none⟩ = some (.int .i64 0) := bx2.cell 2 rfl; have z2 := bx2.fz 2)
    | (go_at_call 79; refine (newName_ok B Z K M n N f x [p, r, y, z] at_ N.lines.length 30 _ (HS0.out _) hsx HNN.out H_hv.out H_hf.out HLL.out).mono ?_; rintro e w1 ⟨rfl, h1, fr1⟩; have bx1 := (Bx.new w 54 _).fr fr1 hKM.1 hKM.2; have k0 : w1.cell? ⟨w.heap.size, 0, none⟩ = some (.string ⟨#[]⟩) := bx1.cell 0 rfl; have z0 := bx1.fz 0)
    | go_in)
  have hE := (h4.set hZ 4 (.int .i64 (numL (bytesOf z))))
  have bxE := (bx4.set 4 (.int .i64 (numL (bytesOf z))))
  have hLB : B ≤ w.heap.size := by have := HS.out.ltK; obtain ⟨_, _, _, _, _, _, h⟩ := HS.out; have := h.hBK; omega
  have e1 : Bel B w (w.alloc (Obj.cells #[Value.string { data := #[] }, Value.int IntKind.i64 0, Value.int IntKind.i64 0, Value.int IntKind.i64 0, Value.int IntKind.i64 0] 54)) := (Bel.refl B w).alloc hLB _
  have hBel := e1.trans ((HS0.out _).fr fr1) |>.trans (set_below hLB 0 _) |>.trans ((h1.set hZ 0 _).fr fr2) |>.trans (set_below hLB 1 _) |>.trans (set_below hLB 2 _) |>.trans (((h2.set hZ 1 _).set hZ 2 _).fr fr3) |>.trans (set_below hLB 3 _) |>.trans ((h3.set hZ 3 _).fr fr4) |>.trans (set_below hLB 4 (.int .i64 (numL (bytesOf z))))
  obtain ⟨W5, hW5⟩ : ∃ W5, (w4.setCell ⟨w.heap.size, 4, none⟩ (.int .i64 (numL (bytesOf z)))) = W5 := ⟨_, rfl⟩
  rw [hW5] at hE bxE hBel ⊢
  obtain ⟨b4, l4, g4, d4, t4, wv4, hE⟩ := hE
  obtain ⟨ad4, cd4, rfl⟩ := own_slice hE.owns.hl
  have HSZ := hide' hBel
  have kf : W5.cell? ⟨K, 2, none⟩ = some (.slice ad4 N.lines.length cd4) := hE.cell 2 rfl
  have lc0 : W5.cell? ⟨w.heap.size, 0, none⟩ = some (.string x) := bxE.cell 0 rfl
  have lc1 : W5.cell? ⟨w.heap.size, 1, none⟩ = some (.int .i64 q) := bxE.cell 1 rfl
  have lc2 : W5.cell? ⟨w.heap.size, 2, none⟩ = some (.int .i64 q2) := bxE.cell 2 rfl
  have lc3 : W5.cell? ⟨w.heap.size, 3, none⟩ = some (.int .i64 (numL (bytesOf y))) := bxE.cell 3 rfl
  have lc4 : W5.cell? ⟨w.heap.size, 4, none⟩ = some (.int .i64 (numL (bytesOf z))) := bxE.cell 4 rfl
  have H4 := hide' hE
  have a4 := later kf
  have m0 := later lc0
  have m1 := later lc1
  have m2 := later lc2
  have m3 := later lc3
  have m4 := later lc4
  have HB1 : Hid (N.lines.length + 1 ≤ maxLen) := by show _ ≤ _; unfold maxLen; omega
  have HB2 : Hid ((N.lines.length + 1) * 48 ≤ 140737488355328) := by show _ ≤ _; omega
  have HB4 : Hid (∀ o, B ≤ (W5.alloc o).drew.heap.size) := fun o => by show B ≤ (W5.alloc o).heap.size; rw [World.size_alloc]; have := hE.lt; have := hE.hBK; omega
  have HC1 : Hid (∀ j u, [.string x, .int .i64 q, .int .i64 q2, .int .i64 (numL (bytesOf y)), .int .i64 (numL (bytesOf z))][j]? = some u → (W5.alloc (Obj.cells #[.string x, .int .i64 q, .int .i64 q2, .int .i64 (numL (bytesOf y)), .int .i64 (numL (bytesOf z))] 54)).drew.cell? ((⟨W5.heap.size, 0, none⟩ : Addr).add j) = some u) := cell_news W5 _ 54
  have HA : Hid ((W5.alloc (Obj.cells #[.string x, .int .i64 q, .int .i64 q2, .int .i64 (numL (bytesOf y)), .int .i64 (numL (bytesOf z))] 54)).drew.ownsRow B 54 5 (.slice ad4 N.lines.length cd4) N.lines.length (N.lines.flatMap LineM.cells)) := hE.owns.hl.alloc _
  have HNL : Hid (some w.heap.size ≠ (Value.slice ad4 N.lines.length cd4).ownBlock) := fun h => by have := hE.hz (.slice ad4 N.lines.length cd4) (by simp) _ h.symm; omega
  have HS5 : Hid (W5.cell? ⟨K, 2, none⟩ = some (.slice ad4 N.lines.length cd4) ∧ W5.cell? ⟨w.heap.size, 0, none⟩ = some (.string x) ∧ W5.cell? ⟨w.heap.size, 1, none⟩ = some (.int .i64 q) ∧ W5.cell? ⟨w.heap.size, 2, none⟩ = some (.int .i64 q2) ∧ W5.cell? ⟨w.heap.size, 3, none⟩ = some (.int .i64 (numL (bytesOf y))) ∧ W5.cell? ⟨w.heap.size, 4, none⟩ = some (.int .i64 (numL (bytesOf z)))) := ⟨kf, lc0, lc1, lc2, lc3, lc4⟩
  clear hE bxE hW5 hBel e1 bx1 bx2 bx3 bx4 k0 z0 k1 z1 k2 z2 k3 z3 k4 z4 h1 h2 h3 h4 fr1 fr2 fr3 fr4
  refine wp_region_tail (fun W => W.cell? ⟨K, 2, none⟩ = some (.slice ad4 N.lines.length cd4) ∧ W.cell? ⟨w.heap.size, 0, none⟩ = some (.string x) ∧ W.cell? ⟨w.heap.size, 1, none⟩ = some (.int .i64 q) ∧ W.cell? ⟨w.heap.size, 2, none⟩ = some (.int .i64 q2) ∧ W.cell? ⟨w.heap.size, 3, none⟩ = some (.int .i64 (numL (bytesOf y))) ∧ W.cell? ⟨w.heap.size, 4, none⟩ = some (.int .i64 (numL (bytesOf z)))) 12 (by kernel_rfl) ?_
  refine wpAnyT_takeAt 0 (some 25) (v := ?_) rfl (by kernel_rfl) (by kernel_rfl) (by kernel_rfl) rfl (by kernel_rfl) (fun _ _ _ h => h) (by exact HS5.out) (fun o hop => ?_) ?_
  rotate_left
  · injection hop with hop
    subst hop
    refine ⟨rfl, fun W hW => ?_⟩
    obtain ⟨s0, s1, s2, s3, s4, s5⟩ := hW
    go_simp
    try rfl
  try simp only [Act.put, List.setIfInBounds_toArray, List.set_cons_zero, List.set_cons_succ]
  refine wpAnyT_takeAt 1 (some 26) (v := ?_) rfl (by kernel_rfl) (by kernel_rfl) (by kernel_rfl) rfl (by kernel_rfl) (fun _ _ _ h => h) (by exact HS5.out) (fun o hop => ?_) ?_
  rotate_left
  · injection hop with hop
    subst hop
    refine ⟨rfl, fun W hW => ?_⟩
    obtain ⟨s0, s1, s2, s3, s4, s5⟩ := hW
    go_simp
    try rfl
  try simp only [Act.put, List.setIfInBounds_toArray, List.set_cons_zero, List.set_cons_succ]
  refine wpAnyT_takeAt 2 (some 27) (v := ?_) rfl (by kernel_rfl) (by kernel_rfl) (by kernel_rfl) rfl (by kernel_rfl) (fun _ _ _ h => h) (by exact HS5.out) (fun o hop => ?_) ?_
  rotate_left
  · injection hop with hop
    subst hop
    refine ⟨rfl, fun W hW => ?_⟩
    obtain ⟨s0, s1, s2, s3, s4, s5⟩ := hW
    go_simp
    try rfl
  try simp only [Act.put, List.setIfInBounds_toArray, List.set_cons_zero, List.set_cons_succ]
  refine wpAnyT_takeAt 3 (some 28) (v := ?_) rfl (by kernel_rfl) (by kernel_rfl) (by kernel_rfl) rfl (by kernel_rfl) (fun _ _ _ h => h) (by exact HS5.out) (fun o hop => ?_) ?_
  rotate_left
  · injection hop with hop
    subst hop
    refine ⟨rfl, fun W hW => ?_⟩
    obtain ⟨s0, s1, s2, s3, s4, s5⟩ := hW
    go_simp
    try rfl
  try simp only [Act.put, List.setIfInBounds_toArray, List.set_cons_zero, List.set_cons_succ]
  refine wpAnyT_takeAt 4 (some 29) (v := ?_) rfl (by kernel_rfl) (by kernel_rfl) (by kernel_rfl) rfl (by kernel_rfl) (fun _ _ _ h => h) (by exact HS5.out) (fun o hop => ?_) ?_
  rotate_left
  · injection hop with hop
    subst hop
    refine ⟨rfl, fun W hW => ?_⟩
    obtain ⟨s0, s1, s2, s3, s4, s5⟩ := hW
    go_simp
    try rfl
  try simp only [Act.put, List.setIfInBounds_toArray, List.set_cons_zero, List.set_cons_succ]
  refine wpAnyT_takeAt 5 (some 30) (v := ?_) rfl (by kernel_rfl) (by kernel_rfl) (by kernel_rfl) rfl (by kernel_rfl) (fun _ _ _ h => h) (by exact HS5.out) (fun o hop => ?_) ?_
  rotate_left
  · injection hop with hop
    subst hop
    refine ⟨rfl, fun W hW => ?_⟩
    obtain ⟨s0, s1, s2, s3, s4, s5⟩ := hW
    go_simp
    try rfl
  try simp only [Act.put, List.setIfInBounds_toArray, List.set_cons_zero, List.set_cons_succ]
  refine wpAnyT_takeAt 6 (some 31) (v := ?_) rfl (by kernel_rfl) (by kernel_rfl) (by kernel_rfl) rfl (by kernel_rfl) (fun _ _ _ h => h) (by exact HS5.out) (fun o hop => ?_) ?_
  rotate_left
  · injection hop with hop
    subst hop
    refine ⟨rfl, fun W hW => ?_⟩
    obtain ⟨s0, s1, s2, s3, s4, s5⟩ := hW
    go_simp
    try rfl
  try simp only [Act.put, List.setIfInBounds_toArray, List.set_cons_zero, List.set_cons_succ]
  refine wpAnyT_one (i := 7) (by kernel_rfl) rfl rfl (fun K' hK => ?_)
  go_simp
  refine hK.out _ _ (fun _ => by exact ⟨a4 _, m0 _, m1 _, m2 _, m3 _, m4 _⟩) ?_
  clear hK K'
  try simp only [Act.put, List.setIfInBounds_toArray, List.set_cons_zero, List.set_cons_succ]
  refine wpAnyT_one (i := 8) (by kernel_rfl) rfl rfl (fun K' hK => ?_)
  refine step_append_own (hg := rfl) (s := .tmp 30) (x := .tmp 32) (t := 23) (hop := rfl) (base := B) (e := 54) (i := i0) (z := .agg #[.string ⟨#[]⟩, .int .i64 0, .int .i64 0, .int .i64 0, .int .i64 0]) (size := 5) (bytes := 48) (h1 := Tryz.underlying23) (h2 := hi) (h3 := hz0) (h4 := hz1) (h5 := hz2) (h6 := rfl) (h7 := Nat.succ_pos 4) (v := .slice ad4 N.lines.length cd4) (n := N.lines.length) (xs := N.lines.flatMap LineM.cells) (hs := rfl) (hown := HA.out) (ad := ⟨W5.heap.size, 0, none⟩) (m := 1) (c := 1) (news := [.string x, .int .i64 q, .int .i64 q2, .int .i64 (numL (bytesOf y)), .int .i64 (numL (bytesOf z))]) (hx := rfl) (hn := rfl) (hc := HC1.out) (h1c := five_one) (b1 := HB1.out) (b2 := HB2.out) (b3 := HB4.out _) (hK := ?_)
  intro v' w6 hown' hgrow0
  have hgrow := undrew hgrow0
  obtain ⟨a', c', rfl⟩ := own_slice hown'
  have hgr := hide' (H4.out.grown _ H4.out.owns.hl (by decide) hgrow)
  have k11 : w6.cell? ⟨K, 2, none⟩ = some (.slice ad4 N.lines.length cd4) := H4.out.cl hgr.out.1 2 rfl
  have f11 : w6.frozen? ⟨K, 2, none⟩ = false := H4.out.fz hgr.out.1 2
  have HS6 : Hid (w6.cell? ⟨K, 2, none⟩ = some (.slice ad4 N.lines.length cd4) ∧ w6.cell? ⟨w.heap.size, 0, none⟩ = some (.string x) ∧ w6.cell? ⟨w.heap.size, 1, none⟩ = some (.int .i64 q) ∧ w6.cell? ⟨w.heap.size, 2, none⟩ = some (.int .i64 q2) ∧ w6.cell? ⟨w.heap.size, 3, none⟩ = some (.int .i64 (numL (bytesOf y))) ∧ w6.cell? ⟨w.heap.size, 4, none⟩ = some (.int .i64 (numL (bytesOf z)))) := ⟨k11, grownC hgrow (m0 _) HNL.out, grownC hgrow (m1 _) HNL.out, grownC hgrow (m2 _) HNL.out, grownC hgrow (m3 _) HNL.out, grownC hgrow (m4 _) HNL.out⟩
  clear hgrow0
  refine hK.out _ _ (fun _ => by exact HS6.out) ?_
  clear hK K'
  refine wpAnyT_one (i := 9) (by kernel_rfl) rfl rfl (fun K' hK => ?_)
  go_simp
  refine hK.out _ _ (fun _ => by exact HS6.out) ?_
  clear hK K'
  refine wpAnyT_one (i := 10) (by kernel_rfl) rfl rfl (fun K' hK => ?_)
  go_simp
  refine hK.out _ _ (fun _ => by exact HS6.out) ?_
  clear hK K'
  refine wpAnyT_one (i := 11) (by kernel_rfl) rfl rfl (fun K' hK => ?_)
  go_simp
  refine hK.out _ _ (fun _ => by exact HS6.out) ?_
  clear hK K'
  refine wpAnyT_one (i := 12) (by kernel_rfl) rfl rfl (fun K' hK => ?_)
  go_simp
  refine hK.out _ _ (fun h => absurd rfl h) ?_
  clear hK K'
  refine wpAnyT_done (by kernel_rfl) ?_ _
  go_end0
  obtain ⟨g1', g2', g3', g4'⟩ := hgr.out
  have h2 := H4.out
  have hK := g1'.trans h2.box
  refine ⟨rfl, ⟨b4, _, g4, d4, t4, wv4, StV.make (set_box hK 2 _) ⟨set_own hK (g4' _ _ _ _ _ (by decide) h2.owns.hb) (by decide) _ _, ?_, set_own hK (g4' _ _ _ _ _ (by decide) h2.owns.hg) (by decide) _ _, set_own hK (g4' _ _ _ _ _ (by decide) h2.owns.hd) (by decide) _ _, set_own hK (g4' _ _ _ _ _ (by decide) h2.owns.ht) (by decide) _ _⟩ (set_taken hK g2' _ _) (left_nil _ _ h2.words) h2.hBK h2.hBM⟩, HSZ.out.trans (g3'.trans (set_below h2.hBK _ _))⟩
  have := set_own hK hown' (by decide) 2 (.slice a' (N.lines.length + 1) c')
  simpa [LineM.cells] using this
end Go.Proofs.YtpbalclhdhjnoaaGreatDoor
namespace Go.Proofs.YtpbalclhdhjnoaaGreatDoor
open Go.RowKit Go.Maps

set_option maxHeartbeats 800000 in
set_option maxRecDepth 100000 in
theorem tie_ok (B Z K M n : Nat) (N : NetM) (f : Taken) (x p r y : ByteArray) (at_ q q2 : Int) (w : World) (hs : St w B Z K M N n f at_ [x, p, r, y]) (hZ : Z ≤ w.heap.size) (hsx : x.size ≤ 20000) (hsp : p.size ≤ 20000) (hsr : r.size ≤ 20000) (hn : n ≤ 5000)
    (hv : nameL (bytesOf x) = true) (hf : (f (bytesOf x)).isSome = false) (hl : N.ties.length < 24) (hp : (f.set (bytesOf x) (-1)) (bytesOf p) = some q) (hq : q ≠ -1) (hp2 : (f.set (bytesOf x) (-1)) (bytesOf r) = some q2) (hq2 : q2 ≠ -1) (hne : q ≠ q2) (ho : (y.toList == [111, 112, 101, 110]) = true ∨ (y.toList == [99, 108, 111, 115, 101, 100]) = true) :
    Calls Tryz.prog 69 #[.pointer (some ⟨K, 0, none⟩)] w fun e w' => e = .returned (.tuple #[]) ∧ St w' B w'.heap.size K M { N with ties := N.ties ++ [⟨x, q, q2, y.toList == [99, 108, 111, 115, 101, 100]⟩] } (n + 1) (f.set (bytesOf x) (-1)) at_ [] ∧ Bel B w w' := by
  obtain ⟨i0, hi, hz0, hz1, hz2⟩ := info_parts Tryz.info56
  have HS0 : Hid (∀ o, St (w.alloc o) B Z K M N n f at_ [x, p, r, y]) := fun o => hs.alloc hZ o
  have hKM : w.heap.size ≠ K ∧ w.heap.size ≠ M := ⟨by have := hs.ltK; omega, by have := hs.ltM; omega⟩
  have HS := hide' hs
  obtain ⟨b, l, g, d, t, wv, hs⟩ := hs
  obtain ⟨ad, cd, rfl⟩ := own_slice hs.owns.ht
  have c4 : ∀ o, (w.alloc o).cell? ⟨K, 5, none⟩ = some (.slice ad N.ties.length cd) := later (hs.cell 5 rfl)
  have HNN : Hid (n ≤ 10000) := by show n ≤ 10000; omega
  have HLL : Hid ((N.ties.length : Int) < 24) := by show (N.ties.length : Int) < 24; omega
  have H_hv := hide' hv
  have H_hf := hide' hf
  have H_hp := hide' hp
  have H_hp2 := hide' hp2
  have H_hne := hide' hne
  have H_ho := hide' ho
  clear hs hv hf hp hp2 hne ho
  go_enter Tryz.func69, Tryz.ntmps69
  go_wp2_with (first
    | (go_at_call 83; refine (shut_ok (x := y) ((h2.set hZ 1 _).set hZ 2 _) H_ho.out).mono ?_; rintro e w3 ⟨rfl, h3, fr3⟩; have bx3 := ((bx2.set 1 _).set 2 _).fr fr3 hKM.1 hKM.2; have k3 : w3.cell? ⟨w.heap.size, 3, none⟩ = some (.bool false) := bx3.cell 3 rfl; have z3 := bx3.fz 3)
    | (go_at_call 80; refine (ends_ok B Z K M (n + 1) N (f.set (bytesOf x) (-1)) p r [y] at_ q q2 _ (h1.set hZ 0 _) hsp hsr H_hp.out hq H_hp2.out hq2 H_hne.out).mono ?_; rintro e w2 ⟨rfl, h2, fr2⟩; have bx2 := (bx1.set 0 _).fr fr2 hKM.1 hKM.2; have k1 : w2.cell? ⟨w.heap.size, 1, none⟩ = some (.int .i64 0) := bx2.cell 1 rfl; have z1 := bx2.fz 1; have k2 : w2.cell? ⟨w.heap.size, 2, none⟩ = some (.int .i64 0) := bx2.cell 2 rfl; have z2 := bx2.fz 2)
    | (go_at_call 79; refine (newName_ok B Z K M n N f x [p, r, y] at_ N.ties.length 24 _ (HS0.out _) hsx HNN.out H_hv.out H_hf.out HLL.out).mono ?_; rintro e w1 ⟨rfl, h1, fr1⟩; have bx1 := (Bx.new w 56 _).fr fr1 hKM.1 hKM.2; have k0 : w1.cell? ⟨w.heap.size, 0, none⟩ = some (.string ⟨#[]⟩) := bx1.cell 0 rfl; have z0 := bx1.fz 0)
    | go_in)
  have hE := (h3.set hZ 3 (.bool (y.toList == [99, 108, 111, 115, 101, 100])))
  have bxE := (bx3.set 3 (.bool (y.toList == [99, 108, 111, 115, 101, 100])))
  have hLB : B ≤ w.heap.size := by have := HS.out.ltK; obtain ⟨_, _, _, _, _, _, h⟩ := HS.out; have := h.hBK; omega
  have e1 : Bel B w (w.alloc (Obj.cells #[Value.string { data := #[] }, Value.int IntKind.i64 0, Value.int IntKind.i64 0, Value.bool false] 56)) := (Bel.refl B w).alloc hLB _
  have hBel := e1.trans ((HS0.out _).fr fr1) |>.trans (set_below hLB 0 _) |>.trans ((h1.set hZ 0 _).fr fr2) |>.trans (set_below hLB 1 _) |>.trans (set_below hLB 2 _) |>.trans (((h2.set hZ 1 _).set hZ 2 _).fr fr3) |>.trans (set_below hLB 3 (.bool (y.toList == [99, 108, 111, 115, 101, 100])))
  obtain ⟨W5, hW5⟩ : ∃ W5, (w3.setCell ⟨w.heap.size, 3, none⟩ (.bool (y.toList == [99, 108, 111, 115, 101, 100]))) = W5 := ⟨_, rfl⟩
  rw [hW5] at hE bxE hBel ⊢
  obtain ⟨b4, l4, g4, d4, t4, wv4, hE⟩ := hE
  obtain ⟨ad4, cd4, rfl⟩ := own_slice hE.owns.ht
  have HSZ := hide' hBel
  have kf : W5.cell? ⟨K, 5, none⟩ = some (.slice ad4 N.ties.length cd4) := hE.cell 5 rfl
  have lc0 : W5.cell? ⟨w.heap.size, 0, none⟩ = some (.string x) := bxE.cell 0 rfl
  have lc1 : W5.cell? ⟨w.heap.size, 1, none⟩ = some (.int .i64 q) := bxE.cell 1 rfl
  have lc2 : W5.cell? ⟨w.heap.size, 2, none⟩ = some (.int .i64 q2) := bxE.cell 2 rfl
  have lc3 : W5.cell? ⟨w.heap.size, 3, none⟩ = some (.bool (y.toList == [99, 108, 111, 115, 101, 100])) := bxE.cell 3 rfl
  have H4 := hide' hE
  have a4 := later kf
  have m0 := later lc0
  have m1 := later lc1
  have m2 := later lc2
  have m3 := later lc3
  have HB1 : Hid (N.ties.length + 1 ≤ maxLen) := by show _ ≤ _; unfold maxLen; omega
  have HB2 : Hid ((N.ties.length + 1) * 40 ≤ 140737488355328) := by show _ ≤ _; omega
  have HB4 : Hid (∀ o, B ≤ (W5.alloc o).drew.heap.size) := fun o => by show B ≤ (W5.alloc o).heap.size; rw [World.size_alloc]; have := hE.lt; have := hE.hBK; omega
  have HC1 : Hid (∀ j u, [.string x, .int .i64 q, .int .i64 q2, .bool (y.toList == [99, 108, 111, 115, 101, 100])][j]? = some u → (W5.alloc (Obj.cells #[.string x, .int .i64 q, .int .i64 q2, .bool (y.toList == [99, 108, 111, 115, 101, 100])] 56)).drew.cell? ((⟨W5.heap.size, 0, none⟩ : Addr).add j) = some u) := cell_news W5 _ 56
  have HA : Hid ((W5.alloc (Obj.cells #[.string x, .int .i64 q, .int .i64 q2, .bool (y.toList == [99, 108, 111, 115, 101, 100])] 56)).drew.ownsRow B 56 4 (.slice ad4 N.ties.length cd4) N.ties.length (N.ties.flatMap TieM.cells)) := hE.owns.ht.alloc _
  have HNL : Hid (some w.heap.size ≠ (Value.slice ad4 N.ties.length cd4).ownBlock) := fun h => by have := hE.hz (.slice ad4 N.ties.length cd4) (by simp) _ h.symm; omega
  have HS5 : Hid (W5.cell? ⟨K, 5, none⟩ = some (.slice ad4 N.ties.length cd4) ∧ W5.cell? ⟨w.heap.size, 0, none⟩ = some (.string x) ∧ W5.cell? ⟨w.heap.size, 1, none⟩ = some (.int .i64 q) ∧ W5.cell? ⟨w.heap.size, 2, none⟩ = some (.int .i64 q2) ∧ W5.cell? ⟨w.heap.size, 3, none⟩ = some (.bool (y.toList == [99, 108, 111, 115, 101, 100]))) := ⟨kf, lc0, lc1, lc2, lc3⟩
  clear hE bxE hW5 hBel e1 bx1 bx2 bx3 k0 z0 k1 z1 k2 z2 k3 z3 h1 h2 h3 fr1 fr2 fr3
  refine wp_region_tail (fun W => W.cell? ⟨K, 5, none⟩ = some (.slice ad4 N.ties.length cd4) ∧ W.cell? ⟨w.heap.size, 0, none⟩ = some (.string x) ∧ W.cell? ⟨w.heap.size, 1, none⟩ = some (.int .i64 q) ∧ W.cell? ⟨w.heap.size, 2, none⟩ = some (.int .i64 q2) ∧ W.cell? ⟨w.heap.size, 3, none⟩ = some (.bool (y.toList == [99, 108, 111, 115, 101, 100]))) 12 (by kernel_rfl) ?_
  refine wpAnyT_takeAt 0 (some 22) (v := ?_) rfl (by kernel_rfl) (by kernel_rfl) (by kernel_rfl) rfl (by kernel_rfl) (fun _ _ _ h => h) (by exact HS5.out) (fun o hop => ?_) ?_
  rotate_left
  · injection hop with hop
    subst hop
    refine ⟨rfl, fun W hW => ?_⟩
    obtain ⟨s0, s1, s2, s3, s4⟩ := hW
    go_simp
    try rfl
  try simp only [Act.put, List.setIfInBounds_toArray, List.set_cons_zero, List.set_cons_succ]
  refine wpAnyT_takeAt 1 (some 23) (v := ?_) rfl (by kernel_rfl) (by kernel_rfl) (by kernel_rfl) rfl (by kernel_rfl) (fun _ _ _ h => h) (by exact HS5.out) (fun o hop => ?_) ?_
  rotate_left
  · injection hop with hop
    subst hop
    refine ⟨rfl, fun W hW => ?_⟩
    obtain ⟨s0, s1, s2, s3, s4⟩ := hW
    go_simp
    try rfl
  try simp only [Act.put, List.setIfInBounds_toArray, List.set_cons_zero, List.set_cons_succ]
  refine wpAnyT_takeAt 2 (some 24) (v := ?_) rfl (by kernel_rfl) (by kernel_rfl) (by kernel_rfl) rfl (by kernel_rfl) (fun _ _ _ h => h) (by exact HS5.out) (fun o hop => ?_) ?_
  rotate_left
  · injection hop with hop
    subst hop
    refine ⟨rfl, fun W hW => ?_⟩
    obtain ⟨s0, s1, s2, s3, s4⟩ := hW
    go_simp
    try rfl
  try simp only [Act.put, List.setIfInBounds_toArray, List.set_cons_zero, List.set_cons_succ]
  refine wpAnyT_takeAt 3 (some 25) (v := ?_) rfl (by kernel_rfl) (by kernel_rfl) (by kernel_rfl) rfl (by kernel_rfl) (fun _ _ _ h => h) (by exact HS5.out) (fun o hop => ?_) ?_
  rotate_left
  · injection hop with hop
    subst hop
    refine ⟨rfl, fun W hW => ?_⟩
    obtain ⟨s0, s1, s2, s3, s4⟩ := hW
    go_simp
    try rfl
  try simp only [Act.put, List.setIfInBounds_toArray, List.set_cons_zero, List.set_cons_succ]
  refine wpAnyT_takeAt 4 (some 26) (v := ?_) rfl (by kernel_rfl) (by kernel_rfl) (by kernel_rfl) rfl (by kernel_rfl) (fun _ _ _ h => h) (by exact HS5.out) (fun o hop => ?_) ?_
  rotate_left
  · injection hop with hop
    subst hop
    refine ⟨rfl, fun W hW => ?_⟩
    obtain ⟨s0, s1, s2, s3, s4⟩ := hW
    go_simp
    try rfl
  try simp only [Act.put, List.setIfInBounds_toArray, List.set_cons_zero, List.set_cons_succ]
  refine wpAnyT_takeAt 5 (some 27) (v := ?_) rfl (by kernel_rfl) (by kernel_rfl) (by kernel_rfl) rfl (by kernel_rfl) (fun _ _ _ h => h) (by exact HS5.out) (fun o hop => ?_) ?_
  rotate_left
  · injection hop with hop
    subst hop
    refine ⟨rfl, fun W hW => ?_⟩
    obtain ⟨s0, s1, s2, s3, s4⟩ := hW
    go_simp
    try rfl
  try simp only [Act.put, List.setIfInBounds_toArray, List.set_cons_zero, List.set_cons_succ]
  refine wpAnyT_takeAt 6 (some 28) (v := ?_) rfl (by kernel_rfl) (by kernel_rfl) (by kernel_rfl) rfl (by kernel_rfl) (fun _ _ _ h => h) (by exact HS5.out) (fun o hop => ?_) ?_
  rotate_left
  · injection hop with hop
    subst hop
    refine ⟨rfl, fun W hW => ?_⟩
    obtain ⟨s0, s1, s2, s3, s4⟩ := hW
    go_simp
    try rfl
  try simp only [Act.put, List.setIfInBounds_toArray, List.set_cons_zero, List.set_cons_succ]
  refine wpAnyT_one (i := 7) (by kernel_rfl) rfl rfl (fun K' hK => ?_)
  go_simp
  refine hK.out _ _ (fun _ => by exact ⟨a4 _, m0 _, m1 _, m2 _, m3 _⟩) ?_
  clear hK K'
  try simp only [Act.put, List.setIfInBounds_toArray, List.set_cons_zero, List.set_cons_succ]
  refine wpAnyT_one (i := 8) (by kernel_rfl) rfl rfl (fun K' hK => ?_)
  refine step_append_own (hg := rfl) (s := .tmp 27) (x := .tmp 29) (t := 26) (hop := rfl) (base := B) (e := 56) (i := i0) (z := .agg #[.string ⟨#[]⟩, .int .i64 0, .int .i64 0, .bool false]) (size := 4) (bytes := 40) (h1 := Tryz.underlying26) (h2 := hi) (h3 := hz0) (h4 := hz1) (h5 := hz2) (h6 := rfl) (h7 := Nat.succ_pos 3) (v := .slice ad4 N.ties.length cd4) (n := N.ties.length) (xs := N.ties.flatMap TieM.cells) (hs := rfl) (hown := HA.out) (ad := ⟨W5.heap.size, 0, none⟩) (m := 1) (c := 1) (news := [.string x, .int .i64 q, .int .i64 q2, .bool (y.toList == [99, 108, 111, 115, 101, 100])]) (hx := rfl) (hn := rfl) (hc := HC1.out) (h1c := four_one) (b1 := HB1.out) (b2 := HB2.out) (b3 := HB4.out _) (hK := ?_)
  intro v' w6 hown' hgrow0
  have hgrow := undrew hgrow0
  obtain ⟨a', c', rfl⟩ := own_slice hown'
  have hgr := hide' (H4.out.grown _ H4.out.owns.ht (by decide) hgrow)
  have k11 : w6.cell? ⟨K, 5, none⟩ = some (.slice ad4 N.ties.length cd4) := H4.out.cl hgr.out.1 5 rfl
  have f11 : w6.frozen? ⟨K, 5, none⟩ = false := H4.out.fz hgr.out.1 5
  have HS6 : Hid (w6.cell? ⟨K, 5, none⟩ = some (.slice ad4 N.ties.length cd4) ∧ w6.cell? ⟨w.heap.size, 0, none⟩ = some (.string x) ∧ w6.cell? ⟨w.heap.size, 1, none⟩ = some (.int .i64 q) ∧ w6.cell? ⟨w.heap.size, 2, none⟩ = some (.int .i64 q2) ∧ w6.cell? ⟨w.heap.size, 3, none⟩ = some (.bool (y.toList == [99, 108, 111, 115, 101, 100]))) := ⟨k11, grownC hgrow (m0 _) HNL.out, grownC hgrow (m1 _) HNL.out, grownC hgrow (m2 _) HNL.out, grownC hgrow (m3 _) HNL.out⟩
  clear hgrow0
  refine hK.out _ _ (fun _ => by exact HS6.out) ?_
  clear hK K'
  refine wpAnyT_one (i := 9) (by kernel_rfl) rfl rfl (fun K' hK => ?_)
  go_simp
  refine hK.out _ _ (fun _ => by exact HS6.out) ?_
  clear hK K'
  refine wpAnyT_one (i := 10) (by kernel_rfl) rfl rfl (fun K' hK => ?_)
  go_simp
  refine hK.out _ _ (fun _ => by exact HS6.out) ?_
  clear hK K'
  refine wpAnyT_one (i := 11) (by kernel_rfl) rfl rfl (fun K' hK => ?_)
  go_simp
  refine hK.out _ _ (fun _ => by exact HS6.out) ?_
  clear hK K'
  refine wpAnyT_one (i := 12) (by kernel_rfl) rfl rfl (fun K' hK => ?_)
  go_simp
  refine hK.out _ _ (fun h => absurd rfl h) ?_
  clear hK K'
  refine wpAnyT_done (by kernel_rfl) ?_ _
  go_end0
  obtain ⟨g1', g2', g3', g4'⟩ := hgr.out
  have h2 := H4.out
  have hK := g1'.trans h2.box
  refine ⟨rfl, ⟨b4, l4, g4, d4, _, wv4, StV.make (set_box hK 5 _) ⟨set_own hK (g4' _ _ _ _ _ (by decide) h2.owns.hb) (by decide) _ _, set_own hK (g4' _ _ _ _ _ (by decide) h2.owns.hl) (by decide) _ _, set_own hK (g4' _ _ _ _ _ (by decide) h2.owns.hg) (by decide) _ _, set_own hK (g4' _ _ _ _ _ (by decide) h2.owns.hd) (by decide) _ _, ?_⟩ (set_taken hK g2' _ _) (left_nil _ _ h2.words) h2.hBK h2.hBM⟩, HSZ.out.trans (g3'.trans (set_below h2.hBK _ _))⟩
  have := set_own hK hown' (by decide) 5 (.slice a' (N.ties.length + 1) c')
  simpa [TieM.cells] using this
end Go.Proofs.YtpbalclhdhjnoaaGreatDoor
