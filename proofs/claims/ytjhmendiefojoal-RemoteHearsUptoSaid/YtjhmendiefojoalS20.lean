/- RemoteHears answers true. -/
import Derived.Test.YtjhmendiefojoalS19
namespace Go.Proofs.Ytjhmendiefojoal
open Go.RowKit Go.Shelf

set_option maxRecDepth 100000 in
set_option maxHeartbeats 8000000 in
theorem RemoteHears_any (S : StM) (m : MsM) (l : List Bool) (n c : Nat) (a : Option Addr) (w : World) (hr : RowAt w (.slice a n c) n 1 (l.map Value.bool)) (hn : n ≤ 2000000) : Calls Try.prog 5 #[.agg (S.cells (.slice a n c)), .agg m.cells] w fun e w' => e = .returned (.bool true) ∧ Below w.heap.size w w' := by
  have hln : l.length = n := by have h := hr.1; simpa using h
  obtain ⟨l1, T, rs, code, hh⟩ := hear_alike l n S m hln hn
  have HT := hide' hh.1
  have HU := hide' hh.2.1
  have HO := hide' (fun w' (hb : Below w.heap.size w w') => StationOf_any S l n c a w' (hr.below hb (Nat.le_refl _)) hn)
  have HS := hide' (fun w' ca cb aa ab hu hv => sameStation_same T l1 l1.length ca cb aa ab w' hu hv (by have := hh.2.2.1; omega))
  have HG := hide' (fun w' u v hu hv => sameMsgs_same rs u v w' hu hv (by have := hh.2.2.2; omega))
  have HRR := hide' hr
  clear hr hn hln hh
  unfold HearO at HT HU
  obtain ⟨k, hk⟩ : ∃ k, k = l1.length := ⟨_, rfl⟩
  rw [← hk] at HT HU HS
  clear hk
  obtain ⟨last, armed, point, want, left, pat⟩ := S
  obtain ⟨kind, no, pt, wt⟩ := m
  obtain ⟨tlast, tarmed, tpoint, twant, tleft, tpat⟩ := T
  unfold StM.cells at HO HT HU HS ⊢
  unfold MsM.cells at HT HU ⊢
  simp only at HO HT HU HS ⊢
  go_enter Try.func5, Try.ntmps5
  go_upto_region 1 with fail
  have hqY := (alloc_old (w.alloc (.cells #[.slice a n c, .int .i64 last, .int .i64 armed, .int .i64 point, .bool want, .int .i64 left, .int .i64 pat] 30)) (.cells #[.int .i64 kind, .int .i64 no, .int .i64 pt, .bool wt] 41) (lt_heap (alloc_new w (.cells #[.slice a n c, .int .i64 last, .int .i64 armed, .int .i64 point, .bool want, .int .i64 left, .int .i64 pat] 30)))).trans (alloc_new w (.cells #[.slice a n c, .int .i64 last, .int .i64 armed, .int .i64 point, .bool want, .int .i64 left, .int .i64 pat] 30))
  have hqZ := alloc_new (w.alloc (.cells #[.slice a n c, .int .i64 last, .int .i64 armed, .int .i64 point, .bool want, .int .i64 left, .int .i64 pat] 30)) (.cells #[.int .i64 kind, .int .i64 no, .int .i64 pt, .bool wt] 41)
  have hb1 := (below_al w (.cells #[.slice a n c, .int .i64 last, .int .i64 armed, .int .i64 point, .bool want, .int .i64 left, .int .i64 pat] 30)).alloc (below_al w (.cells #[.slice a n c, .int .i64 last, .int .i64 armed, .int .i64 point, .bool want, .int .i64 left, .int .i64 pat] 30)).size (.cells #[.int .i64 kind, .int .i64 no, .int .i64 pt, .bool wt] 41)
  rw [show (w.alloc (.cells #[.slice a n c, .int .i64 last, .int .i64 armed, .int .i64 point, .bool want, .int .i64 left, .int .i64 pat] 30)).heap.size = w.heap.size + 1 from by simp only [World.size_alloc]] at hqZ
  obtain ⟨w1, hw1⟩ : ∃ x, x = ((w.alloc (.cells #[.slice a n c, .int .i64 last, .int .i64 armed, .int .i64 point, .bool want, .int .i64 left, .int .i64 pat] 30)).alloc (.cells #[.int .i64 kind, .int .i64 no, .int .i64 pt, .bool wt] 41)) := ⟨_, rfl⟩
  rw [← hw1] at hqY hqZ hb1 ⊢
  obtain ⟨Y, hnY⟩ : ∃ x, x = w.heap.size := ⟨_, rfl⟩
  obtain ⟨Z, hnZ⟩ : ∃ x, x = w.heap.size + 1 := ⟨_, rfl⟩
  have HNE : Hid (w.heap.size ≤ Y ∧ w.heap.size ≤ Z ∧ Y ≠ Z) := ⟨by omega, by omega, by omega⟩
  rw [← hnY] at hqY
  rw [← hnZ] at hqZ
  rw [show (Value.pointer (some { block := w.heap.size, off := 0 })) = Value.pointer (some { block := Y, off := 0 }) by rw [hnY], show (Value.pointer (some { block := w.heap.size + 1, off := 0 })) = Value.pointer (some { block := Z, off := 0 }) by rw [hnZ]]
  have HQY := hide' hqY
  have HQZ := hide' hqZ
  have HB1 := hide' hb1
  clear hqY hqZ hb1 hw1 hnY hnZ
  have HD1 : Hid (Below w.heap.size w w1.drew) := HB1.out.drew
  refine wp_region_tail (fun W => W.heap[Y]? = some (.cells #[.slice a n c, .int .i64 last, .int .i64 armed, .int .i64 point, .bool want, .int .i64 left, .int .i64 pat] 30 (0, 0)) ∧ W.heap[Z]? = some (.cells #[.int .i64 kind, .int .i64 no, .int .i64 pt, .bool wt] 41 (0, 0))) 11 (by kernel_rfl) ?_
  refine wpAnyT_letter (fun W => (W.heap[Y]? = some (.cells #[.slice a n c, .int .i64 last, .int .i64 armed, .int .i64 point, .bool want, .int .i64 left, .int .i64 pat] 30 (0, 0)) ∧ W.heap[Z]? = some (.cells #[.int .i64 kind, .int .i64 no, .int .i64 pt, .bool wt] 41 (0, 0))) ∧ Below w.heap.size w W) ⟨⟨HQY.out, HQZ.out⟩, HD1.out⟩ ?_
  rintro w2 ⟨⟨hy2, hz2⟩, hb2⟩
  have HY2 := hide' hy2
  have HZ2 := hide' hz2
  have HB2 := hide' hb2
  clear hy2 hz2 hb2 HD1 HB1 HQY HQZ
  refine wpAnyD_takeAt 0 (some 12) (v := ?_) rfl (by kernel_rfl) (by kernel_rfl) (by kernel_rfl) (by kernel_rfl) (by kernel_rfl) (fun _ _ _ h => h) (by exact ⟨HY2.out, HZ2.out⟩) (fun o hop => ?_) ?_
  rotate_left
  · injection hop with hop
    subst hop
    refine ⟨rfl, fun W hW => ?_⟩
    obtain ⟨s0, s1⟩ := hW
    have y0 : W.cell? ⟨Y, 0, none⟩ = some (.slice a n c) := (cells_at s0 0).trans rfl
    have y1 : W.cell? ⟨Y, 1, none⟩ = some (.int .i64 last) := (cells_at s0 1).trans rfl
    have y2 : W.cell? ⟨Y, 2, none⟩ = some (.int .i64 armed) := (cells_at s0 2).trans rfl
    have y3 : W.cell? ⟨Y, 3, none⟩ = some (.int .i64 point) := (cells_at s0 3).trans rfl
    have y4 : W.cell? ⟨Y, 4, none⟩ = some (.bool want) := (cells_at s0 4).trans rfl
    have y5 : W.cell? ⟨Y, 5, none⟩ = some (.int .i64 left) := (cells_at s0 5).trans rfl
    have y6 : W.cell? ⟨Y, 6, none⟩ = some (.int .i64 pat) := (cells_at s0 6).trans rfl
    clear s0 s1
    go_simp
    try rfl
  try simp only [Act.put, List.setIfInBounds_toArray, List.set_cons_zero, List.set_cons_succ]
  refine wpAnyD_takeAt 2 (some 14) (v := ?_) rfl (by kernel_rfl) (by kernel_rfl) (by kernel_rfl) (by kernel_rfl) (by kernel_rfl) (fun _ _ _ h => h) (by exact ⟨HY2.out, HZ2.out⟩) (fun o hop => ?_) ?_
  rotate_left
  · injection hop with hop
    subst hop
    refine ⟨rfl, fun W hW => ?_⟩
    obtain ⟨s0, s1⟩ := hW
    have y0 : W.cell? ⟨Z, 0, none⟩ = some (.int .i64 kind) := (cells_at s1 0).trans rfl
    have y1 : W.cell? ⟨Z, 1, none⟩ = some (.int .i64 no) := (cells_at s1 1).trans rfl
    have y2 : W.cell? ⟨Z, 2, none⟩ = some (.int .i64 pt) := (cells_at s1 2).trans rfl
    have y3 : W.cell? ⟨Z, 3, none⟩ = some (.bool wt) := (cells_at s1 3).trans rfl
    clear s0 s1
    go_simp
    try rfl
  try simp only [Act.put, List.setIfInBounds_toArray, List.set_cons_zero, List.set_cons_succ]
  refine wpAnyT_two (i := 1) (j := 8) (by kernel_rfl) rfl rfl rfl rfl (fun K' hK => ?_) (fun K' hK => ?_)
  · go_simp
    go_at_call 15
    refine (HO.out w2 HB2.out).mono ?_
    rintro e w3 ⟨a0, c0, rfl, ho, hb⟩
    have HY3 := hide' ((hb.block Y (lt_heap HY2.out)).trans HY2.out)
    have HZ3 := hide' ((hb.block Z (lt_heap HZ2.out)).trans HZ2.out)
    have HB3 : Hid (Below w.heap.size w w3) := HB2.out.trans (hb.mono HB2.out.size)
    have HR3 := hide' (rowAt_of_own ho)
    refine hK.out _ _ (fun _ => ⟨HY3.out, HZ3.out⟩) ?_
    clear hK K' ho hb HY2 HZ2 HB2
    try simp only [Act.put, List.setIfInBounds_toArray, List.set_cons_zero, List.set_cons_succ]
    refine wpAnyT_two (i := 3) (j := 8) (by kernel_rfl) rfl rfl rfl rfl (fun K' hK => ?_) (fun K' hK => ?_)
    · go_simp
      go_at_call 14
      refine (HT.out a0 c0 w3 HR3.out).mono ?_
      rintro e w4 ⟨a1, c1, v1, rfl, hx, hv, hb⟩
      have HY4 := hide' ((hb.block Y (lt_heap HY3.out)).trans HY3.out)
      have HZ4 := hide' ((hb.block Z (lt_heap HZ3.out)).trans HZ3.out)
      have HB4 : Hid (Below w.heap.size w w4) := HB3.out.trans (hb.mono HB3.out.size)
      have HX4 := hide' hx
      have HV4 := hide' hv
      refine hK.out _ _ (fun _ => ⟨HY4.out, HZ4.out⟩) ?_
      clear hK K' hx hv hb HR3 HY3 HZ3 HB3
      try simp only [Act.put, List.setIfInBounds_toArray, List.set_cons_zero, List.set_cons_succ]
      refine wpAnyD_takeAt 4 (some 11) (v := ?_) rfl (by kernel_rfl) (by kernel_rfl) (by kernel_rfl) (by kernel_rfl) (by kernel_rfl) (fun _ _ _ h => h) (by exact ⟨HY4.out, HZ4.out⟩) (fun o hop => ?_) ?_
      rotate_left
      · injection hop with hop
        subst hop
        refine ⟨rfl, fun W hW => ?_⟩
        clear hW
        go_simp
        try rfl
      try simp only [Act.put, List.setIfInBounds_toArray, List.set_cons_zero, List.set_cons_succ]
      refine wpAnyD_takeAt 5 (some 16) (v := ?_) rfl (by kernel_rfl) (by kernel_rfl) (by kernel_rfl) (by kernel_rfl) (by kernel_rfl) (fun _ _ _ h => h) (by exact ⟨HY4.out, HZ4.out⟩) (fun o hop => ?_) ?_
      rotate_left
      · injection hop with hop
        subst hop
        refine ⟨rfl, fun W hW => ?_⟩
        clear hW
        go_simp
        try rfl
      try simp only [Act.put, List.setIfInBounds_toArray, List.set_cons_zero, List.set_cons_succ]
      refine wpAnyD_takeAt 6 (some 17) (v := ?_) rfl (by kernel_rfl) (by kernel_rfl) (by kernel_rfl) (by kernel_rfl) (by kernel_rfl) (fun _ _ _ h => h) (by exact ⟨HY4.out, HZ4.out⟩) (fun o hop => ?_) ?_
      rotate_left
      · injection hop with hop
        subst hop
        refine ⟨rfl, fun W hW => ?_⟩
        clear hW
        go_simp
        try rfl
      try simp only [Act.put, List.setIfInBounds_toArray, List.set_cons_zero, List.set_cons_succ]
      refine wpAnyD_takeAt 7 (some 18) (v := ?_) rfl (by kernel_rfl) (by kernel_rfl) (by kernel_rfl) (by kernel_rfl) (by kernel_rfl) (fun _ _ _ h => h) (by exact ⟨HY4.out, HZ4.out⟩) (fun o hop => ?_) ?_
      rotate_left
      · injection hop with hop
        subst hop
        refine ⟨rfl, fun W hW => ?_⟩
        clear hW
        go_simp
        try rfl
      try simp only [Act.put, List.setIfInBounds_toArray, List.set_cons_zero, List.set_cons_succ]
      refine wpAnyT_one (i := 8) (by kernel_rfl) rfl rfl (fun K' hK => ?_)
      go_simp
      refine hK.out _ _ (fun _ => ⟨(alloc_old w4 _ (lt_heap HY4.out)).trans HY4.out, (alloc_old w4 _ (lt_heap HZ4.out)).trans HZ4.out⟩) ?_
      clear hK K'
      try simp only [Act.put, List.setIfInBounds_toArray, List.set_cons_zero, List.set_cons_succ]
      have HEN := hide' (alloc_new w4 (.cells #[.slice none 0 0, .int .i64 0, .int .i64 0, .int .i64 0, .bool false, .int .i64 0, .int .i64 0] 30))
      have HEY : Hid (w4.heap.size ≠ Y ∧ w4.heap.size ≠ Z ∧ w.heap.size ≤ w4.heap.size) := ⟨by have := lt_heap HY4.out; omega, by have := lt_heap HZ4.out; omega, HB4.out.size⟩
      obtain ⟨E, hE⟩ : ∃ x, x = w4.heap.size := ⟨_, rfl⟩
      rw [← hE] at HEN HEY
      rw [show (Value.pointer (some { block := w4.heap.size, off := 0 })) = Value.pointer (some { block := E, off := 0 }) by rw [hE]]
      clear hE
      refine wpAnyT_letter (fun W => W.heap[Y]? = some (.cells #[.slice a n c, .int .i64 last, .int .i64 armed, .int .i64 point, .bool want, .int .i64 left, .int .i64 pat] 30 (0, 0)) ∧ W.heap[Z]? = some (.cells #[.int .i64 kind, .int .i64 no, .int .i64 pt, .bool wt] 41 (0, 0)) ∧ Below w.heap.size w W ∧ W.heap[E]? = some (.cells #[.slice none 0 0, .int .i64 0, .int .i64 0, .int .i64 0, .bool false, .int .i64 0, .int .i64 0] 30 (0, 0)) ∧ W.ownsRow 0 4 1 (.slice a1 k c1) k (l1.map Value.bool) ∧ W.ownsRow 0 41 4 v1 rs.length (msgs rs)) ⟨(alloc_old w4 _ (lt_heap HY4.out)).trans HY4.out, (alloc_old w4 _ (lt_heap HZ4.out)).trans HZ4.out, HB4.out.alloc HB4.out.size _, HEN.out, own_below HX4.out (below_al w4 _) (Nat.le_refl _), own_below HV4.out (below_al w4 _) (Nat.le_refl _)⟩ ?_
      intro w5 hw
      have HY5 := hide' hw.1
      have HZ5 := hide' hw.2.1
      have HB5 := hide' hw.2.2.1
      have HE5 := hide' hw.2.2.2.1
      have HX5 := hide' hw.2.2.2.2.1
      have HV5 := hide' hw.2.2.2.2.2
      clear hw HEN HY4 HZ4 HB4 HX4 HV4
      have b0 : w5.cell? ⟨E, 0, none⟩ = some (.slice none 0 0) := (cells_at HE5.out 0).trans rfl
      have b1 : w5.cell? ⟨E, 1, none⟩ = some (.int .i64 0) := (cells_at HE5.out 1).trans rfl
      have b2 : w5.cell? ⟨E, 2, none⟩ = some (.int .i64 0) := (cells_at HE5.out 2).trans rfl
      have b3 : w5.cell? ⟨E, 3, none⟩ = some (.int .i64 0) := (cells_at HE5.out 3).trans rfl
      have b4 : w5.cell? ⟨E, 4, none⟩ = some (.bool false) := (cells_at HE5.out 4).trans rfl
      have b5 : w5.cell? ⟨E, 5, none⟩ = some (.int .i64 0) := (cells_at HE5.out 5).trans rfl
      have b6 : w5.cell? ⟨E, 6, none⟩ = some (.int .i64 0) := (cells_at HE5.out 6).trans rfl
      have e0 : w5.frozen? ⟨E, 0, none⟩ = false := frozen_no HE5.out _
      have e1 : w5.frozen? ⟨E, 1, none⟩ = false := frozen_no HE5.out _
      have e2 : w5.frozen? ⟨E, 2, none⟩ = false := frozen_no HE5.out _
      have e3 : w5.frozen? ⟨E, 3, none⟩ = false := frozen_no HE5.out _
      have e4 : w5.frozen? ⟨E, 4, none⟩ = false := frozen_no HE5.out _
      have e5 : w5.frozen? ⟨E, 5, none⟩ = false := frozen_no HE5.out _
      have e6 : w5.frozen? ⟨E, 6, none⟩ = false := frozen_no HE5.out _
      have HP := hide' (put7 (S0 := StM.nought) HE5.out ⟨tlast, tarmed, tpoint, twant, tleft, tpat⟩ (.slice a1 k c1))
      simp only at HP
      refine wpAnyT_one (i := 9) (by kernel_rfl) rfl rfl (fun K' hK => ?_)
      go_simp
      refine hK.out _ _ (fun _ => ⟨(HP.out.2.block Y (lt_heap HY5.out) HEY.out.1.symm).trans HY5.out, (HP.out.2.block Z (lt_heap HZ5.out) HEY.out.2.1.symm).trans HZ5.out⟩) ?_
      clear hK K'
      try simp only [Act.put, List.setIfInBounds_toArray, List.set_cons_zero, List.set_cons_succ]
      refine wpAnyT_one (i := 10) (by kernel_rfl) rfl rfl (fun K' hK => ?_)
      go_simp
      refine hK.out _ _ (fun _ => ⟨(HP.out.2.block Y (lt_heap HY5.out) HEY.out.1.symm).trans HY5.out, (HP.out.2.block Z (lt_heap HZ5.out) HEY.out.2.1.symm).trans HZ5.out⟩) ?_
      clear hK K'
      try simp only [Act.put, List.setIfInBounds_toArray, List.set_cons_zero, List.set_cons_succ]
      refine wpAnyT_one (i := 11) (by kernel_rfl) rfl rfl (fun K' hK => ?_)
      go_simp
      refine hK.out _ _ (fun h => absurd rfl h) ?_
      clear hK K'
      try simp only [Act.put, List.setIfInBounds_toArray, List.set_cons_zero, List.set_cons_succ]
      refine wpAnyT_done (by kernel_rfl) ?_ _
      clear b0 b1 b2 b3 b4 b5 b6 e0 e1 e2 e3 e4 e5 e6
      go_upto_region 2 with fail
      refine code_letter (fun W => W.heap[Y]? = some (.cells #[.slice a n c, .int .i64 last, .int .i64 armed, .int .i64 point, .bool want, .int .i64 left, .int .i64 pat] 30 (0, 0)) ∧ W.heap[Z]? = some (.cells #[.int .i64 kind, .int .i64 no, .int .i64 pt, .bool wt] 41 (0, 0)) ∧ Below w.heap.size w W ∧ W.heap[E]? = some (.cells #[.slice a1 k c1, .int .i64 tlast, .int .i64 tarmed, .int .i64 tpoint, .bool twant, .int .i64 tleft, .int .i64 tpat] 30 (0, 0)) ∧ W.ownsRow 0 4 1 (.slice a1 k c1) k (l1.map Value.bool) ∧ W.ownsRow 0 41 4 v1 rs.length (msgs rs)) ⟨(HP.out.2.block Y (lt_heap HY5.out) HEY.out.1.symm).trans HY5.out, (HP.out.2.block Z (lt_heap HZ5.out) HEY.out.2.1.symm).trans HZ5.out, HB5.out.trans (HP.out.2.below HEY.out.2.2 HB5.out.size), HP.out.1, own_keep HX5.out (but_keep HP.out.2 HE5.out) (by decide), own_keep HV5.out (but_keep HP.out.2 HE5.out) (by decide)⟩ ?_
      intro w20 hw
      have HY20 := hide' hw.1
      have HZ20 := hide' hw.2.1
      have HB20 := hide' hw.2.2.1
      have HE20 := hide' hw.2.2.2.1
      have HX20 := hide' hw.2.2.2.2.1
      have HV20 := hide' hw.2.2.2.2.2
      clear hw HP HY5 HZ5 HB5 HE5 HX5 HV5
      have y0 : w20.cell? ⟨Y, 0, none⟩ = some (.slice a n c) := (cells_at HY20.out 0).trans rfl
      have y1 : w20.cell? ⟨Y, 1, none⟩ = some (.int .i64 last) := (cells_at HY20.out 1).trans rfl
      have y2 : w20.cell? ⟨Y, 2, none⟩ = some (.int .i64 armed) := (cells_at HY20.out 2).trans rfl
      have y3 : w20.cell? ⟨Y, 3, none⟩ = some (.int .i64 point) := (cells_at HY20.out 3).trans rfl
      have y4 : w20.cell? ⟨Y, 4, none⟩ = some (.bool want) := (cells_at HY20.out 4).trans rfl
      have y5 : w20.cell? ⟨Y, 5, none⟩ = some (.int .i64 left) := (cells_at HY20.out 5).trans rfl
      have y6 : w20.cell? ⟨Y, 6, none⟩ = some (.int .i64 pat) := (cells_at HY20.out 6).trans rfl
      have m0 : w20.cell? ⟨Z, 0, none⟩ = some (.int .i64 kind) := (cells_at HZ20.out 0).trans rfl
      have m1 : w20.cell? ⟨Z, 1, none⟩ = some (.int .i64 no) := (cells_at HZ20.out 1).trans rfl
      have m2 : w20.cell? ⟨Z, 2, none⟩ = some (.int .i64 pt) := (cells_at HZ20.out 2).trans rfl
      have m3 : w20.cell? ⟨Z, 3, none⟩ = some (.bool wt) := (cells_at HZ20.out 3).trans rfl
      have HU20 := hide' (HU.out a c w20 (HRR.out.below HB20.out (Nat.le_refl _)))
      clear HU
      go_wp2_with fail
      refine HU20.out.mono ?_
      rintro e w21 ⟨a2, c2, v2, rfl, hx2, hv2, hb⟩
      have HB21 : Hid (Below w.heap.size w w21) := HB20.out.trans (hb.mono HB20.out.size)
      have HE21 := hide' ((hb.block E (lt_heap HE20.out)).trans HE20.out)
      have HX21 := hide' (own_below HX20.out hb (Nat.le_refl _))
      have HV21 := hide' (own_below HV20.out hb (Nat.le_refl _))
      have HP21 := hide' hx2
      have HQ21 := hide' hv2
      clear hx2 hv2 hb HB20 HE20 HX20 HV20 HY20 HZ20 HU20 y0 y1 y2 y3 y4 y5 y6 m0 m1 m2 m3
      go_upto_region 3 with fail
      have HF22 := hide' (alloc_new w21 (.cells #[.slice a2 k c2, .int .i64 tlast, .int .i64 tarmed, .int .i64 tpoint, .bool twant, .int .i64 tleft, .int .i64 tpat] 30))
      have HB22 := hide' (HB21.out.alloc HB21.out.size (.cells #[.slice a2 k c2, .int .i64 tlast, .int .i64 tarmed, .int .i64 tpoint, .bool twant, .int .i64 tleft, .int .i64 tpat] 30))
      have HE22 := hide' ((alloc_old w21 (.cells #[.slice a2 k c2, .int .i64 tlast, .int .i64 tarmed, .int .i64 tpoint, .bool twant, .int .i64 tleft, .int .i64 tpat] 30) (lt_heap HE21.out)).trans HE21.out)
      have HX22 := hide' (rowAt_of_own (own_below HX21.out (below_al w21 (.cells #[.slice a2 k c2, .int .i64 tlast, .int .i64 tarmed, .int .i64 tpoint, .bool twant, .int .i64 tleft, .int .i64 tpat] 30)) (Nat.le_refl _)))
      have HV22 := hide' (rowAt_of_own (own_below HV21.out (below_al w21 (.cells #[.slice a2 k c2, .int .i64 tlast, .int .i64 tarmed, .int .i64 tpoint, .bool twant, .int .i64 tleft, .int .i64 tpat] 30)) (Nat.le_refl _)))
      have HP22 := hide' (rowAt_of_own (own_below HP21.out (below_al w21 (.cells #[.slice a2 k c2, .int .i64 tlast, .int .i64 tarmed, .int .i64 tpoint, .bool twant, .int .i64 tleft, .int .i64 tpat] 30)) (Nat.le_refl _)))
      have HQ22 := hide' (rowAt_of_own (own_below HQ21.out (below_al w21 (.cells #[.slice a2 k c2, .int .i64 tlast, .int .i64 tarmed, .int .i64 tpoint, .bool twant, .int .i64 tleft, .int .i64 tpat] 30)) (Nat.le_refl _)))
      obtain ⟨w22, hw22⟩ : ∃ zz, zz = w21.alloc (.cells #[.slice a2 k c2, .int .i64 tlast, .int .i64 tarmed, .int .i64 tpoint, .bool twant, .int .i64 tleft, .int .i64 tpat] 30) := ⟨_, rfl⟩
      obtain ⟨F, hF⟩ : ∃ zz, zz = w21.heap.size := ⟨_, rfl⟩
      rw [← hw22] at HF22 HB22 HE22 HX22 HV22 HP22 HQ22 ⊢
      rw [← hF] at HF22
      rw [show (Value.pointer (some { block := w21.heap.size, off := 0 })) = Value.pointer (some { block := F, off := 0 }) by rw [hF]]
      clear hw22 hF HB21 HE21 HX21 HV21 HP21 HQ21
      have p0 : w22.cell? ⟨E, 0, none⟩ = some (.slice a1 k c1) := (cells_at HE22.out 0).trans rfl
      have p1 : w22.cell? ⟨E, 1, none⟩ = some (.int .i64 tlast) := (cells_at HE22.out 1).trans rfl
      have p2 : w22.cell? ⟨E, 2, none⟩ = some (.int .i64 tarmed) := (cells_at HE22.out 2).trans rfl
      have p3 : w22.cell? ⟨E, 3, none⟩ = some (.int .i64 tpoint) := (cells_at HE22.out 3).trans rfl
      have p4 : w22.cell? ⟨E, 4, none⟩ = some (.bool twant) := (cells_at HE22.out 4).trans rfl
      have p5 : w22.cell? ⟨E, 5, none⟩ = some (.int .i64 tleft) := (cells_at HE22.out 5).trans rfl
      have p6 : w22.cell? ⟨E, 6, none⟩ = some (.int .i64 tpat) := (cells_at HE22.out 6).trans rfl
      have q0 : w22.cell? ⟨F, 0, none⟩ = some (.slice a2 k c2) := (cells_at HF22.out 0).trans rfl
      have q1 : w22.cell? ⟨F, 1, none⟩ = some (.int .i64 tlast) := (cells_at HF22.out 1).trans rfl
      have q2 : w22.cell? ⟨F, 2, none⟩ = some (.int .i64 tarmed) := (cells_at HF22.out 2).trans rfl
      have q3 : w22.cell? ⟨F, 3, none⟩ = some (.int .i64 tpoint) := (cells_at HF22.out 3).trans rfl
      have q4 : w22.cell? ⟨F, 4, none⟩ = some (.bool twant) := (cells_at HF22.out 4).trans rfl
      have q5 : w22.cell? ⟨F, 5, none⟩ = some (.int .i64 tleft) := (cells_at HF22.out 5).trans rfl
      have q6 : w22.cell? ⟨F, 6, none⟩ = some (.int .i64 tpat) := (cells_at HF22.out 6).trans rfl
      have HS22 := hide' (HS.out w22 _ _ _ _ HX22.out HP22.out)
      clear HS HX22 HP22
      go_wp2_with fail
      refine HS22.out.mono ?_
      rintro e w23 ⟨rfl, hb⟩
      have HB23 : Hid (Below w.heap.size w w23) := HB22.out.trans (hb.mono HB22.out.size)
      have HG23 := hide' (HG.out w23 _ _ (HV22.out.below hb (Nat.le_refl _)) (HQ22.out.below hb (Nat.le_refl _)))
      clear hb HG HV22 HQ22 HB22 HS22 HE22 HF22 p0 p1 p2 p3 p4 p5 p6 q0 q1 q2 q3 q4 q5 q6
      go_wp2_with fail
      refine HG23.out.mono ?_
      rintro e w24 ⟨rfl, hb⟩
      have HB24 : Hid (Below w.heap.size w w24) := HB23.out.trans (hb.mono HB23.out.size)
      clear hb HG23 HB23
      go_wp2
      go_ret
      exact ⟨rfl, HB24.out⟩
    · go_simp
      refine hK.out _ _ (fun _ => ⟨(alloc_old w3 _ (lt_heap HY3.out)).trans HY3.out, (alloc_old w3 _ (lt_heap HZ3.out)).trans HZ3.out⟩) ?_
      clear hK K'
      try simp only [Act.put, List.setIfInBounds_toArray, List.set_cons_zero, List.set_cons_succ]
      have HEN := hide' (alloc_new w3 (.cells #[.slice none 0 0, .int .i64 0, .int .i64 0, .int .i64 0, .bool false, .int .i64 0, .int .i64 0] 30))
      have HEY : Hid (w3.heap.size ≠ Y ∧ w3.heap.size ≠ Z ∧ w.heap.size ≤ w3.heap.size) := ⟨by have := lt_heap HY3.out; omega, by have := lt_heap HZ3.out; omega, HB3.out.size⟩
      obtain ⟨E, hE⟩ : ∃ x, x = w3.heap.size := ⟨_, rfl⟩
      rw [← hE] at HEN HEY
      rw [show (Value.pointer (some { block := w3.heap.size, off := 0 })) = Value.pointer (some { block := E, off := 0 }) by rw [hE]]
      clear hE
      refine wpAnyT_letter (fun W => W.heap[Y]? = some (.cells #[.slice a n c, .int .i64 last, .int .i64 armed, .int .i64 point, .bool want, .int .i64 left, .int .i64 pat] 30 (0, 0)) ∧ W.heap[Z]? = some (.cells #[.int .i64 kind, .int .i64 no, .int .i64 pt, .bool wt] 41 (0, 0)) ∧ Below w.heap.size w W ∧ W.heap[E]? = some (.cells #[.slice none 0 0, .int .i64 0, .int .i64 0, .int .i64 0, .bool false, .int .i64 0, .int .i64 0] 30 (0, 0)) ∧ RowAt W (.slice a0 n c0) n 1 (l.map Value.bool)) ⟨(alloc_old w3 _ (lt_heap HY3.out)).trans HY3.out, (alloc_old w3 _ (lt_heap HZ3.out)).trans HZ3.out, HB3.out.alloc HB3.out.size _, HEN.out, HR3.out.below (below_al w3 _) (Nat.le_refl _)⟩ ?_
      intro w4 hw
      have HY4 := hide' hw.1
      have HZ4 := hide' hw.2.1
      have HB4 := hide' hw.2.2.1
      have HE4 := hide' hw.2.2.2.1
      have HR4 := hide' hw.2.2.2.2
      clear hw HEN HY3 HZ3 HB3 HR3
      refine wpAnyT_one (i := 3) (by kernel_rfl) rfl rfl (fun K' hK => ?_)
      go_simp
      go_at_call 14
      refine (HT.out a0 c0 w4 HR4.out).mono ?_
      rintro e w5 ⟨a1, c1, v1, rfl, hx, hv, hb⟩
      have HY5 := hide' ((hb.block Y (lt_heap HY4.out)).trans HY4.out)
      have HZ5 := hide' ((hb.block Z (lt_heap HZ4.out)).trans HZ4.out)
      have HB5 : Hid (Below w.heap.size w w5) := HB4.out.trans (hb.mono HB4.out.size)
      have HE5 := hide' ((hb.block E (lt_heap HE4.out)).trans HE4.out)
      have HX5 := hide' hx
      have HV5 := hide' hv
      refine hK.out _ _ (fun _ => ⟨HY5.out, HZ5.out⟩) ?_
      clear hK K' hx hv hb HR4 HY4 HZ4 HB4 HE4
      try simp only [Act.put, List.setIfInBounds_toArray, List.set_cons_zero, List.set_cons_succ]
      refine wpAnyD_takeAt 4 (some 11) (v := ?_) rfl (by kernel_rfl) (by kernel_rfl) (by kernel_rfl) (by kernel_rfl) (by kernel_rfl) (fun _ _ _ h => h) (by exact ⟨HY5.out, HZ5.out⟩) (fun o hop => ?_) ?_
      rotate_left
      · injection hop with hop
        subst hop
        refine ⟨rfl, fun W hW => ?_⟩
        clear hW
        go_simp
        try rfl
      try simp only [Act.put, List.setIfInBounds_toArray, List.set_cons_zero, List.set_cons_succ]
      refine wpAnyD_takeAt 5 (some 16) (v := ?_) rfl (by kernel_rfl) (by kernel_rfl) (by kernel_rfl) (by kernel_rfl) (by kernel_rfl) (fun _ _ _ h => h) (by exact ⟨HY5.out, HZ5.out⟩) (fun o hop => ?_) ?_
      rotate_left
      · injection hop with hop
        subst hop
        refine ⟨rfl, fun W hW => ?_⟩
        clear hW
        go_simp
        try rfl
      try simp only [Act.put, List.setIfInBounds_toArray, List.set_cons_zero, List.set_cons_succ]
      refine wpAnyD_takeAt 6 (some 17) (v := ?_) rfl (by kernel_rfl) (by kernel_rfl) (by kernel_rfl) (by kernel_rfl) (by kernel_rfl) (fun _ _ _ h => h) (by exact ⟨HY5.out, HZ5.out⟩) (fun o hop => ?_) ?_
      rotate_left
      · injection hop with hop
        subst hop
        refine ⟨rfl, fun W hW => ?_⟩
        clear hW
        go_simp
        try rfl
      try simp only [Act.put, List.setIfInBounds_toArray, List.set_cons_zero, List.set_cons_succ]
      refine wpAnyD_takeAt 7 (some 18) (v := ?_) rfl (by kernel_rfl) (by kernel_rfl) (by kernel_rfl) (by kernel_rfl) (by kernel_rfl) (fun _ _ _ h => h) (by exact ⟨HY5.out, HZ5.out⟩) (fun o hop => ?_) ?_
      rotate_left
      · injection hop with hop
        subst hop
        refine ⟨rfl, fun W hW => ?_⟩
        clear hW
        go_simp
        try rfl
      try simp only [Act.put, List.setIfInBounds_toArray, List.set_cons_zero, List.set_cons_succ]
      have b0 : w5.cell? ⟨E, 0, none⟩ = some (.slice none 0 0) := (cells_at HE5.out 0).trans rfl
      have b1 : w5.cell? ⟨E, 1, none⟩ = some (.int .i64 0) := (cells_at HE5.out 1).trans rfl
      have b2 : w5.cell? ⟨E, 2, none⟩ = some (.int .i64 0) := (cells_at HE5.out 2).trans rfl
      have b3 : w5.cell? ⟨E, 3, none⟩ = some (.int .i64 0) := (cells_at HE5.out 3).trans rfl
      have b4 : w5.cell? ⟨E, 4, none⟩ = some (.bool false) := (cells_at HE5.out 4).trans rfl
      have b5 : w5.cell? ⟨E, 5, none⟩ = some (.int .i64 0) := (cells_at HE5.out 5).trans rfl
      have b6 : w5.cell? ⟨E, 6, none⟩ = some (.int .i64 0) := (cells_at HE5.out 6).trans rfl
      have e0 : w5.frozen? ⟨E, 0, none⟩ = false := frozen_no HE5.out _
      have e1 : w5.frozen? ⟨E, 1, none⟩ = false := frozen_no HE5.out _
      have e2 : w5.frozen? ⟨E, 2, none⟩ = false := frozen_no HE5.out _
      have e3 : w5.frozen? ⟨E, 3, none⟩ = false := frozen_no HE5.out _
      have e4 : w5.frozen? ⟨E, 4, none⟩ = false := frozen_no HE5.out _
      have e5 : w5.frozen? ⟨E, 5, none⟩ = false := frozen_no HE5.out _
      have e6 : w5.frozen? ⟨E, 6, none⟩ = false := frozen_no HE5.out _
      have HP := hide' (put7 (S0 := StM.nought) HE5.out ⟨tlast, tarmed, tpoint, twant, tleft, tpat⟩ (.slice a1 k c1))
      simp only at HP
      refine wpAnyT_one (i := 9) (by kernel_rfl) rfl rfl (fun K' hK => ?_)
      go_simp
      refine hK.out _ _ (fun _ => ⟨(HP.out.2.block Y (lt_heap HY5.out) HEY.out.1.symm).trans HY5.out, (HP.out.2.block Z (lt_heap HZ5.out) HEY.out.2.1.symm).trans HZ5.out⟩) ?_
      clear hK K'
      try simp only [Act.put, List.setIfInBounds_toArray, List.set_cons_zero, List.set_cons_succ]
      refine wpAnyT_one (i := 10) (by kernel_rfl) rfl rfl (fun K' hK => ?_)
      go_simp
      refine hK.out _ _ (fun _ => ⟨(HP.out.2.block Y (lt_heap HY5.out) HEY.out.1.symm).trans HY5.out, (HP.out.2.block Z (lt_heap HZ5.out) HEY.out.2.1.symm).trans HZ5.out⟩) ?_
      clear hK K'
      try simp only [Act.put, List.setIfInBounds_toArray, List.set_cons_zero, List.set_cons_succ]
      refine wpAnyT_one (i := 11) (by kernel_rfl) rfl rfl (fun K' hK => ?_)
      go_simp
      refine hK.out _ _ (fun h => absurd rfl h) ?_
      clear hK K'
      try simp only [Act.put, List.setIfInBounds_toArray, List.set_cons_zero, List.set_cons_succ]
      refine wpAnyT_done (by kernel_rfl) ?_ _
      clear b0 b1 b2 b3 b4 b5 b6 e0 e1 e2 e3 e4 e5 e6
      go_upto_region 2 with fail
      refine code_letter (fun W => W.heap[Y]? = some (.cells #[.slice a n c, .int .i64 last, .int .i64 armed, .int .i64 point, .bool want, .int .i64 left, .int .i64 pat] 30 (0, 0)) ∧ W.heap[Z]? = some (.cells #[.int .i64 kind, .int .i64 no, .int .i64 pt, .bool wt] 41 (0, 0)) ∧ Below w.heap.size w W ∧ W.heap[E]? = some (.cells #[.slice a1 k c1, .int .i64 tlast, .int .i64 tarmed, .int .i64 tpoint, .bool twant, .int .i64 tleft, .int .i64 tpat] 30 (0, 0)) ∧ W.ownsRow 0 4 1 (.slice a1 k c1) k (l1.map Value.bool) ∧ W.ownsRow 0 41 4 v1 rs.length (msgs rs)) ⟨(HP.out.2.block Y (lt_heap HY5.out) HEY.out.1.symm).trans HY5.out, (HP.out.2.block Z (lt_heap HZ5.out) HEY.out.2.1.symm).trans HZ5.out, HB5.out.trans (HP.out.2.below HEY.out.2.2 HB5.out.size), HP.out.1, own_keep HX5.out (but_keep HP.out.2 HE5.out) (by decide), own_keep HV5.out (but_keep HP.out.2 HE5.out) (by decide)⟩ ?_
      intro w20 hw
      have HY20 := hide' hw.1
      have HZ20 := hide' hw.2.1
      have HB20 := hide' hw.2.2.1
      have HE20 := hide' hw.2.2.2.1
      have HX20 := hide' hw.2.2.2.2.1
      have HV20 := hide' hw.2.2.2.2.2
      clear hw HP HY5 HZ5 HB5 HE5 HX5 HV5
      have y0 : w20.cell? ⟨Y, 0, none⟩ = some (.slice a n c) := (cells_at HY20.out 0).trans rfl
      have y1 : w20.cell? ⟨Y, 1, none⟩ = some (.int .i64 last) := (cells_at HY20.out 1).trans rfl
      have y2 : w20.cell? ⟨Y, 2, none⟩ = some (.int .i64 armed) := (cells_at HY20.out 2).trans rfl
      have y3 : w20.cell? ⟨Y, 3, none⟩ = some (.int .i64 point) := (cells_at HY20.out 3).trans rfl
      have y4 : w20.cell? ⟨Y, 4, none⟩ = some (.bool want) := (cells_at HY20.out 4).trans rfl
      have y5 : w20.cell? ⟨Y, 5, none⟩ = some (.int .i64 left) := (cells_at HY20.out 5).trans rfl
      have y6 : w20.cell? ⟨Y, 6, none⟩ = some (.int .i64 pat) := (cells_at HY20.out 6).trans rfl
      have m0 : w20.cell? ⟨Z, 0, none⟩ = some (.int .i64 kind) := (cells_at HZ20.out 0).trans rfl
      have m1 : w20.cell? ⟨Z, 1, none⟩ = some (.int .i64 no) := (cells_at HZ20.out 1).trans rfl
      have m2 : w20.cell? ⟨Z, 2, none⟩ = some (.int .i64 pt) := (cells_at HZ20.out 2).trans rfl
      have m3 : w20.cell? ⟨Z, 3, none⟩ = some (.bool wt) := (cells_at HZ20.out 3).trans rfl
      have HU20 := hide' (HU.out a c w20 (HRR.out.below HB20.out (Nat.le_refl _)))
      clear HU
      go_wp2_with fail
      refine HU20.out.mono ?_
      rintro e w21 ⟨a2, c2, v2, rfl, hx2, hv2, hb⟩
      have HB21 : Hid (Below w.heap.size w w21) := HB20.out.trans (hb.mono HB20.out.size)
      have HE21 := hide' ((hb.block E (lt_heap HE20.out)).trans HE20.out)
      have HX21 := hide' (own_below HX20.out hb (Nat.le_refl _))
      have HV21 := hide' (own_below HV20.out hb (Nat.le_refl _))
      have HP21 := hide' hx2
      have HQ21 := hide' hv2
      clear hx2 hv2 hb HB20 HE20 HX20 HV20 HY20 HZ20 HU20 y0 y1 y2 y3 y4 y5 y6 m0 m1 m2 m3
      go_upto_region 3 with fail
      have HF22 := hide' (alloc_new w21 (.cells #[.slice a2 k c2, .int .i64 tlast, .int .i64 tarmed, .int .i64 tpoint, .bool twant, .int .i64 tleft, .int .i64 tpat] 30))
      have HB22 := hide' (HB21.out.alloc HB21.out.size (.cells #[.slice a2 k c2, .int .i64 tlast, .int .i64 tarmed, .int .i64 tpoint, .bool twant, .int .i64 tleft, .int .i64 tpat] 30))
      have HE22 := hide' ((alloc_old w21 (.cells #[.slice a2 k c2, .int .i64 tlast, .int .i64 tarmed, .int .i64 tpoint, .bool twant, .int .i64 tleft, .int .i64 tpat] 30) (lt_heap HE21.out)).trans HE21.out)
      have HX22 := hide' (rowAt_of_own (own_below HX21.out (below_al w21 (.cells #[.slice a2 k c2, .int .i64 tlast, .int .i64 tarmed, .int .i64 tpoint, .bool twant, .int .i64 tleft, .int .i64 tpat] 30)) (Nat.le_refl _)))
      have HV22 := hide' (rowAt_of_own (own_below HV21.out (below_al w21 (.cells #[.slice a2 k c2, .int .i64 tlast, .int .i64 tarmed, .int .i64 tpoint, .bool twant, .int .i64 tleft, .int .i64 tpat] 30)) (Nat.le_refl _)))
      have HP22 := hide' (rowAt_of_own (own_below HP21.out (below_al w21 (.cells #[.slice a2 k c2, .int .i64 tlast, .int .i64 tarmed, .int .i64 tpoint, .bool twant, .int .i64 tleft, .int .i64 tpat] 30)) (Nat.le_refl _)))
      have HQ22 := hide' (rowAt_of_own (own_below HQ21.out (below_al w21 (.cells #[.slice a2 k c2, .int .i64 tlast, .int .i64 tarmed, .int .i64 tpoint, .bool twant, .int .i64 tleft, .int .i64 tpat] 30)) (Nat.le_refl _)))
      obtain ⟨w22, hw22⟩ : ∃ zz, zz = w21.alloc (.cells #[.slice a2 k c2, .int .i64 tlast, .int .i64 tarmed, .int .i64 tpoint, .bool twant, .int .i64 tleft, .int .i64 tpat] 30) := ⟨_, rfl⟩
      obtain ⟨F, hF⟩ : ∃ zz, zz = w21.heap.size := ⟨_, rfl⟩
      rw [← hw22] at HF22 HB22 HE22 HX22 HV22 HP22 HQ22 ⊢
      rw [← hF] at HF22
      rw [show (Value.pointer (some { block := w21.heap.size, off := 0 })) = Value.pointer (some { block := F, off := 0 }) by rw [hF]]
      clear hw22 hF HB21 HE21 HX21 HV21 HP21 HQ21
      have p0 : w22.cell? ⟨E, 0, none⟩ = some (.slice a1 k c1) := (cells_at HE22.out 0).trans rfl
      have p1 : w22.cell? ⟨E, 1, none⟩ = some (.int .i64 tlast) := (cells_at HE22.out 1).trans rfl
      have p2 : w22.cell? ⟨E, 2, none⟩ = some (.int .i64 tarmed) := (cells_at HE22.out 2).trans rfl
      have p3 : w22.cell? ⟨E, 3, none⟩ = some (.int .i64 tpoint) := (cells_at HE22.out 3).trans rfl
      have p4 : w22.cell? ⟨E, 4, none⟩ = some (.bool twant) := (cells_at HE22.out 4).trans rfl
      have p5 : w22.cell? ⟨E, 5, none⟩ = some (.int .i64 tleft) := (cells_at HE22.out 5).trans rfl
      have p6 : w22.cell? ⟨E, 6, none⟩ = some (.int .i64 tpat) := (cells_at HE22.out 6).trans rfl
      have q0 : w22.cell? ⟨F, 0, none⟩ = some (.slice a2 k c2) := (cells_at HF22.out 0).trans rfl
      have q1 : w22.cell? ⟨F, 1, none⟩ = some (.int .i64 tlast) := (cells_at HF22.out 1).trans rfl
      have q2 : w22.cell? ⟨F, 2, none⟩ = some (.int .i64 tarmed) := (cells_at HF22.out 2).trans rfl
      have q3 : w22.cell? ⟨F, 3, none⟩ = some (.int .i64 tpoint) := (cells_at HF22.out 3).trans rfl
      have q4 : w22.cell? ⟨F, 4, none⟩ = some (.bool twant) := (cells_at HF22.out 4).trans rfl
      have q5 : w22.cell? ⟨F, 5, none⟩ = some (.int .i64 tleft) := (cells_at HF22.out 5).trans rfl
      have q6 : w22.cell? ⟨F, 6, none⟩ = some (.int .i64 tpat) := (cells_at HF22.out 6).trans rfl
      have HS22 := hide' (HS.out w22 _ _ _ _ HX22.out HP22.out)
      clear HS HX22 HP22
      go_wp2_with fail
      refine HS22.out.mono ?_
      rintro e w23 ⟨rfl, hb⟩
      have HB23 : Hid (Below w.heap.size w w23) := HB22.out.trans (hb.mono HB22.out.size)
      have HG23 := hide' (HG.out w23 _ _ (HV22.out.below hb (Nat.le_refl _)) (HQ22.out.below hb (Nat.le_refl _)))
      clear hb HG HV22 HQ22 HB22 HS22 HE22 HF22 p0 p1 p2 p3 p4 p5 p6 q0 q1 q2 q3 q4 q5 q6
      go_wp2_with fail
      refine HG23.out.mono ?_
      rintro e w24 ⟨rfl, hb⟩
      have HB24 : Hid (Below w.heap.size w w24) := HB23.out.trans (hb.mono HB23.out.size)
      clear hb HG23 HB23
      go_wp2
      go_ret
      exact ⟨rfl, HB24.out⟩
  · go_simp
    refine hK.out _ _ (fun _ => ⟨(alloc_old w2 _ (lt_heap HY2.out)).trans HY2.out, (alloc_old w2 _ (lt_heap HZ2.out)).trans HZ2.out⟩) ?_
    clear hK K'
    try simp only [Act.put, List.setIfInBounds_toArray, List.set_cons_zero, List.set_cons_succ]
    have HEN := hide' (alloc_new w2 (.cells #[.slice none 0 0, .int .i64 0, .int .i64 0, .int .i64 0, .bool false, .int .i64 0, .int .i64 0] 30))
    have HEY : Hid (w2.heap.size ≠ Y ∧ w2.heap.size ≠ Z ∧ w.heap.size ≤ w2.heap.size) := ⟨by have := lt_heap HY2.out; omega, by have := lt_heap HZ2.out; omega, HB2.out.size⟩
    obtain ⟨E, hE⟩ : ∃ x, x = w2.heap.size := ⟨_, rfl⟩
    rw [← hE] at HEN HEY
    rw [show (Value.pointer (some { block := w2.heap.size, off := 0 })) = Value.pointer (some { block := E, off := 0 }) by rw [hE]]
    clear hE
    refine wpAnyT_letter (fun W => W.heap[Y]? = some (.cells #[.slice a n c, .int .i64 last, .int .i64 armed, .int .i64 point, .bool want, .int .i64 left, .int .i64 pat] 30 (0, 0)) ∧ W.heap[Z]? = some (.cells #[.int .i64 kind, .int .i64 no, .int .i64 pt, .bool wt] 41 (0, 0)) ∧ Below w.heap.size w W ∧ W.heap[E]? = some (.cells #[.slice none 0 0, .int .i64 0, .int .i64 0, .int .i64 0, .bool false, .int .i64 0, .int .i64 0] 30 (0, 0))) ⟨(alloc_old w2 _ (lt_heap HY2.out)).trans HY2.out, (alloc_old w2 _ (lt_heap HZ2.out)).trans HZ2.out, HB2.out.alloc HB2.out.size _, HEN.out⟩ ?_
    intro w3 hw
    have HY3 := hide' hw.1
    have HZ3 := hide' hw.2.1
    have HB3 := hide' hw.2.2.1
    have HE3 := hide' hw.2.2.2
    clear hw HEN HY2 HZ2 HB2
    refine wpAnyT_one (i := 1) (by kernel_rfl) rfl rfl (fun K' hK => ?_)
    go_simp
    go_at_call 15
    refine (HO.out w3 HB3.out).mono ?_
    rintro e w4 ⟨a0, c0, rfl, ho, hb⟩
    have HY4 := hide' ((hb.block Y (lt_heap HY3.out)).trans HY3.out)
    have HZ4 := hide' ((hb.block Z (lt_heap HZ3.out)).trans HZ3.out)
    have HB4 : Hid (Below w.heap.size w w4) := HB3.out.trans (hb.mono HB3.out.size)
    have HE4 := hide' ((hb.block E (lt_heap HE3.out)).trans HE3.out)
    have HR4 := hide' (rowAt_of_own ho)
    refine hK.out _ _ (fun _ => ⟨HY4.out, HZ4.out⟩) ?_
    clear hK K' ho hb HY3 HZ3 HB3 HE3
    try simp only [Act.put, List.setIfInBounds_toArray, List.set_cons_zero, List.set_cons_succ]
    refine wpAnyT_one (i := 3) (by kernel_rfl) rfl rfl (fun K' hK => ?_)
    go_simp
    go_at_call 14
    refine (HT.out a0 c0 w4 HR4.out).mono ?_
    rintro e w5 ⟨a1, c1, v1, rfl, hx, hv, hb⟩
    have HY5 := hide' ((hb.block Y (lt_heap HY4.out)).trans HY4.out)
    have HZ5 := hide' ((hb.block Z (lt_heap HZ4.out)).trans HZ4.out)
    have HB5 : Hid (Below w.heap.size w w5) := HB4.out.trans (hb.mono HB4.out.size)
    have HE5 := hide' ((hb.block E (lt_heap HE4.out)).trans HE4.out)
    have HX5 := hide' hx
    have HV5 := hide' hv
    refine hK.out _ _ (fun _ => ⟨HY5.out, HZ5.out⟩) ?_
    clear hK K' hx hv hb HR4 HY4 HZ4 HB4 HE4
    try simp only [Act.put, List.setIfInBounds_toArray, List.set_cons_zero, List.set_cons_succ]
    refine wpAnyD_takeAt 4 (some 11) (v := ?_) rfl (by kernel_rfl) (by kernel_rfl) (by kernel_rfl) (by kernel_rfl) (by kernel_rfl) (fun _ _ _ h => h) (by exact ⟨HY5.out, HZ5.out⟩) (fun o hop => ?_) ?_
    rotate_left
    · injection hop with hop
      subst hop
      refine ⟨rfl, fun W hW => ?_⟩
      clear hW
      go_simp
      try rfl
    try simp only [Act.put, List.setIfInBounds_toArray, List.set_cons_zero, List.set_cons_succ]
    refine wpAnyD_takeAt 5 (some 16) (v := ?_) rfl (by kernel_rfl) (by kernel_rfl) (by kernel_rfl) (by kernel_rfl) (by kernel_rfl) (fun _ _ _ h => h) (by exact ⟨HY5.out, HZ5.out⟩) (fun o hop => ?_) ?_
    rotate_left
    · injection hop with hop
      subst hop
      refine ⟨rfl, fun W hW => ?_⟩
      clear hW
      go_simp
      try rfl
    try simp only [Act.put, List.setIfInBounds_toArray, List.set_cons_zero, List.set_cons_succ]
    refine wpAnyD_takeAt 6 (some 17) (v := ?_) rfl (by kernel_rfl) (by kernel_rfl) (by kernel_rfl) (by kernel_rfl) (by kernel_rfl) (fun _ _ _ h => h) (by exact ⟨HY5.out, HZ5.out⟩) (fun o hop => ?_) ?_
    rotate_left
    · injection hop with hop
      subst hop
      refine ⟨rfl, fun W hW => ?_⟩
      clear hW
      go_simp
      try rfl
    try simp only [Act.put, List.setIfInBounds_toArray, List.set_cons_zero, List.set_cons_succ]
    refine wpAnyD_takeAt 7 (some 18) (v := ?_) rfl (by kernel_rfl) (by kernel_rfl) (by kernel_rfl) (by kernel_rfl) (by kernel_rfl) (fun _ _ _ h => h) (by exact ⟨HY5.out, HZ5.out⟩) (fun o hop => ?_) ?_
    rotate_left
    · injection hop with hop
      subst hop
      refine ⟨rfl, fun W hW => ?_⟩
      clear hW
      go_simp
      try rfl
    try simp only [Act.put, List.setIfInBounds_toArray, List.set_cons_zero, List.set_cons_succ]
    have b0 : w5.cell? ⟨E, 0, none⟩ = some (.slice none 0 0) := (cells_at HE5.out 0).trans rfl
    have b1 : w5.cell? ⟨E, 1, none⟩ = some (.int .i64 0) := (cells_at HE5.out 1).trans rfl
    have b2 : w5.cell? ⟨E, 2, none⟩ = some (.int .i64 0) := (cells_at HE5.out 2).trans rfl
    have b3 : w5.cell? ⟨E, 3, none⟩ = some (.int .i64 0) := (cells_at HE5.out 3).trans rfl
    have b4 : w5.cell? ⟨E, 4, none⟩ = some (.bool false) := (cells_at HE5.out 4).trans rfl
    have b5 : w5.cell? ⟨E, 5, none⟩ = some (.int .i64 0) := (cells_at HE5.out 5).trans rfl
    have b6 : w5.cell? ⟨E, 6, none⟩ = some (.int .i64 0) := (cells_at HE5.out 6).trans rfl
    have e0 : w5.frozen? ⟨E, 0, none⟩ = false := frozen_no HE5.out _
    have e1 : w5.frozen? ⟨E, 1, none⟩ = false := frozen_no HE5.out _
    have e2 : w5.frozen? ⟨E, 2, none⟩ = false := frozen_no HE5.out _
    have e3 : w5.frozen? ⟨E, 3, none⟩ = false := frozen_no HE5.out _
    have e4 : w5.frozen? ⟨E, 4, none⟩ = false := frozen_no HE5.out _
    have e5 : w5.frozen? ⟨E, 5, none⟩ = false := frozen_no HE5.out _
    have e6 : w5.frozen? ⟨E, 6, none⟩ = false := frozen_no HE5.out _
    have HP := hide' (put7 (S0 := StM.nought) HE5.out ⟨tlast, tarmed, tpoint, twant, tleft, tpat⟩ (.slice a1 k c1))
    simp only at HP
    refine wpAnyT_one (i := 9) (by kernel_rfl) rfl rfl (fun K' hK => ?_)
    go_simp
    refine hK.out _ _ (fun _ => ⟨(HP.out.2.block Y (lt_heap HY5.out) HEY.out.1.symm).trans HY5.out, (HP.out.2.block Z (lt_heap HZ5.out) HEY.out.2.1.symm).trans HZ5.out⟩) ?_
    clear hK K'
    try simp only [Act.put, List.setIfInBounds_toArray, List.set_cons_zero, List.set_cons_succ]
    refine wpAnyT_one (i := 10) (by kernel_rfl) rfl rfl (fun K' hK => ?_)
    go_simp
    refine hK.out _ _ (fun _ => ⟨(HP.out.2.block Y (lt_heap HY5.out) HEY.out.1.symm).trans HY5.out, (HP.out.2.block Z (lt_heap HZ5.out) HEY.out.2.1.symm).trans HZ5.out⟩) ?_
    clear hK K'
    try simp only [Act.put, List.setIfInBounds_toArray, List.set_cons_zero, List.set_cons_succ]
    refine wpAnyT_one (i := 11) (by kernel_rfl) rfl rfl (fun K' hK => ?_)
    go_simp
    refine hK.out _ _ (fun h => absurd rfl h) ?_
    clear hK K'
    try simp only [Act.put, List.setIfInBounds_toArray, List.set_cons_zero, List.set_cons_succ]
    refine wpAnyT_done (by kernel_rfl) ?_ _
    clear b0 b1 b2 b3 b4 b5 b6 e0 e1 e2 e3 e4 e5 e6
    go_upto_region 2 with fail
    refine code_letter (fun W => W.heap[Y]? = some (.cells #[.slice a n c, .int .i64 last, .int .i64 armed, .int .i64 point, .bool want, .int .i64 left, .int .i64 pat] 30 (0, 0)) ∧ W.heap[Z]? = some (.cells #[.int .i64 kind, .int .i64 no, .int .i64 pt, .bool wt] 41 (0, 0)) ∧ Below w.heap.size w W ∧ W.heap[E]? = some (.cells #[.slice a1 k c1, .int .i64 tlast, .int .i64 tarmed, .int .i64 tpoint, .bool twant, .int .i64 tleft, .int .i64 tpat] 30 (0, 0)) ∧ W.ownsRow 0 4 1 (.slice a1 k c1) k (l1.map Value.bool) ∧ W.ownsRow 0 41 4 v1 rs.length (msgs rs)) ⟨(HP.out.2.block Y (lt_heap HY5.out) HEY.out.1.symm).trans HY5.out, (HP.out.2.block Z (lt_heap HZ5.out) HEY.out.2.1.symm).trans HZ5.out, HB5.out.trans (HP.out.2.below HEY.out.2.2 HB5.out.size), HP.out.1, own_keep HX5.out (but_keep HP.out.2 HE5.out) (by decide), own_keep HV5.out (but_keep HP.out.2 HE5.out) (by decide)⟩ ?_
    intro w20 hw
    have HY20 := hide' hw.1
    have HZ20 := hide' hw.2.1
    have HB20 := hide' hw.2.2.1
    have HE20 := hide' hw.2.2.2.1
    have HX20 := hide' hw.2.2.2.2.1
    have HV20 := hide' hw.2.2.2.2.2
    clear hw HP HY5 HZ5 HB5 HE5 HX5 HV5
    have y0 : w20.cell? ⟨Y, 0, none⟩ = some (.slice a n c) := (cells_at HY20.out 0).trans rfl
    have y1 : w20.cell? ⟨Y, 1, none⟩ = some (.int .i64 last) := (cells_at HY20.out 1).trans rfl
    have y2 : w20.cell? ⟨Y, 2, none⟩ = some (.int .i64 armed) := (cells_at HY20.out 2).trans rfl
    have y3 : w20.cell? ⟨Y, 3, none⟩ = some (.int .i64 point) := (cells_at HY20.out 3).trans rfl
    have y4 : w20.cell? ⟨Y, 4, none⟩ = some (.bool want) := (cells_at HY20.out 4).trans rfl
    have y5 : w20.cell? ⟨Y, 5, none⟩ = some (.int .i64 left) := (cells_at HY20.out 5).trans rfl
    have y6 : w20.cell? ⟨Y, 6, none⟩ = some (.int .i64 pat) := (cells_at HY20.out 6).trans rfl
    have m0 : w20.cell? ⟨Z, 0, none⟩ = some (.int .i64 kind) := (cells_at HZ20.out 0).trans rfl
    have m1 : w20.cell? ⟨Z, 1, none⟩ = some (.int .i64 no) := (cells_at HZ20.out 1).trans rfl
    have m2 : w20.cell? ⟨Z, 2, none⟩ = some (.int .i64 pt) := (cells_at HZ20.out 2).trans rfl
    have m3 : w20.cell? ⟨Z, 3, none⟩ = some (.bool wt) := (cells_at HZ20.out 3).trans rfl
    have HU20 := hide' (HU.out a c w20 (HRR.out.below HB20.out (Nat.le_refl _)))
    clear HU
    go_wp2_with fail
    refine HU20.out.mono ?_
    rintro e w21 ⟨a2, c2, v2, rfl, hx2, hv2, hb⟩
    have HB21 : Hid (Below w.heap.size w w21) := HB20.out.trans (hb.mono HB20.out.size)
    have HE21 := hide' ((hb.block E (lt_heap HE20.out)).trans HE20.out)
    have HX21 := hide' (own_below HX20.out hb (Nat.le_refl _))
    have HV21 := hide' (own_below HV20.out hb (Nat.le_refl _))
    have HP21 := hide' hx2
    have HQ21 := hide' hv2
    clear hx2 hv2 hb HB20 HE20 HX20 HV20 HY20 HZ20 HU20 y0 y1 y2 y3 y4 y5 y6 m0 m1 m2 m3
    go_upto_region 3 with fail
    have HF22 := hide' (alloc_new w21 (.cells #[.slice a2 k c2, .int .i64 tlast, .int .i64 tarmed, .int .i64 tpoint, .bool twant, .int .i64 tleft, .int .i64 tpat] 30))
    have HB22 := hide' (HB21.out.alloc HB21.out.size (.cells #[.slice a2 k c2, .int .i64 tlast, .int .i64 tarmed, .int .i64 tpoint, .bool twant, .int .i64 tleft, .int .i64 tpat] 30))
    have HE22 := hide' ((alloc_old w21 (.cells #[.slice a2 k c2, .int .i64 tlast, .int .i64 tarmed, .int .i64 tpoint, .bool twant, .int .i64 tleft, .int .i64 tpat] 30) (lt_heap HE21.out)).trans HE21.out)
    have HX22 := hide' (rowAt_of_own (own_below HX21.out (below_al w21 (.cells #[.slice a2 k c2, .int .i64 tlast, .int .i64 tarmed, .int .i64 tpoint, .bool twant, .int .i64 tleft, .int .i64 tpat] 30)) (Nat.le_refl _)))
    have HV22 := hide' (rowAt_of_own (own_below HV21.out (below_al w21 (.cells #[.slice a2 k c2, .int .i64 tlast, .int .i64 tarmed, .int .i64 tpoint, .bool twant, .int .i64 tleft, .int .i64 tpat] 30)) (Nat.le_refl _)))
    have HP22 := hide' (rowAt_of_own (own_below HP21.out (below_al w21 (.cells #[.slice a2 k c2, .int .i64 tlast, .int .i64 tarmed, .int .i64 tpoint, .bool twant, .int .i64 tleft, .int .i64 tpat] 30)) (Nat.le_refl _)))
    have HQ22 := hide' (rowAt_of_own (own_below HQ21.out (below_al w21 (.cells #[.slice a2 k c2, .int .i64 tlast, .int .i64 tarmed, .int .i64 tpoint, .bool twant, .int .i64 tleft, .int .i64 tpat] 30)) (Nat.le_refl _)))
    obtain ⟨w22, hw22⟩ : ∃ zz, zz = w21.alloc (.cells #[.slice a2 k c2, .int .i64 tlast, .int .i64 tarmed, .int .i64 tpoint, .bool twant, .int .i64 tleft, .int .i64 tpat] 30) := ⟨_, rfl⟩
    obtain ⟨F, hF⟩ : ∃ zz, zz = w21.heap.size := ⟨_, rfl⟩
    rw [← hw22] at HF22 HB22 HE22 HX22 HV22 HP22 HQ22 ⊢
    rw [← hF] at HF22
    rw [show (Value.pointer (some { block := w21.heap.size, off := 0 })) = Value.pointer (some { block := F, off := 0 }) by rw [hF]]
    clear hw22 hF HB21 HE21 HX21 HV21 HP21 HQ21
    have p0 : w22.cell? ⟨E, 0, none⟩ = some (.slice a1 k c1) := (cells_at HE22.out 0).trans rfl
    have p1 : w22.cell? ⟨E, 1, none⟩ = some (.int .i64 tlast) := (cells_at HE22.out 1).trans rfl
    have p2 : w22.cell? ⟨E, 2, none⟩ = some (.int .i64 tarmed) := (cells_at HE22.out 2).trans rfl
    have p3 : w22.cell? ⟨E, 3, none⟩ = some (.int .i64 tpoint) := (cells_at HE22.out 3).trans rfl
    have p4 : w22.cell? ⟨E, 4, none⟩ = some (.bool twant) := (cells_at HE22.out 4).trans rfl
    have p5 : w22.cell? ⟨E, 5, none⟩ = some (.int .i64 tleft) := (cells_at HE22.out 5).trans rfl
    have p6 : w22.cell? ⟨E, 6, none⟩ = some (.int .i64 tpat) := (cells_at HE22.out 6).trans rfl
    have q0 : w22.cell? ⟨F, 0, none⟩ = some (.slice a2 k c2) := (cells_at HF22.out 0).trans rfl
    have q1 : w22.cell? ⟨F, 1, none⟩ = some (.int .i64 tlast) := (cells_at HF22.out 1).trans rfl
    have q2 : w22.cell? ⟨F, 2, none⟩ = some (.int .i64 tarmed) := (cells_at HF22.out 2).trans rfl
    have q3 : w22.cell? ⟨F, 3, none⟩ = some (.int .i64 tpoint) := (cells_at HF22.out 3).trans rfl
    have q4 : w22.cell? ⟨F, 4, none⟩ = some (.bool twant) := (cells_at HF22.out 4).trans rfl
    have q5 : w22.cell? ⟨F, 5, none⟩ = some (.int .i64 tleft) := (cells_at HF22.out 5).trans rfl
    have q6 : w22.cell? ⟨F, 6, none⟩ = some (.int .i64 tpat) := (cells_at HF22.out 6).trans rfl
    have HS22 := hide' (HS.out w22 _ _ _ _ HX22.out HP22.out)
    clear HS HX22 HP22
    go_wp2_with fail
    refine HS22.out.mono ?_
    rintro e w23 ⟨rfl, hb⟩
    have HB23 : Hid (Below w.heap.size w w23) := HB22.out.trans (hb.mono HB22.out.size)
    have HG23 := hide' (HG.out w23 _ _ (HV22.out.below hb (Nat.le_refl _)) (HQ22.out.below hb (Nat.le_refl _)))
    clear hb HG HV22 HQ22 HB22 HS22 HE22 HF22 p0 p1 p2 p3 p4 p5 p6 q0 q1 q2 q3 q4 q5 q6
    go_wp2_with fail
    refine HG23.out.mono ?_
    rintro e w24 ⟨rfl, hb⟩
    have HB24 : Hid (Below w.heap.size w w24) := HB23.out.trans (hb.mono HB23.out.size)
    clear hb HG23 HB23
    go_wp2
    go_ret
    exact ⟨rfl, HB24.out⟩
end Go.Proofs.Ytjhmendiefojoal
