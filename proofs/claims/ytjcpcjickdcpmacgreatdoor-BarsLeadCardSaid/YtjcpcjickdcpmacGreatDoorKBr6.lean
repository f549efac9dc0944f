/- How far each bus is: the program's reckoning. -/
import Derived.Test.YtjcpcjickdcpmacGreatDoorKBr5
import Derived.Sort.LoopGhostIn
namespace Go.Proofs.YtjcpcjickdcpmacGreatDoor.Bar
open Go.RowKit Go.Shelf Doc
attribute [local go_sem] Oper.semAt_some wide_fn wide_depth

set_option maxRecDepth 100000 in
set_option maxHeartbeats 4000000 in
theorem far_any (n : Nat) (hn : n ≤ 1000) (links : List LinkM) (hlen : links.length ≤ 1000) (hends : Ends n links) (a : Option Addr) (cap : Nat) (b : Int) (hb : 0 ≤ b ∧ b < n) (w : World)
    (hr : RowAt w (.slice a links.length cap) links.length 4 (links.flatMap LinkM.cells)) :
    Calls Tryz.prog 17 #[.agg #[.int .i64 n, .slice a links.length cap], .int .i64 b] w fun e w' => ∃ F, e = .returned (.slice (some ⟨F, 0, none⟩) n n) ∧ w.heap.size ≤ F ∧ w'.heap[F]? = some (.cells (ints (farL n links b)).toArray 3 (0, 0)) ∧ Below w.heap.size w w' := by
  obtain ⟨b', rfl⟩ := Int.eq_ofNat_of_zero_le hb.1
  have hbn : b' < n := by omega
  obtain ⟨W0, hW0⟩ : ∃ W0, W0 = (w.alloc (.cells #[.int .i64 n, .slice a links.length cap] 58)).alloc (.cells #[.int .i64 (-1)] 3) := ⟨_, rfl⟩
  have hrep := Repeat_one (-1) n (w.heap.size + 1) 1 hn W0 (by rw [hW0]; simp)
  have HREP := hide' hrep
  have HW0 := hide' hW0
  have HR := hide' hr
  have HE := hide' hends
  have HB := hide' hb
  clear hrep hW0 hr hends hb
  refine (callsIn_wide (n := 3)).1 ?_
  refine callsIn_of_wp_marks Tryz.func17 rfl trivial ?_
  simp only [Tryz.ntmps17, List.size_toArray, List.length_cons, List.length_nil, Nat.reduceAdd, Nat.reduceSub, Array.replicate_succ, Array.replicate_zero, List.push_toArray, List.append_toArray, List.nil_append, List.cons_append]
  gi_wp2_with fail
  rw [← HW0.out]
  refine ((callsIn_wide (n := 2)).2 HREP.out).mono ?_
  rintro e w1 ⟨F, rfl, hF0, hFrow, hb1⟩
  have hz0 : W0.heap.size = w.heap.size + 2 := by rw [HW0.out]; simp
  have hrow : w1.heap[F]? = some (.cells (ints (List.replicate n (-1))).toArray 3 (0, 0)) := by rw [hFrow, ints, List.map_replicate]
  have hFl : F < w1.heap.size := (Array.getElem?_eq_some_iff.1 hFrow).1
  have hcF : ∀ o, (w1.alloc o).cell? ⟨F, b', none⟩ = some (.int .i64 (-1)) := fun o => by
    have h1 : (w1.alloc o).heap[F]? = w1.heap[F]? := Below.heap_alloc w1 o F hFl
    have h2 := (intsCell (h1.trans hrow) (j := b') (by simpa using hbn)).1
    rw [h2, List.getD_eq_getElem?_getD, List.getElem?_replicate, if_pos hbn]
    rfl
  have hfF : ∀ o, (w1.alloc o).frozen? ⟨F, b', none⟩ = false := fun o => by
    have h1 : (w1.alloc o).heap[F]? = w1.heap[F]? := Below.heap_alloc w1 o F hFl
    exact (intsCell (h1.trans hrow) (j := b') (by simpa using hbn)).2
  have HRW := hide' hrow
  have HB1 := hide' hb1
  have HF0 := hide' hF0
  have HFL := hide' hFl
  clear hFrow hrow hb1 hF0 hFl
  gi_wp2_with fail
  obtain ⟨W1, hW1⟩ : ∃ W1, W1 = (((((w1.alloc (.cells #[.slice (some ⟨F, 0, none⟩) n n] 37)).setCell ⟨F, b', none⟩ (.int .i64 0)).alloc (.cells #[.int .i64 (b' : Int)] 3)).alloc (.cells #[.slice (some ⟨w1.heap.size + 1, 0, none⟩) 1 1] 37)).alloc (.cells #[.int .i64 0] 3)) := ⟨_, rfl⟩
  rw [← hW1]
  have HST : Hid (FarSt W1 F w1.heap.size (w1.heap.size + 1 + 1) (w1.heap.size + 1 + 1 + 1) (w1.heap.size + 1) n (start n (b' : Int)) 0 (w1.heap.size + 1) 1) := by
    rw [hW1]
    exact FarSt.start HRW.out HFL.out HB.out
  have HBW : Hid (Below w.heap.size w W1) := by
    have h1 : Below w.heap.size w w1 := by
      have h2 := HB1.out
      rw [HW0.out] at h2
      exact (((Below.refl _ w).alloc (Nat.le_refl _) _).alloc (by simp) _).trans (h2.mono (by simp; omega))
    have h2 := HF0.out
    rw [hW1]
    exact (((((h1.alloc h1.size _).setCell (p := ⟨F, b', none⟩) (by show w.heap.size ≤ F; omega) _).alloc (by simp; exact Nat.le_succ_of_le h1.size) _).alloc (by simp; have := h1.size; omega) _).alloc (by simp; have := h1.size; omega) _)
  have HBX : Hid (W1.heap[w.heap.size]? = some (.cells #[.int .i64 n, .slice a links.length cap] 58 (0, 0))) := by
    have h1 := HB1.out
    have hsz := h1.size
    have h2 := h1.block w.heap.size (by omega)
    rw [HW0.out, Below.heap_alloc _ _ _ (by simp), World.alloc_heap_new] at h2
    have h3 := HF0.out
    rw [hW1, Below.heap_alloc _ _ _ (by simp; omega), Below.heap_alloc _ _ _ (by simp; omega), Below.heap_alloc _ _ _ (by simp; omega), Below.heap_setCell _ _ _ _ (by show w.heap.size ≠ F; omega), Below.heap_alloc _ _ _ (by omega)]
    exact h2
  have HGD : Hid (Good n (start n (b' : Int))) := Good.start HB.out
  clear hW1 hcF hfF
  refine wpIn_loop_ghost (fun g A W => ∃ (s : Reach2) (i r cp PI : Nat) (L : List Nat) (u19 u20 u21 u22 u23 u24 u25 u26 u27 u28 u29 u30 u53 : Value), A = { tmps := #[.agg #[.int .i64 n, .slice a links.length cap], .int .i64 (b' : Int), .pointer (some ⟨w.heap.size, 0, none⟩), undef, .slice none 0 0, .pointer (some ⟨w1.heap.size, 0, none⟩), .pointer (some ⟨w1.heap.size + 1 + 1, 0, none⟩), .pointer (some ⟨PI, 0, none⟩), undef, undef, .slice (some ⟨w.heap.size + 1, 0, none⟩) 1 1, .pointer (some ⟨w.heap.size, 0, none⟩), .int .i64 n, .slice (some ⟨F, 0, none⟩) n n, .slice (some ⟨F, 0, none⟩) n n, .int .i64 (b' : Int), (.pointer (some ⟨F, b', none⟩)), .int .i64 (b' : Int), .slice (some ⟨w1.heap.size + 1, 0, none⟩) 1 1, u19, u20, u21, u22, u23, u24, u25, u26, u27, u28, u29, u30, undef, undef, undef, undef, undef, undef, undef, undef, undef, undef, undef, undef, undef, undef, undef, undef, undef, undef, undef, undef, undef, undef, u53, undef], defers := marks L } ∧ g + i = n + 1 ∧ i ≤ s.2.length ∧ Hid (FarSt W F w1.heap.size (w1.heap.size + 1 + 1) PI (w1.heap.size + 1) n s i r cp) ∧ Hid (Good n s) ∧ Hid ((bfs links g i s).1 = farL n links (b' : Int)) ∧ Hid (Below w.heap.size w W) ∧ Hid (W.heap[w.heap.size]? = some (.cells #[.int .i64 n, .slice a links.length cap] 58 (0, 0))) ∧ Hid (MarksAt W L) ∧ Hid (∀ d ∈ L, w.heap.size ≤ d)) (n + 1) ⟨start n (b' : Int), 0, w1.heap.size + 1, 1, w1.heap.size + 1 + 1 + 1, [], undef, undef, undef, undef, undef, undef, undef, undef, undef, undef, undef, undef, undef, rfl, rfl, Nat.zero_le _, HST, HGD, rfl, HBW, HBX, ⟨List.nodup_nil, fun d h => by cases h⟩, fun d h => by cases h⟩ ?_
  clear HST HBW HBX HGD
  rintro g A W ⟨s, i, r, cp, PI, L, u19, u20, u21, u22, u23, u24, u25, u26, u27, u28, u29, u30, u53, rfl, hgi, hi, HS, HG, HF, HBW, HBX, HM, HL⟩
  obtain ⟨cPI, fPI⟩ := cell1 HS.out.hPI
  obtain ⟨cPR, fPR⟩ := cell1 HS.out.hPR
  obtain ⟨cPF, fPF⟩ := cell1 HS.out.hPF
  by_cases hlt : i < s.2.length
  · have cR := HS.out.cellR hlt
    obtain ⟨u, hu⟩ : ∃ u, u = s.2.getD i 0 := ⟨_, rfl⟩
    rw [← hu] at cR
    have hb0 : W.cell? ⟨w.heap.size, 0, none⟩ = some (.int .i64 n) := by simp only [World.cell?, HBX.out]; rfl
    have hb1 : W.cell? ⟨w.heap.size, 1, none⟩ = some (.slice a links.length cap) := by simp only [World.cell?, HBX.out]; rfl
    have hur : 0 ≤ u ∧ u < n := by rw [hu]; exact HG.out.mem _ (getD_in hlt).2
    obtain ⟨uN, rfl⟩ := Int.eq_ofNat_of_zero_le hur.1
    have HU := hide' hu
    clear hu
    gi_wp2_with fail
    refine wpIn_calm ?_
    refine wpIn_region_U (fun W => W.cell? ⟨w.heap.size, 0, none⟩ = some (.int .i64 n) ∧ W.cell? ⟨w.heap.size, 1, none⟩ = some (.slice a links.length cap) ∧ W.cell? ⟨w1.heap.size + 1 + 1, 0, none⟩ = some (.slice (some ⟨r, 0, none⟩) s.2.length cp) ∧ W.cell? ⟨PI, 0, none⟩ = some (.int .i64 i) ∧ W.cell? ⟨r, i, none⟩ = some (.int .i64 (uN : Int))) 5 (by kernel_rfl) ?_

    refine wpAnyU_takeAt 0 (some 25) (v := ?_) (by kernel_rfl) rfl (by kernel_rfl) (by kernel_rfl) (by kernel_rfl) (by kernel_rfl) (by kernel_rfl) (fun _ _ _ h => h) (by exact ⟨hb0, hb1, cPR, cPI, cR⟩) (fun o hop w => by injection hop with hop; subst hop; rfl) (fun o hop => ?_) ?_
    rotate_left
    · injection hop with hop
      subst hop
      refine ⟨rfl, fun W hW => ?_⟩
      obtain ⟨s0, s1, s2, s3, s4⟩ := hW
      go_simp
      first
      | done
      | rfl
    try simp only [Act.put, List.setIfInBounds_toArray, List.set_cons_zero, List.set_cons_succ]
    refine wpAnyU_takeAt 1 (some 26) (v := ?_) (by kernel_rfl) rfl (by kernel_rfl) (by kernel_rfl) (by kernel_rfl) (by kernel_rfl) (by kernel_rfl) (fun _ _ _ h => h) (by exact ⟨hb0, hb1, cPR, cPI, cR⟩) (fun o hop w => by injection hop with hop; subst hop; rfl) (fun o hop => ?_) ?_
    rotate_left
    · injection hop with hop
      subst hop
      refine ⟨rfl, fun W hW => ?_⟩
      obtain ⟨s0, s1, s2, s3, s4⟩ := hW
      go_simp
      first
      | done
      | rfl
    try simp only [Act.put, List.setIfInBounds_toArray, List.set_cons_zero, List.set_cons_succ]
    refine wpAnyU_takeAt 2 (some 27) (v := ?_) (by kernel_rfl) rfl (by kernel_rfl) (by kernel_rfl) (by kernel_rfl) (by kernel_rfl) (by kernel_rfl) (fun _ _ _ h => h) (by exact ⟨hb0, hb1, cPR, cPI, cR⟩) (fun o hop w => by injection hop with hop; subst hop; rfl) (fun o hop => ?_) ?_
    rotate_left
    · injection hop with hop
      subst hop
      refine ⟨rfl, fun W hW => ?_⟩
      obtain ⟨s0, s1, s2, s3, s4⟩ := hW
      go_simp
      first
      | done
      | rfl
    try simp only [Act.put, List.setIfInBounds_toArray, List.set_cons_zero, List.set_cons_succ]
    refine wpAnyU_takeAt 3 (some 28) (v := ?_) (by kernel_rfl) rfl (by kernel_rfl) (by kernel_rfl) (by kernel_rfl) (by kernel_rfl) (by kernel_rfl) (fun _ _ _ h => h) (by exact ⟨hb0, hb1, cPR, cPI, cR⟩) (fun o hop w => by injection hop with hop; subst hop; rfl) (fun o hop => ?_) ?_
    rotate_left
    · injection hop with hop
      subst hop
      refine ⟨rfl, fun W hW => ?_⟩
      obtain ⟨s0, s1, s2, s3, s4⟩ := hW
      go_simp
      first
      | done
      | rfl
    try simp only [Act.put, List.setIfInBounds_toArray, List.set_cons_zero, List.set_cons_succ]
    refine wpAnyU_takeAt 4 (some 29) (v := ?_) (by kernel_rfl) rfl (by kernel_rfl) (by kernel_rfl) (by kernel_rfl) (by kernel_rfl) (by kernel_rfl) (fun _ _ _ h => h) (by exact ⟨hb0, hb1, cPR, cPI, cR⟩) (fun o hop w => by injection hop with hop; subst hop; rfl) (fun o hop => ?_) ?_
    rotate_left
    · injection hop with hop
      subst hop
      refine ⟨rfl, fun W hW => ?_⟩
      obtain ⟨s0, s1, s2, s3, s4⟩ := hW
      go_simp
      first
      | done
      | rfl
    try simp only [Act.put, List.setIfInBounds_toArray, List.set_cons_zero, List.set_cons_succ]
    refine wpAnyU_one (i := 5) (by kernel_rfl) rfl rfl (fun K' hK => ?_)
    go_simp
    gi_at_call 18
    refine ((callsIn_wide (n := 2)).2 (onward_any n (.slice a links.length cap) (uN : Int) W.drew)).mono ?_
    rintro e w2 ⟨rfl, hw2⟩
    refine hK.out _ _ (fun h => absurd rfl h) ?_
    clear hK K'
    refine wpAnyU_done (by kernel_rfl) ?_ _
    have hz2 : w2.heap.size = W.heap.size + 2 := by rw [hw2]; simp
    have hbw2 : Below W.heap.size W w2 := by rw [hw2]; exact (((Below.refl _ W).drew).alloc (Nat.le_refl _) _).alloc (by simp) _
    have hg2 : w2.heap[W.heap.size]? = some (.cells #[.int .i64 n, .slice a links.length cap] 58 (0, 0)) := by
      rw [hw2]
      exact (Below.heap_alloc _ _ _ (by simp)).trans (World.alloc_heap_new W.drew _)
    have hu2 : w2.heap[W.heap.size + 1]? = some (.cells #[.int .i64 (uN : Int)] 3 (0, 0)) := by
      rw [hw2]
      have := World.alloc_heap_new (W.drew.alloc (.cells #[.int .i64 n, .slice a links.length cap] 58)) (.cells #[.int .i64 (uN : Int)] 3)
      rwa [World.size_alloc] at this
    obtain ⟨bls, hbls, hbl⟩ : ∃ bls : List Nat, (∀ k ∈ bls, k < w.heap.size) ∧ ∀ b o, a = some ⟨b, o, none⟩ → 0 < links.length → b ∈ bls := by
      by_cases h0 : 0 < links.length
      · obtain ⟨b, off, ea, hce⟩ := link_elem HR.out 0 h0
        refine ⟨[b], fun k hk => ?_, fun b2 o e _ => ?_⟩
        · rw [List.mem_singleton.1 hk]
          exact World.block_lt_of_cell? w _ (hce 0 _ rfl)
        · rw [ea] at e
          cases e
          simp
      · exact ⟨[], fun k hk => (by cases hk), fun _ _ _ h => absurd h h0⟩
    have hWs := HBW.out.size
    have HS2 := hide' (HS.out.grow (W' := w2) (fun k c t fz hk => (hbw2.block k (Array.getElem?_eq_some_iff.1 hk).1).trans hk))
    have HBW2 : Hid (Below w.heap.size w w2) := HBW.out.trans (hbw2.mono hWs)
    have HBX2 : Hid (w2.heap[w.heap.size]? = some (.cells #[.int .i64 n, .slice a links.length cap] 58 (0, 0))) := (hbw2.block _ (Array.getElem?_eq_some_iff.1 HBX.out).1).trans HBX.out
    have HM2 : Hid (MarksAt w2 L) := ⟨HM.out.1, fun d hd => (hbw2.block d (Array.getElem?_eq_some_iff.1 (HM.out.2 d hd)).1).trans (HM.out.2 d hd)⟩
    have hrl : r < W.heap.size := by obtain ⟨cur, h1, _⟩ := HS.out.blockR; exact (Array.getElem?_eq_some_iff.1 h1).1
    have hrb : w1.heap.size + 1 ≤ r := by obtain ⟨cur, _, h1, _⟩ := HS.out.blockR; exact h1
    have hFl : F < W.heap.size := (Array.getElem?_eq_some_iff.1 HS.out.hF).1
    have hPRl : w1.heap.size + 1 + 1 < W.heap.size := (Array.getElem?_eq_some_iff.1 HS.out.hPR).1
    have hbse : ∀ k ∈ [W.heap.size, W.heap.size + 1] ++ bls, k < w2.heap.size := fun k hk => by
      rcases List.mem_append.1 hk with hk | hk
      · simp at hk; omega
      · have := hbls k hk; omega
    have hFbs : F ∉ [W.heap.size, W.heap.size + 1] ++ bls := fun hk => by
      have h1 := HF0.out
      rcases List.mem_append.1 hk with hk | hk
      · simp at hk; omega
      · have := hbls _ hk; omega
    have hPbs : w1.heap.size + 1 + 1 ∉ [W.heap.size, W.heap.size + 1] ++ bls := fun hk => by
      have h1 := HFL.out
      have h2 := HF0.out
      rcases List.mem_append.1 hk with hk | hk
      · simp at hk; omega
      · have := hbls _ hk; omega
    have hrbs : r ∉ [W.heap.size, W.heap.size + 1] ++ bls := fun hk => by
      have h1 := HFL.out
      have h2 := HF0.out
      rcases List.mem_append.1 hk with hk | hk
      · simp at hk; omega
      · have := hbls _ hk; omega
    obtain ⟨bs, hbsd⟩ : ∃ bs, bs = [W.heap.size, W.heap.size + 1] ++ bls := ⟨_, rfl⟩
    have hstop := onward1_stops links hlen n a cap (uN : Int) W.heap.size (W.heap.size + 1) bs (by rw [hbsd]; simp) (by rw [hbsd]; simp) (fun b o e h => by rw [hbsd]; exact List.mem_append_right _ (hbl b o e h)) w2 (by rw [hbsd]; exact hbse) hg2 (cell1 hu2).1 (RowAt.below HR.out HBW2.out (Nat.le_refl _))
    have hbls2 : ∀ k ∈ bs, k < w.heap.size ∨ k = W.heap.size ∨ k = W.heap.size + 1 := fun k hk => by
      rw [hbsd] at hk
      rcases List.mem_append.1 hk with hk | hk
      · simp at hk; omega
      · exact .inl (hbls k hk)
    rw [← hbsd] at hbse hFbs hPbs hrbs
    clear hbsd hbl hbls hw2 cPI fPI cPR fPR cPF fPF cR hb0 hb1
    have HB8 := hide' hbse
    have HST8 := hide' hstop
    clear hbse hstop
    gi_wp2_with fail
    have hbse := HB8.out
    refine wpIn_rangeFunc_ownF (n := 3) (α := Lead links (uN : Int)) rfl (by decide) (gf := 21) (lb := #[.pointer (some ⟨W.heap.size, 0, none⟩), .pointer (some ⟨W.heap.size + 1, 0, none⟩)]) rfl trivial (enters_of Tryz.func21 (by kernel_rfl) rfl) HST8.out (fun h k => h.trans k) (fun X l o o' hl _ _ _ => KeptB.putObj o' (fun hm => by have := hbse l hm; omega)) (Below.refl _ _) (fun _ => rfl)
      (fun pre W' => ∃ r' cp', Hid (FarSt W' F w1.heap.size (w1.heap.size + 1 + 1) PI (w1.heap.size + 1) n (pre.foldl (fun s x => visit (uN : Int) s x.1.2) s) i r' cp') ∧ r' ∉ bs ∧ Hid (Below w.heap.size w W') ∧ Hid (KeptB bs w2 W') ∧ Hid (w2.heap.size ≤ W'.heap.size) ∧ Hid (W'.heap[w.heap.size]? = some (.cells #[.int .i64 n, .slice a links.length cap] 58 (0, 0))) ∧ Hid (MarksAt W' L))
      (fun _ _ _ => False) ?hI (fun _ _ _ _ _ hs _ _ => hs) ⟨r, cp, HS2, hrbs, HBW2, KeptB.refl _ _, Nat.le_refl _, HBX2, HM2⟩
      (fun x => { tmps := #[.agg #[.int .i64 n, .slice a links.length cap], .int .i64 (b' : Int), .pointer (some ⟨w.heap.size, 0, none⟩), undef, .slice none 0 0, .pointer (some ⟨w1.heap.size, 0, none⟩), .pointer (some ⟨w1.heap.size + 1 + 1, 0, none⟩), .pointer (some ⟨PI, 0, none⟩), undef, .int .i64 x.1.2, .slice (some ⟨w.heap.size + 1, 0, none⟩) 1 1, .pointer (some ⟨w.heap.size, 0, none⟩), .int .i64 n, .slice (some ⟨F, 0, none⟩) n n, .slice (some ⟨F, 0, none⟩) n n, .int .i64 (b' : Int), (.pointer (some ⟨F, b', none⟩)), .int .i64 (b' : Int), .slice (some ⟨w1.heap.size + 1, 0, none⟩) 1 1, .int .i64 i, .slice (some ⟨r, 0, none⟩) s.2.length cp, .int .i64 s.2.length, .bool true, u23, u24, .agg #[.int .i64 n, .slice a links.length cap], .slice (some ⟨r, 0, none⟩) s.2.length cp, .int .i64 i, .pointer (some ⟨r, i, none⟩), .int .i64 (uN : Int), .func (.func 21) #[] #[.pointer (some ⟨W.heap.size, 0, none⟩), .pointer (some ⟨W.heap.size + 1, 0, none⟩)], .agg #[.bool x.1.1.tie, .int .i64 x.1.1.no], .int .i64 x.1.2, undef, undef, undef, undef, undef, undef, undef, undef, undef, undef, undef, undef, undef, undef, undef, undef, undef, undef, undef, undef, u53, undef], defers := [] }) ?assign ?body ?done ?stop
    case hI =>
      rintro pre X Y row ⟨r', cp', h1, h2, h3, h4, h5, h6, h7⟩ hg hr
      have hcell : ∀ (k : Nat) (c : Array Value) (t : TypeId) (fz : Nat × Nat), X.heap[k]? = some (Obj.cells c t fz) → Y.heap[k]? = some (Obj.cells c t fz) := fun k c t fz hk => by
        rw [hg.block k (Array.getElem?_eq_some_iff.1 hk).1 (fun e => by
          obtain ⟨_, o, ho, hc⟩ := hr k e.symm
          rw [hk] at ho
          cases ho
          cases hc), hk]
      have hlow : ∀ k, k < w2.heap.size → k < X.heap.size → Y.heap[k]? = X.heap[k]? := fun k hk hk2 => hg.block k hk2 (fun e => by have := (hr k e.symm).1; omega)
      refine ⟨r', cp', h1.out.grow hcell, h2, ?_, ?_, Nat.le_trans h5.out hg.size, hcell _ _ _ _ h6.out, h7.out.1, fun d hd => ?_⟩
      · exact h3.out.grown hg h3.out.size (fun k e => by have := (hr k e).1; omega)
      · exact h4.out.trans ⟨hg.size, fun k hk => hlow k (hbse k hk) (by have := hbse k hk; have := h5.out; omega)⟩
      · have e1 := HM2.out.2 d hd
        have e2 := (Array.getElem?_eq_some_iff.1 e1).1
        have e3 := h7.out.2 d hd
        exact (hlow d e2 (Array.getElem?_eq_some_iff.1 e3).1).trans e3
    case assign =>
      intro l x X K hK
      unfold leadV
      gi_wp2
      exact hK
    case stop =>
      rintro D c pre X _ _ h _
      exact h.elim
    case done =>
      rintro D xs X hD hxs ⟨r', cp', h1, h2, h3, h4, h5, h6, h7⟩ hDf
      obtain ⟨cPI, fPI⟩ := cell1 h1.out.hPI
      have hiw : IntKind.i64.wrap ((i : Int) + 1) = (i : Int) + 1 := Go.IntWalk.i64_in _ (by have := HG.out.le; omega)
      have HDF := hide' hDf
      have HXS := hide' hxs
      clear hDf hxs
      gi_wp2
      obtain ⟨f, hgf⟩ : ∃ f, g = f + 1 := ⟨g - 1, by have := HG.out.le; omega⟩
      obtain ⟨sx, hsx⟩ : ∃ sx, sx = xs.foldl (fun s x => visit (uN : Int) s x.1.2) s := ⟨_, rfl⟩
      rw [← hsx] at h1
      have hrb' : roundB links (s.2.getD i 0) s = sx := by
        rw [← HU.out, roundB, ← HXS.out, List.foldl_map, hsx]
      have hDl : D < X.heap.size := (Array.getElem?_eq_some_iff.1 HDF.out).1
      have hPl : w1.heap.size + 1 + 1 < X.heap.size := (Array.getElem?_eq_some_iff.1 h1.out.hPR).1
      have hw1 := HFL.out
      have hf0 := HF0.out
      refine ⟨f, by omega, sx, i + 1, r', cp', X.heap.size, D :: L, _, _, _, _, _, _, _, _, _, _, _, _, _, rfl, by omega, ?_, h1.out.next (by omega), ?_, ?_, h3.out.alloc h3.out.size _, ?_, ⟨?_, fun d hd => ?_⟩, fun d hd => ?_⟩
      · obtain ⟨ext, he⟩ := fold_prefix xs s
        rw [hsx, he, List.length_append]
        omega
      · rw [hsx]
        exact Good.lead hur HE.out xs HG.out
      · have h9 := HF.out
        rw [hgf, bfs, if_pos hlt, hrb'] at h9
        exact h9
      · exact (Below.heap_alloc _ _ _ (Array.getElem?_eq_some_iff.1 h6.out).1).trans h6.out
      · refine List.nodup_cons.2 ⟨fun hm => ?_, HM2.out.1⟩
        have e1 := (Array.getElem?_eq_some_iff.1 (HM2.out.2 D hm)).1
        omega
      · rcases List.mem_cons.1 hd with rfl | hd
        · exact (Below.heap_alloc _ _ _ hDl).trans HDF.out
        · have e1 := h7.out.2 d hd
          exact (Below.heap_alloc _ _ _ (Array.getElem?_eq_some_iff.1 e1).1).trans e1
      · rcases List.mem_cons.1 hd with rfl | hd
        · have := HBW2.out.size; omega
        · exact HL.out d hd
    case body =>
      rintro l pre x X ⟨r', cp', h1, h2, h3, h4, h5, h6, h7⟩ hpl
      obtain ⟨sp, hsp⟩ : ∃ sp, sp = pre.foldl (fun s x => visit (uN : Int) s x.1.2) s := ⟨_, rfl⟩
      have hgp : Good n sp := by rw [hsp]; exact Good.lead hur HE.out pre HG.out
      have hpx : ∃ ext, sp.2 = s.2 ++ ext := by rw [hsp]; exact fold_prefix pre s
      have hvv := onw_ends HE.out x.1 x.2
      obtain ⟨vN, hvN⟩ := Int.eq_ofNat_of_zero_le hvv.1
      rw [← hsp] at h1
      have hvl : vN < sp.1.length := by rw [hgp.len]; omega
      have hul : uN < sp.1.length := by rw [hgp.len]; omega
      have hil : i < sp.2.length := by obtain ⟨ext, he⟩ := hpx; rw [he, List.length_append]; omega
      have hRi : sp.2.getD i 0 = (uN : Int) := by
        obtain ⟨ext, he⟩ := hpx
        rw [he, HU.out, List.getD_eq_getElem?_getD, List.getElem?_append_left hlt, ← List.getD_eq_getElem?_getD]
      have hfold : ∀ t, t = visit (uN : Int) sp x.1.2 → (pre ++ [x]).foldl (fun s x => visit (uN : Int) s x.1.2) s = t := fun t ht => by
        rw [List.foldl_append, ← hsp, ht]
        rfl
      obtain ⟨cPF, fPF⟩ := cell1 h1.out.hPF
      obtain ⟨cPR, fPR⟩ := cell1 h1.out.hPR
      obtain ⟨cPI, fPI⟩ := cell1 h1.out.hPI
      obtain ⟨cV, fV⟩ := intsCell h1.out.hF hvl
      obtain ⟨cU, fU⟩ := intsCell h1.out.hF hul
      have cR := h1.out.cellR hil
      rw [hRi] at cR
      have hln : sp.1.length = n := hgp.len
      rw [hln] at hvl hul
      have HGP := hide' hgp
      have HFD := hide' hfold
      have HVN := hide' hvN
      rw [hvN]
      by_cases hc : sp.1.getD vN 0 = -1
      · have hdu := hgp.low _ (getD_in (D := sp.1) (j := uN) (by omega)).2
        have hle := hgp.le
        obtain ⟨du, hdu'⟩ : ∃ du, du = sp.1.getD uN 0 := ⟨_, rfl⟩
        rw [← hdu'] at hdu cU
        have HDU := hide' hdu'
        have hwd : IntKind.i64.wrap (du + 1) = du + 1 := Go.IntWalk.i64_in _ (by omega)
        rw [hc] at cV
        have HC := hide' hc
        clear hc hdu' hvN hfold hgp hpx hsp hRi
        gi_wp2
        refine wpIn_calm ?_
        refine wpIn_region_U (fun W => W.cell? ⟨w1.heap.size, 0, none⟩ = some (.slice (some ⟨F, 0, none⟩) n n) ∧ W.cell? ⟨w1.heap.size + 1 + 1, 0, none⟩ = some (.slice (some ⟨r', 0, none⟩) sp.2.length cp') ∧ W.cell? ⟨PI, 0, none⟩ = some (.int .i64 i) ∧ W.cell? ⟨r', i, none⟩ = some (.int .i64 (uN : Int)) ∧ W.cell? ⟨F, uN, none⟩ = some (.int .i64 du) ∧ W.cell? ⟨F, vN, none⟩ = some (.int .i64 (-1))) 11 (by kernel_rfl) ?_

        refine wpAnyU_takeAt 0 (some 38) (v := ?_) (by kernel_rfl) rfl (by kernel_rfl) (by kernel_rfl) (by kernel_rfl) (by kernel_rfl) (by kernel_rfl) (fun _ _ _ h => h) (by exact ⟨cPF, cPR, cPI, cR, cU, cV⟩) (fun o hop w => by injection hop with hop; subst hop; rfl) (fun o hop => ?_) ?_
        rotate_left
        · injection hop with hop
          subst hop
          refine ⟨rfl, fun W hW => ?_⟩
          obtain ⟨s0, s1, s2, s3, s4, s5⟩ := hW
          go_simp
          first
          | done
          | rfl
        try simp only [Act.put, List.setIfInBounds_toArray, List.set_cons_zero, List.set_cons_succ]
        refine wpAnyU_takeAt 1 (some 39) (v := ?_) (by kernel_rfl) rfl (by kernel_rfl) (by kernel_rfl) (by kernel_rfl) (by kernel_rfl) (by kernel_rfl) (fun _ _ _ h => h) (by exact ⟨cPF, cPR, cPI, cR, cU, cV⟩) (fun o hop w => by injection hop with hop; subst hop; rfl) (fun o hop => ?_) ?_
        rotate_left
        · injection hop with hop
          subst hop
          refine ⟨rfl, fun W hW => ?_⟩
          obtain ⟨s0, s1, s2, s3, s4, s5⟩ := hW
          go_simp
          first
          | done
          | rfl
        try simp only [Act.put, List.setIfInBounds_toArray, List.set_cons_zero, List.set_cons_succ]
        refine wpAnyU_takeAt 2 (some 40) (v := ?_) (by kernel_rfl) rfl (by kernel_rfl) (by kernel_rfl) (by kernel_rfl) (by kernel_rfl) (by kernel_rfl) (fun _ _ _ h => h) (by exact ⟨cPF, cPR, cPI, cR, cU, cV⟩) (fun o hop w => by injection hop with hop; subst hop; rfl) (fun o hop => ?_) ?_
        rotate_left
        · injection hop with hop
          subst hop
          refine ⟨rfl, fun W hW => ?_⟩
          obtain ⟨s0, s1, s2, s3, s4, s5⟩ := hW
          go_simp
          first
          | done
          | rfl
        try simp only [Act.put, List.setIfInBounds_toArray, List.set_cons_zero, List.set_cons_succ]
        refine wpAnyU_takeAt 3 (some 41) (v := ?_) (by kernel_rfl) rfl (by kernel_rfl) (by kernel_rfl) (by kernel_rfl) (by kernel_rfl) (by kernel_rfl) (fun _ _ _ h => h) (by exact ⟨cPF, cPR, cPI, cR, cU, cV⟩) (fun o hop w => by injection hop with hop; subst hop; rfl) (fun o hop => ?_) ?_
        rotate_left
        · injection hop with hop
          subst hop
          refine ⟨rfl, fun W hW => ?_⟩
          obtain ⟨s0, s1, s2, s3, s4, s5⟩ := hW
          go_simp
          first
          | done
          | rfl
        try simp only [Act.put, List.setIfInBounds_toArray, List.set_cons_zero, List.set_cons_succ]
        refine wpAnyU_takeAt 4 (some 42) (v := ?_) (by kernel_rfl) rfl (by kernel_rfl) (by kernel_rfl) (by kernel_rfl) (by kernel_rfl) (by kernel_rfl) (fun _ _ _ h => h) (by exact ⟨cPF, cPR, cPI, cR, cU, cV⟩) (fun o hop w => by injection hop with hop; subst hop; rfl) (fun o hop => ?_) ?_
        rotate_left
        · injection hop with hop
          subst hop
          refine ⟨rfl, fun W hW => ?_⟩
          obtain ⟨s0, s1, s2, s3, s4, s5⟩ := hW
          go_simp
          first
          | done
          | rfl
        try simp only [Act.put, List.setIfInBounds_toArray, List.set_cons_zero, List.set_cons_succ]
        refine wpAnyU_takeAt 5 (some 43) (v := ?_) (by kernel_rfl) rfl (by kernel_rfl) (by kernel_rfl) (by kernel_rfl) (by kernel_rfl) (by kernel_rfl) (fun _ _ _ h => h) (by exact ⟨cPF, cPR, cPI, cR, cU, cV⟩) (fun o hop w => by injection hop with hop; subst hop; rfl) (fun o hop => ?_) ?_
        rotate_left
        · injection hop with hop
          subst hop
          refine ⟨rfl, fun W hW => ?_⟩
          obtain ⟨s0, s1, s2, s3, s4, s5⟩ := hW
          go_simp
          first
          | done
          | rfl
        try simp only [Act.put, List.setIfInBounds_toArray, List.set_cons_zero, List.set_cons_succ]
        refine wpAnyU_takeAt 6 (some 44) (v := ?_) (by kernel_rfl) rfl (by kernel_rfl) (by kernel_rfl) (by kernel_rfl) (by kernel_rfl) (by kernel_rfl) (fun _ _ _ h => h) (by exact ⟨cPF, cPR, cPI, cR, cU, cV⟩) (fun o hop w => by injection hop with hop; subst hop; rfl) (fun o hop => ?_) ?_
        rotate_left
        · injection hop with hop
          subst hop
          refine ⟨rfl, fun W hW => ?_⟩
          obtain ⟨s0, s1, s2, s3, s4, s5⟩ := hW
          go_simp
          first
          | done
          | rfl
        try simp only [Act.put, List.setIfInBounds_toArray, List.set_cons_zero, List.set_cons_succ]
        refine wpAnyU_takeAt 7 (some 45) (v := ?_) (by kernel_rfl) rfl (by kernel_rfl) (by kernel_rfl) (by kernel_rfl) (by kernel_rfl) (by kernel_rfl) (fun _ _ _ h => h) (by exact ⟨cPF, cPR, cPI, cR, cU, cV⟩) (fun o hop w => by injection hop with hop; subst hop; rfl) (fun o hop => ?_) ?_
        rotate_left
        · injection hop with hop
          subst hop
          refine ⟨rfl, fun W hW => ?_⟩
          obtain ⟨s0, s1, s2, s3, s4, s5⟩ := hW
          go_simp
          first
          | done
          | rfl
        try simp only [Act.put, List.setIfInBounds_toArray, List.set_cons_zero, List.set_cons_succ]
        refine wpAnyU_takeAt 8 (some 46) (v := ?_) (by kernel_rfl) rfl (by kernel_rfl) (by kernel_rfl) (by kernel_rfl) (by kernel_rfl) (by kernel_rfl) (fun _ _ _ h => h) (by exact ⟨cPF, cPR, cPI, cR, cU, cV⟩) (fun o hop w => by injection hop with hop; subst hop; rfl) (fun o hop => ?_) ?_
        rotate_left
        · injection hop with hop
          subst hop
          refine ⟨rfl, fun W hW => ?_⟩
          obtain ⟨s0, s1, s2, s3, s4, s5⟩ := hW
          go_simp
          first
          | done
          | rfl
        try simp only [Act.put, List.setIfInBounds_toArray, List.set_cons_zero, List.set_cons_succ]
        refine wpAnyU_takeAt 9 (some 47) (v := ?_) (by kernel_rfl) rfl (by kernel_rfl) (by kernel_rfl) (by kernel_rfl) (by kernel_rfl) (by kernel_rfl) (fun _ _ _ h => h) (by exact ⟨cPF, cPR, cPI, cR, cU, cV⟩) (fun o hop w => by injection hop with hop; subst hop; rfl) (fun o hop => ?_) ?_
        rotate_left
        · injection hop with hop
          subst hop
          refine ⟨rfl, fun W hW => ?_⟩
          obtain ⟨s0, s1, s2, s3, s4, s5⟩ := hW
          go_simp
          first
          | done
          | rfl
        try simp only [Act.put, List.setIfInBounds_toArray, List.set_cons_zero, List.set_cons_succ]
        refine wpAnyU_takeAt 10 (some 48) (v := ?_) (by kernel_rfl) rfl (by kernel_rfl) (by kernel_rfl) (by kernel_rfl) (by kernel_rfl) (by kernel_rfl) (fun _ _ _ h => h) (by exact ⟨cPF, cPR, cPI, cR, cU, cV⟩) (fun o hop w => by injection hop with hop; subst hop; rfl) (fun o hop => ?_) ?_
        rotate_left
        · injection hop with hop
          subst hop
          refine ⟨rfl, fun W hW => ?_⟩
          obtain ⟨s0, s1, s2, s3, s4, s5⟩ := hW
          go_simp
          first
          | done
          | rfl
        try simp only [Act.put, List.setIfInBounds_toArray, List.set_cons_zero, List.set_cons_succ]
        refine wpAnyU_one (i := 11) (by kernel_rfl) rfl rfl (fun K' hK => ?_)
        go_simp
        refine hK.out _ _ (fun h => absurd rfl h) ?_
        clear hK K'
        refine wpAnyU_done (by kernel_rfl) ?_ _
        obtain ⟨X1, hX1⟩ : ∃ X1, X1 = (X.setCell ⟨F, vN, none⟩ (.int .i64 (du + 1))).drew := ⟨_, rfl⟩
        rw [← hX1]
        have hst1 : FarSt X1 F w1.heap.size (w1.heap.size + 1 + 1) PI (w1.heap.size + 1) n (sp.1.set vN (du + 1), sp.2) i r' cp' := by
          rw [hX1]
          exact (h1.out.set vN (du + 1)).grow (fun _ _ _ _ h => h)
        obtain ⟨dPR, gPR⟩ := cell1 hst1.hPR
        have HS1 := hide' hst1
        have HX1 : Hid (KeepsOthers X X1 ∧ KeptB bs X X1 ∧ Below w.heap.size w X1 ∧ X1.heap.size = X.heap.size ∧ X1.heap[w.heap.size]? = X.heap[w.heap.size]?) := by
          rw [hX1]
          refine ⟨(KeepsOthers.setCell X _ _).trans (KeepsOthers.drew _), ?_, (h3.out.setCell (p := ⟨F, vN, none⟩) (by have := HF0.out; show w.heap.size ≤ F; omega) _).drew, World.size_setCell _ _ _, Below.heap_setCell _ _ _ _ (by have := HF0.out; show w.heap.size ≠ F; omega)⟩
          exact KeptB.setCell (W := X) hFbs _
        have hgr := hst1.hR
        have hXl := h5.out
        have HSZ : Hid (w1.heap.size + 1 ≤ X1.heap.size) := by
          have h1 := (Array.getElem?_eq_some_iff.1 hst1.hPR).1
          show _ ≤ _
          omega
        clear hX1 hst1 cPF cPR cPI cR cU cV fPF fPR fPI fV fU
        obtain ⟨i0, hi0, hzz0, hzz1, hzz2⟩ := info_parts Doc.Tryz.info3
        gi_wp2_with (gi_at_builtin; (refine wpListIn_append_own _ rfl _ _ 37 rfl (w1.heap.size + 1) 3 i0 (.int .i64 0) 1 8 Tryz.underlying37 hi0 hzz0 hzz1 hzz2 rfl (by decide) _ _ _ rfl (hgr.alloc _) ⟨X1.heap.size, 0, none⟩ 1 1 [.int .i64 (vN : Int)] rfl rfl (cell_one_new _ _ _) (one_cell rfl) (by unfold maxLen; show sp.2.length + 1 ≤ _; omega) (by show (sp.2.length + 1) * 8 ≤ _; omega) (by have := HSZ.out; rw [World.size_alloc]; omega) ?_; intro v' w3 hown' hgrow _; refine Still.go ?_))
        unfold Still
        have hg3 : (X1.alloc (.cells #[.int .i64 (vN : Int)] 3)).grownBy w3 (some r') := hgrow
        clear hgrow
        obtain ⟨r2, cp2, rfl, hst3, hc3, hf3, hne⟩ := HS1.out.push (show 1 ≤ sp.2.length by omega) hown' hg3
        obtain ⟨vv, hc3⟩ := Option.isSome_iff_exists.1 hc3
        have hs3 := hg3.size
        rw [World.size_alloc] at hs3
        have hsz := HX1.out.2.2.2.1
        have hrX : r' < X1.heap.size := by obtain ⟨cur, h1, _⟩ := HS1.out.blockR; exact (Array.getElem?_eq_some_iff.1 h1).1
        have hrg : w1.heap.size + 1 ≤ r' := by obtain ⟨cur, _, h1, _⟩ := HS1.out.blockR; exact h1
        have hr2g : w1.heap.size + 1 ≤ r2 := by obtain ⟨cur, _, h1, _⟩ := hst3.blockR; exact h1
        have hw1 := HFL.out
        have hf0 := HF0.out
        have hkb3 : KeptB bs X w3 := HX1.out.2.1.trans ((KeptB.alloc _ (fun k hk => by have := hbse k hk; omega)).trans (KeptB.grown hg3 h2 (fun k hk => by have := hbse k hk; rw [World.size_alloc]; omega)))
        have HV : (pre ++ [x]).foldl (fun s x => visit (uN : Int) s x.1.2) s = (sp.1.set vN (du + 1), sp.2 ++ [(vN : Int)]) := HFD.out _ (by
          rw [HVN.out]
          unfold visit
          rw [Int.toNat_natCast, Int.toNat_natCast, if_pos HC.out, HDU.out])
        have hko : KeepsOthers X (w3.setCell ⟨w1.heap.size + 1 + 1, 0, none⟩ (.slice (some ⟨r2, 0, none⟩) (sp.2.length + 1) cp2)) :=
          HX1.out.1.trans ((KeepsOthers.alloc _ _).trans ((KeepsOthers.of_grownBy hg3 (fun j o e ho => by
            cases e
            obtain ⟨cur, h1, _⟩ := HS1.out.blockR
            rw [Below.heap_alloc _ _ _ hrX, h1] at ho
            cases ho
            rfl)).trans (KeepsOthers.setCell _ _ _)))
        have HEND : Hid (KeepsOthers X (w3.setCell ⟨w1.heap.size + 1 + 1, 0, none⟩ (.slice (some ⟨r2, 0, none⟩) (sp.2.length + 1) cp2)) ∧ KeptB bs X (w3.setCell ⟨w1.heap.size + 1 + 1, 0, none⟩ (.slice (some ⟨r2, 0, none⟩) (sp.2.length + 1) cp2)) ∧ r2 ∉ bs ∧ Below w.heap.size w (w3.setCell ⟨w1.heap.size + 1 + 1, 0, none⟩ (.slice (some ⟨r2, 0, none⟩) (sp.2.length + 1) cp2)) ∧
            (w3.setCell ⟨w1.heap.size + 1 + 1, 0, none⟩ (.slice (some ⟨r2, 0, none⟩) (sp.2.length + 1) cp2)).heap[w.heap.size]? = some (.cells #[.int .i64 n, .slice a links.length cap] 58 (0, 0))) := by
          refine ⟨hko, hkb3.trans (KeptB.setCell hPbs _), fun hm => ?_, ?_, ?_⟩
          · rcases hbls2 r2 hm with e | e | e
            · omega
            · refine hne W.heap.size #[.int .i64 n, .slice a links.length cap] 58 ?_ (.inl (by decide)) e.symm
              rw [hkb3.2 _ (by rw [← e]; exact hm), h4.out.2 _ (by rw [← e]; exact hm), hg2]
            · refine hne (W.heap.size + 1) #[.int .i64 (uN : Int)] 3 ?_ (.inr rfl) e.symm
              rw [hkb3.2 _ (by rw [← e]; exact hm), h4.out.2 _ (by rw [← e]; exact hm), hu2]
          · exact ((HX1.out.2.2.1.alloc HX1.out.2.2.1.size _).grown hg3 (by rw [World.size_alloc]; omega) (fun k e => by cases e; omega)).setCell (p := ⟨w1.heap.size + 1 + 1, 0, none⟩) (by show w.heap.size ≤ w1.heap.size + 1 + 1; omega) _
          · rw [Below.heap_setCell _ _ _ _ (by show w.heap.size ≠ w1.heap.size + 1 + 1; omega), hg3.block _ (by rw [World.size_alloc]; omega) (fun e => by cases e; omega), Below.heap_alloc _ _ _ (by omega), HX1.out.2.2.2.2]
            exact h6.out
        have HST3 := hide' hst3
        have HV' := hide' HV
        clear hst3 HV hko hkb3 hne hg3 hown' hs3 hsz hz2 hXl
        gi_wp2
        refine ⟨HEND.out.1, HEND.out.2.1, r2, ⟨cp2, ?_⟩, HEND.out.2.2.1, HEND.out.2.2.2.1, h4.out.trans HEND.out.2.1, Nat.le_trans h5.out HEND.out.2.1.1, HEND.out.2.2.2.2, h7.out.kept (fun k o hk ho => HEND.out.1.same k o hk ho)⟩
        rw [HV'.out]
        exact HST3
      · obtain ⟨y, hy⟩ : ∃ y, y = sp.1.getD vN 0 := ⟨_, rfl⟩
        rw [← hy] at cV hc
        have HV := hide' (hfold sp (by
          rw [hvN]
          unfold visit
          rw [Int.toNat_natCast, ← hy, if_neg hc]))
        clear hy hvN hfold hgp hpx hsp hRi hz2
        gi_wp2
        refine ⟨KeepsOthers.refl _, KeptB.refl _ _, r', cp', ?_, h2, h3, h4, h5, h6, h7⟩
        rw [HV.out]
        exact h1
  · gi_wp2_with fail
    have HFin : Hid (s.1 = farL n links (b' : Int)) := by
      have h1 := HF.out
      have h2 := HG.out.le
      obtain ⟨f, rfl⟩ : ∃ f, g = f + 1 := ⟨g - 1, by omega⟩
      rw [bfs, if_neg hlt] at h1
      exact h1
    refine leaves_marks L W HM.out ?_
    intro W' h1 h2 h3 h4 h5
    have hFL : F ∉ L := fun hm => by
      have e1 := HM.out.2 F hm
      rw [HS.out.hF] at e1
      cases e1
    refine ⟨_, results_tmp rfl _ _ _, F, rfl, by have := HF0.out; omega, ?_, ?_⟩
    · rw [h5 F hFL, HS.out.hF, HFin.out]
    · refine ⟨h2.trans HBW.out.os, h3.trans HBW.out.tape, h4.trans HBW.out.output, by rw [← h1]; exact HBW.out.size, fun k hk => ?_⟩
      rw [h5 k (fun hm => by have := HL.out k hm; omega)]
      exact HBW.out.block k hk
end Go.Proofs.YtjcpcjickdcpmacGreatDoor.Bar
