/- WaterKept. -/
import Derived.Test.YtlijlbjplphpfakWe
namespace Go.Proofs.Ytlijlbjplphpfak
open Go.RowKit Go.Shelf

/-- All that lies there while the law looks at it. -/
structure KW (w W : World) (ls : List LakeM) (ti tr lv sp : List (List Int)) (al ai ao a1 a2 : Option Addr) (L H cl ci co c1 c2 : Nat) : Prop where
  l : RowAt W (.slice al L cl) ls.length 5 (ls.flatMap LakeM.cells)
  i : TabAt W (.slice ai H ci) ti
  o : TabAt W (.slice ao H co) tr
  v : TabAt W (.slice a1 H c1) lv
  s : TabAt W (.slice a2 H c2) sp
  bel : Below w.heap.size w W
theorem KW.more {w W W' : World} {ls : List LakeM} {ti tr lv sp : List (List Int)} {al ai ao a1 a2 : Option Addr} {L H cl ci co c1 c2 : Nat} (h : KW w W ls ti tr lv sp al ai ao a1 a2 L H cl ci co c1 c2) (hb : Below W.heap.size W W') : KW w W' ls ti tr lv sp al ai ao a1 a2 L H cl ci co c1 c2 :=
  ⟨h.l.below hb (Nat.le_refl _), h.i.below hb (Nat.le_refl _), h.o.below hb (Nat.le_refl _), h.v.below hb (Nat.le_refl _), h.s.below hb (Nat.le_refl _), h.bel.trans (hb.mono h.bel.size)⟩
def startSum (ls : List LakeM) (k : Nat) : Int := (if 0 < k then (lkD ls 0).start else 0) + (if 1 < k then (lkD ls 1).start else 0)
theorem sum_step {ls : List LakeM} {k : Nat} (hk : k < 2) : startSum ls (k + 1) = startSum ls k + (lkD ls k).start := by
  have : k = 0 ∨ k = 1 := by omega
  rcases this with rfl | rfl <;> unfold startSum <;> simp
theorem sum_start {ls : List LakeM} {L : Nat} : startSum ls L = (startS ls L).l0 + (startS ls L).l1 := rfl
theorem sum_bound {ls : List LakeM} {L k : Nat} (hok : ∀ k ∈ ls, LakeOk k) (hl : ls.length = L) (hk : k ≤ L) : 0 ≤ startSum ls k ∧ startSum ls k ≤ 40 := by
  unfold startSum
  have h0 : 0 ≤ (if 0 < k then (lkD ls 0).start else 0) ∧ (if 0 < k then (lkD ls 0).start else 0) ≤ 20 := by
    split
    · have ok := lkD_ok hok (i := 0) (by omega)
      have := ok.l; have := ok.s; have := ok.m; have := ok.x; omega
    · omega
  have h1 : 0 ≤ (if 1 < k then (lkD ls 1).start else 0) ∧ (if 1 < k then (lkD ls 1).start else 0) ≤ 20 := by
    split
    · have ok := lkD_ok hok (i := 1) (by omega)
      have := ok.l; have := ok.s; have := ok.m; have := ok.x; omega
    · omega
  omega
/-- The hours so far add up. -/
structure HB (ls : List LakeM) (L : Nat) (ti tr : List (List Int)) (h : Nat) (s : Stnd) (hv gn : Int) : Prop where
  run : ∃ lv sp, runK ls L ti tr h = some ⟨s, lv, sp⟩
  good : Good ls L s
  eq : hv = s.l0 + s.l1 + s.u1 + gn
  gn0 : 0 ≤ gn
  top : hv ≤ 40 + 20 * (h : Int)
theorem sums_bound {L i h : Nat} {ls : List LakeM} {ti tr : List (List Int)} {s : Stnd} {ha hg n0 n1 v0 v1 r0 r1 i0 i1 a b c d : Int} (hok : ∀ k ∈ ls, LakeOk k) (hl : ls.length = L) (hL : L ≤ 2) (hh : h ≤ 8) (H : HB ls L ti tr h s ha hg) (f0 : 0 < L → LakeF (lkD ls 0) n0 v0 r0 i0 s.l0) (f1 : 1 < L → LakeF (lkD ls 1) n1 v1 r1 i1 (s.l1 + s.u1)) (g0 : 0 < L → 0 ≤ i0 ∧ i0 ≤ 10) (g1 : 1 < L → 0 ≤ i1 ∧ i1 ≤ 10) (hi : i ≤ L) (S : Sums L i ha hg n0 n1 v0 v1 r0 r1 i0 i1 a b c d) : (0 ≤ a ∧ a ≤ 4000) ∧ (0 ≤ b ∧ b ≤ 4000) ∧ (0 ≤ c ∧ c ≤ 4000) ∧ (0 ≤ d ∧ d ≤ 4000) := by
  have hb := good_bounds hok hl H.good
  have h1 := H.eq; have h2 := H.gn0; have h3 := H.top
  have hi3 : i = 0 ∨ i = 1 ∨ i = 2 := by omega
  obtain ⟨s0, s1, s2⟩ := S
  rcases hi3 with rfl | rfl | rfl
  · have q := s0 rfl
    omega
  · have q := s1 rfl
    have F := f0 (by omega)
    have k1 := F.le; have k2 := F.mo; have k3 := F.v0; have k5 := F.eq; have k6 := F.r0; have k7 := F.k0
    have k8 := g0 (by omega)
    have hL2 : L = 1 ∨ L = 2 := by omega
    rcases hL2 with e | e
    · have := q.2.2.1 e; omega
    · have := q.2.2.2 e; omega
  · have q := s2 rfl
    have F := f0 (by omega)
    have G := f1 (by omega)
    have k1 := F.le; have k2 := F.mo; have k3 := F.v0; have k5 := F.eq; have k6 := F.r0; have k7 := F.k0
    have m1 := G.le; have m2 := G.mo; have m3 := G.v0; have m5 := G.eq; have m6 := G.r0; have m7 := G.k0
    have k8 := g0 (by omega)
    have m8 := g1 (by omega)
    omega
theorem sums_end {L h : Nat} {ls : List LakeM} {ti tr : List (List Int)} {s : Stnd} {ha hg n0 n1 n2 n3 v0 v1 r0 r1 i0 i1 a b c d : Int} (hL : L ≤ 2) (H : HB ls L ti tr h s ha hg) (f0 : 0 < L → LakeF (lkD ls 0) n0 v0 r0 i0 s.l0) (f1 : 1 < L → LakeF (lkD ls 1) n1 v1 r1 i1 (s.l1 + s.u1)) (f2 : 1 < L → n3 = r0 + v0) (G' : Good ls L ⟨n0, n1, n2, n3⟩) (g0 : 0 < L → 0 ≤ i0 ∧ i0 ≤ 10) (g1 : 1 < L → 0 ≤ i1 ∧ i1 ≤ 10) (S : Sums L L ha hg n0 n1 v0 v1 r0 r1 i0 i1 a b c d) : c + d + b = a ∧ a = n0 + n1 + n3 + b ∧ 0 ≤ b ∧ a ≤ 40 + 20 * ((h + 1 : Nat) : Int) := by
  have h1 := H.eq; have h2 := H.gn0; have h3 := H.top
  have hi3 : L = 0 ∨ L = 1 ∨ L = 2 := by omega
  obtain ⟨s0, s1, s2⟩ := S
  have ga := G'.a'; have gb := G'.b'; have gv := G'.v'
  have pa := H.good.a'; have pb := H.good.b'; have pv := H.good.v'
  simp only at ga gb gv
  rcases hi3 with rfl | rfl | rfl
  · have q := s0 rfl
    have := ga (by omega); have := gb (by omega); have := gv (by omega); have := pa (by omega); have := pb (by omega); have := pv (by omega)
    omega
  · have q := s1 rfl
    have F := f0 (by omega)
    have k3 := F.v0; have k5 := F.eq; have k6 := F.r0
    have k8 := g0 (by omega)
    have := q.2.2.1 rfl
    have := gb (by omega); have := gv (by omega); have := pb (by omega); have := pv (by omega)
    omega
  · have q := s2 rfl
    have F := f0 (by omega)
    have G := f1 (by omega)
    have k3 := F.v0; have k5 := F.eq; have k6 := F.r0
    have m3 := G.v0; have m5 := G.eq; have m6 := G.r0
    have k8 := g0 (by omega)
    have m8 := g1 (by omega)
    have := f2 (by omega)
    omega
theorem sums_way {L : Nat} {ha hg n0 n1 v0 v1 r0 r1 i0 i1 a b c d : Int} (h : 1 < L) (hL : L ≤ 2) (S : Sums L 0 ha hg n0 n1 v0 v1 r0 r1 i0 i1 a b c d) : Sums L 1 ha hg n0 n1 v0 v1 r0 r1 i0 i1 (a + i0) b (c + n0) (d + (r0 + v0)) := by
  have q := S.1 rfl
  exact ⟨fun e => by omega, fun _ => ⟨by omega, by omega, fun e => by omega, fun _ => ⟨by omega, by omega⟩⟩, fun e => by omega⟩
theorem sums_gone0 {L : Nat} {ha hg n0 n1 v0 v1 r0 r1 i0 i1 a b c d : Int} (h : L = 1) (S : Sums L 0 ha hg n0 n1 v0 v1 r0 r1 i0 i1 a b c d) : Sums L 1 ha hg n0 n1 v0 v1 r0 r1 i0 i1 (a + i0) (b + (r0 + v0)) (c + n0) d := by
  have q := S.1 rfl
  exact ⟨fun e => by omega, fun _ => ⟨by omega, by omega, fun _ => ⟨by omega, by omega⟩, fun e => by omega⟩, fun e => by omega⟩
theorem sums_gone1 {L : Nat} {ha hg n0 n1 v0 v1 r0 r1 i0 i1 a b c d : Int} (h : L = 2) (S : Sums L 1 ha hg n0 n1 v0 v1 r0 r1 i0 i1 a b c d) : Sums L 2 ha hg n0 n1 v0 v1 r0 r1 i0 i1 (a + i1) (b + (r1 + v1)) (c + n1) d := by
  have q := S.2.1 rfl
  have q2 := q.2.2.2 h
  exact ⟨fun e => by omega, fun e => by omega, fun _ => ⟨by omega, by omega, by omega, by omega⟩⟩
theorem row_len {t : List (List Int)} {H L h : Nat} {p : Int → Prop} (ht : t.length = H ∧ ∀ l ∈ t, l.length = L ∧ ∀ x ∈ l, p x) (hh : h < H) : (t.getD h []).length = L := by
  rw [getD_at (by rw [ht.1]; exact hh)]
  exact (ht.2 _ (List.getElem_mem _)).1
set_option maxRecDepth 100000 in
set_option maxHeartbeats 8000000 in
theorem WaterKept_any (raw : List RawL) (hours : Int) (ri ro : List Int) (vr vi vo : Value) (w : World) (hx : RowAt w vr raw.length 5 (raw.flatMap RawL.cells)) (hI : ∀ d ∈ raw, I6 d.least ∧ I6 d.start ∧ I6 d.most ∧ I6 d.turb ∧ I6 d.worth) (hh : I6 hours) (hri : RowAt w vi ri.length 1 (ints ri)) (hii : ∀ x ∈ ri, I6 x) (hro : RowAt w vo ro.length 1 (ints ro)) (hoi : ∀ x ∈ ro, I6 x) (b1 : raw.length ≤ 9000000000000000000) (b2 : ri.length ≤ 9000000000000000000) (b3 : ro.length ≤ 9000000000000000000) :
    Calls Try.prog 4 #[vr, .int .i64 hours, vi, vo] w fun e w' => e = .returned (.bool true) ∧ Below w.heap.size w w' := by
  obtain ⟨H, hH, hpk⟩ := picked_is hours 9 hh (by decide) (by decide)
  have HPK : Hid (∀ w : World, Calls Try.prog 6 #[.int .i64 hours, .int .i64 9] w fun e w' => e = .returned (.int .i64 (H : Int)) ∧ w' = w) := hpk
  have HLF := hide' (lakesFrom_any raw vr w hx hI b1)
  have HTI : Hid (∀ (W : World) (L : Nat), Below w.heap.size w W → L ≤ 2 → Calls Try.prog 7 #[vi, .int .i64 (H : Int), .int .i64 (L : Int), .int .i64 11] W fun e w' => ∃ (t : List (List Int)) (v' : Value), e = .returned v' ∧ t.length = H ∧ (∀ l ∈ t, l.length = L ∧ ∀ x ∈ l, 0 ≤ x ∧ x < (11 : Nat)) ∧ StepsAt w' W.heap.size v' t ∧ Below W.heap.size W w') := fun W L hb hL => tableFrom_any ri vi H L 11 W (hri.below hb (Nat.le_refl _)) hii b2 (by omega) hL (by decide) (by decide)
  have HTO : Hid (∀ (W : World) (L : Nat), Below w.heap.size w W → L ≤ 2 → Calls Try.prog 7 #[vo, .int .i64 (H : Int), .int .i64 (L : Int), .int .i64 3] W fun e w' => ∃ (t : List (List Int)) (v' : Value), e = .returned v' ∧ t.length = H ∧ (∀ l ∈ t, l.length = L ∧ ∀ x ∈ l, 0 ≤ x ∧ x < (3 : Nat)) ∧ StepsAt w' W.heap.size v' t ∧ Below W.heap.size W w') := fun W L hb hL => tableFrom_any ro vo H L 3 W (hro.below hb (Nat.le_refl _)) hoi b3 (by omega) hL (by decide) (by decide)
  clear hpk hx hI hri hii hro hoi b1 b2 b3 hh
  go_enter Try.func4, Try.ntmps4
  go_wp2_with fail
  refine HLF.out.mono ?_
  rintro e w1 ⟨ls, v1, rfl, hl2, hok, hown, hb1⟩
  obtain ⟨al, cl, hal⟩ := own_slice hown
  subst hal
  obtain ⟨L, hL⟩ : ∃ x, x = ls.length := ⟨_, rfl⟩
  have HLL := hide' hL.symm
  have HOK := hide' hok
  have HR1 : Hid (RowAt w1 (.slice al L cl) ls.length 5 (ls.flatMap LakeM.cells)) := by rw [hL]; exact rowAt_of_own hown
  have HB1 := hide' hb1
  rw [← hL] at hl2 ⊢
  clear hown hb1 hok hL HLF
  go_wp2_with fail
  refine (HPK.out _).mono ?_
  rintro e w2 ⟨rfl, hw2⟩
  obtain rfl := hw2.symm
  have HT1 := hide' (HTI.out w1 L HB1.out hl2)
  clear hw2 HPK HTI
  go_wp2_with fail
  refine HT1.out.mono ?_
  rintro e w3 ⟨ti, v3, rfl, hti, hiL, hst, hb3⟩
  obtain ⟨ai, ci, hai⟩ := hst.slice
  subst hai
  rw [hti] at hst ⊢
  have HI3 := hide' hst.tab
  have HIL := hide' (And.intro hti hiL)
  have HB3 : Hid (Below w.heap.size w w3) := HB1.out.trans (hb3.mono HB1.out.size)
  have HR3 := hide' (HR1.out.below hb3 (Nat.le_refl _))
  have HT2 := hide' (HTO.out w3 L HB3.out hl2)
  clear hti hiL hst hb3 HT1 HTO HR1 HB1
  go_wp2_with fail
  refine HT2.out.mono ?_
  rintro e w4 ⟨tr, v4, rfl, htr, hrL, hst, hb4⟩
  obtain ⟨ao, co, hao⟩ := hst.slice
  subst hao
  rw [htr] at hst ⊢
  have HO4 := hide' hst.tab
  have HOL := hide' (And.intro htr hrL)
  have HB4 : Hid (Below w.heap.size w w4) := HB3.out.trans (hb4.mono HB3.out.size)
  have HR4 := hide' (HR3.out.below hb4 (Nat.le_refl _))
  have HI4 := hide' (HI3.out.below hb4 (Nat.le_refl _))
  clear htr hrL hst hb4 HT2 HR3 HI3 HB3
  have HRUN : Hid (Calls Try.prog 10 #[.slice al L cl, .slice ai H ci, .slice ao H co] w4 fun e w' => ((runK ls L ti tr H = none ∧ e = .returned (.tuple #[.slice none 0 0, .slice none 0 0, .int .i64 15])) ∨ ∃ r a1 c1 a2 c2, runK ls L ti tr H = some r ∧ e = .returned (.tuple #[.slice a1 H c1, .slice a2 H c2, .int .i64 0]) ∧ TabAt w' (.slice a1 H c1) r.lv ∧ TabAt w' (.slice a2 H c2) r.sp) ∧ Below w4.heap.size w4 w') := by
    have h := Run_any ls ti tr al ai ao cl ci co w4 (by have h := HR4.out; rw [← HLL.out] at h; exact h) (by rw [HIL.out.1]; exact HI4.out) (by rw [HOL.out.1]; exact HO4.out) (by rw [HLL.out]; omega) (by rw [HIL.out.1]; omega) (by rw [HOL.out.1]; omega) (fun l hl => by rw [(HIL.out.2 l hl).1]; omega)
    rw [HLL.out, HIL.out.1, HOL.out.1] at h
    refine h.mono ?_
    rintro e w' ⟨hc, hb⟩
    refine ⟨?_, hb⟩
    have z1 : sizeOk ls.length ti tr = true := by
      unfold sizeOk
      rw [HLL.out, sized_iff.2 ⟨hl2, by rw [HIL.out.1]; omega, fun l hl => (HIL.out.2 l hl).1⟩, sized_iff.2 ⟨hl2, by rw [HOL.out.1]; omega, fun l hl => (HOL.out.2 l hl).1⟩, HIL.out.1, HOL.out.1]
      simp
    have z2 : ls.all lakeB = true := List.all_eq_true.2 fun k hk => lakeB_iff.2 (HOK.out k hk)
    have z3 : comeB ti = true := come_iff.2 fun l hl x hx => by have := (HIL.out.2 l hl).2 x hx; omega
    rcases hc with ⟨q, _⟩ | ⟨_, q, _⟩ | ⟨_, _, q, _⟩ | ⟨_, _, _, q⟩
    · rw [z1] at q; cases q
    · rw [z2] at q; cases q
    · rw [z3] at q; cases q
    · rw [HLL.out, HIL.out.1] at q
      rcases q with q | ⟨r, u1, u2, q1, rfl, q3, q4⟩
      · exact .inl q
      · obtain ⟨e1, e2⟩ := run_len q1
        obtain ⟨a1, c1, rfl⟩ := q3.slice
        obtain ⟨a2, c2, rfl⟩ := q4.slice
        rw [e1] at q3 ⊢
        rw [e2] at q4 ⊢
        exact .inr ⟨r, a1, c1, a2, c2, q1, rfl, q3.tab, q4.tab⟩
  go_wp2_with fail
  refine HRUN.out.mono ?_
  rintro e w5 ⟨hcase, hb5⟩
  have HB5 : Hid (Below w.heap.size w w5) := HB4.out.trans (hb5.mono HB4.out.size)
  rcases hcase with ⟨_, rfl⟩ | ⟨r, a1, c1, a2, c2, hrun, rfl, hv1, hv2⟩
  · clear hb5 HRUN
    go_wp2
    go_ret
    exact ⟨rfl, HB5.out⟩
  · have HK5 : Hid (KW w w5 ls ti tr r.lv r.sp al ai ao a1 a2 L H cl ci co c1 c2) := ⟨HR4.out.below hb5 (Nat.le_refl _), HI4.out.below hb5 (Nat.le_refl _), HO4.out.below hb5 (Nat.le_refl _), hv1, hv2, HB5.out⟩
    have HRN := hide' hrun
    clear hb5 HRUN hv1 hv2 HB5 HR4 HI4 HO4 HB4 hrun
    go_upto_block 0 with fail
    go_cut [16, 18] from 69 to 81 (fun p _ wc => ∃ q : Int, p = .int .i64 q ∧ Hid (q = startSum ls L) ∧ wc = w5)
    case first =>
      go_wp2_with fail
      go_loopw [16, 18] (fun s i wr => ∃ (k : Nat) (q : Int), s = .int .i64 q ∧ i = .int .i64 k ∧ k ≤ L ∧ Hid (q = startSum ls k) ∧ wr = w5) (fun _ i _ => L - (intOf i).toNat)
      case atStart => exact ⟨0, 0, rfl, rfl, Nat.zero_le _, rfl, rfl⟩
      case round =>
        obtain ⟨k, q, rfl, rfl, hk, HQ, rfl⟩ := hrel
        by_cases hlt : k < L
        · obtain ⟨lb, lo, rfl, _, c0, c1', c2', c3, c4⟩ := lake_cells HK5.out.l (k := k) (by rw [HLL.out]; exact hlt)
          have hbd := sum_bound HOK.out HLL.out (k := k) (by omega)
          rw [← HQ.out] at hbd
          have ok := lkD_ok HOK.out (i := k) (by rw [HLL.out]; exact hlt)
          have hsb : 0 ≤ (lkD ls k).start ∧ (lkD ls k).start ≤ 20 := by have := ok.l; have := ok.s; have := ok.m; have := ok.x; omega
          have HQ2 : Hid (q + (lkD ls k).start = startSum ls (k + 1)) := by show _ = _; rw [sum_step (by omega), HQ.out]
          obtain ⟨st, hst⟩ : ∃ x, x = (lkD ls k).start := ⟨_, rfl⟩
          rw [← hst] at c2' hsb HQ2
          clear c0 c1' c3 c4 ok hst
          go_wp2_with fail
          go_roundw
          case rel => exact ⟨k + 1, q + st, by go_num, by go_num, by omega, HQ2.out, trivial⟩
          case measure => simp [intOf]; omega
        · obtain rfl : k = L := by omega
          go_wp2_with fail
          go_meet
          case rel => exact ⟨q, rfl, HQ, rfl⟩
    case rest =>
      obtain ⟨q0, rfl, HQ0, hwc⟩ := hcut
      have HKC : Hid (KW w wc ls ti tr r.lv r.sp al ai ao a1 a2 L H cl ci co c1 c2) := by rw [hwc]; exact HK5.out
      have HIN : Hid (∀ h, h < H → ∀ i, i < L → 0 ≤ (ti.getD h []).getD i 0 ∧ (ti.getD h []).getD i 0 ≤ 10) := fun h hh i hi => by
        have e : ti.getD h [] ∈ ti := by rw [getD_at (by rw [HIL.out.1]; exact hh)]; exact List.getElem_mem _
        have e2 := (HIL.out.2 _ e).1
        have := (HIL.out.2 _ e).2 ((ti.getD h []).getD i 0) (by rw [List.getD_eq_getElem?_getD (l := ti.getD h []), List.getElem?_eq_getElem (by omega)]; exact List.getElem_mem _)
        omega
      have H0 : Hid (HB ls L ti tr 0 (startS ls L) q0 0) := ⟨⟨[], [], rfl⟩, good_start HOK.out HLL.out, by rw [HQ0.out, sum_start]; show _ = _ + _ + (0 : Int) + 0; omega, Int.le_refl _, by have := sum_bound HOK.out HLL.out (k := L) (Nat.le_refl _); have := HQ0.out; omega⟩
      clear hwc HK5 HQ0
      go_wp2_with fail
      go_loopw [16, 17, 19] (fun hv gn hi wr => ∃ (h : Nat) (s : Stnd) (a b : Int), hv = .int .i64 a ∧ gn = .int .i64 b ∧ hi = .int .i64 h ∧ h ≤ H ∧ Hid (HB ls L ti tr h s a b) ∧ Hid (KW w wr ls ti tr r.lv r.sp al ai ao a1 a2 L H cl ci co c1 c2)) (fun _ _ hi _ => H - (intOf hi).toNat)
      case atStart => exact ⟨0, startS ls L, q0, 0, rfl, rfl, rfl, Nat.zero_le _, H0, HKC⟩
      case round =>
        obtain ⟨h, s, ha, hg, rfl, rfl, rfl, hh, HH, HW⟩ := hrel
        by_cases hlt : h < H
        · obtain ⟨q, hq1, hq2, hq3, hq4⟩ := run_at HRN.out h hlt
          obtain ⟨lv0, sp0, hrun0⟩ := HH.out.run
          have hqs : q.s = s := by rw [hrun0] at hq1; cases hq1; rfl
          rw [hqs] at hq2 hq3 hq4
          have HF := hour_facts HOK.out HLL.out hl2 (HIN.out h hlt) HH.out.good hq2
          have HNG := good_hour HOK.out HLL.out hl2 (HIN.out h hlt) HH.out.good hq2
          have hnx := run_next hrun0 hq2
          have hin := HIN.out h hlt
          obtain ⟨⟨n0, n1, n2, n3⟩, hn⟩ : ∃ x, x = hourS ls L s (ti.getD h []) (tr.getD h []) := ⟨_, rfl⟩
          obtain ⟨⟨v0, v1⟩, hv⟩ : ∃ x, x = hourV ls L s (ti.getD h []) (tr.getD h []) := ⟨_, rfl⟩
          rw [← hn] at HF HNG hq3 hnx
          rw [← hv] at HF hq4 hnx
          obtain ⟨i0, hi0⟩ : ∃ x, x = (ti.getD h []).getD 0 0 := ⟨_, rfl⟩
          obtain ⟨i1, hi1⟩ : ∃ x, x = (ti.getD h []).getD 1 0 := ⟨_, rfl⟩
          obtain ⟨r0, hr0⟩ : ∃ x, x = (tr.getD h []).getD 0 0 := ⟨_, rfl⟩
          obtain ⟨r1, hr1⟩ : ∃ x, x = (tr.getD h []).getD 1 0 := ⟨_, rfl⟩
          rw [← hi0, ← hi1, ← hr0, ← hr1] at HF
          have HG0 : Hid (0 < L → 0 ≤ i0 ∧ i0 ≤ 10) := fun hz => by rw [hi0]; exact hin 0 hz
          have HG1 : Hid (1 < L → 0 ≤ i1 ∧ i1 ≤ 10) := fun hz => by rw [hi1]; exact hin 1 hz
          have HF0 : Hid (0 < L → LakeF (lkD ls 0) n0 v0 r0 i0 s.l0) := HF.1
          have HF1 : Hid (1 < L → LakeF (lkD ls 1) n1 v1 r1 i1 (s.l1 + s.u1)) := HF.2.1
          have HF2 : Hid (1 < L → n3 = r0 + v0) := HF.2.2
          have HGO := hide' HNG
          have HNX : Hid (∃ lv sp, runK ls L ti tr (h + 1) = some ⟨⟨n0, n1, n2, n3⟩, lv, sp⟩) := ⟨_, _, hnx⟩
          have HLV : Hid (r.lv.getD h [] = listOf n0 n1 L) := hq3
          have HSP : Hid (r.sp.getD h [] = listOf v0 v1 L) := hq4
          have HLN := hide' (run_len HRN.out)
          have HGB := hide' (good_bounds HOK.out HLL.out HH.out.good)
          have HIR : Hid (i0 = (ti.getD h []).getD 0 0 ∧ i1 = (ti.getD h []).getD 1 0 ∧ r0 = (tr.getD h []).getD 0 0 ∧ r1 = (tr.getD h []).getD 1 0) := ⟨hi0, hi1, hr0, hr1⟩
          clear hq1 hq2 hq3 hq4 hrun0 hqs HF HNG hnx hin hn hv hi0 hi1 hr0 hr1
          go_upto_block 4 with fail
          go_cut [16, 17, 20, 21, 22] from 87 to 212 (fun hv gn nw wy _ wc => ∃ (a b c d : Int), hv = .int .i64 a ∧ gn = .int .i64 b ∧ nw = .int .i64 c ∧ wy = .int .i64 d ∧ Hid (Sums L L ha hg n0 n1 v0 v1 r0 r1 i0 i1 a b c d) ∧ Hid (KW w wc ls ti tr r.lv r.sp al ai ao a1 a2 L H cl ci co c1 c2))
          case first =>
            as_aux_lemma =>
              go_wp2_with fail
              go_loopw [16, 17, 20, 21, 22] (fun hv gn nw wy iv wr => ∃ (i : Nat) (a b c d : Int), hv = .int .i64 a ∧ gn = .int .i64 b ∧ nw = .int .i64 c ∧ wy = .int .i64 d ∧ iv = .int .i64 i ∧ i ≤ L ∧ Hid (Sums L i ha hg n0 n1 v0 v1 r0 r1 i0 i1 a b c d) ∧ Hid (KW w wr ls ti tr r.lv r.sp al ai ao a1 a2 L H cl ci co c1 c2)) (fun _ _ _ _ iv _ => L - (intOf iv).toNat)
              case atStart => exact ⟨0, ha, hg, 0, 0, rfl, rfl, rfl, rfl, rfl, Nat.zero_le _, ⟨fun _ => ⟨rfl, rfl, rfl, rfl⟩, ⟨fun e => absurd e (by decide), fun e => absurd e (by decide)⟩⟩, HW⟩
              case round =>
                obtain ⟨i, a, b, c, d, rfl, rfl, rfl, rfl, rfl, hi, HS, HV⟩ := hrel
                by_cases hil : i < L
                · obtain ⟨hi0, hi1, hr0, hr1⟩ := HIR.out
                  have hi2 : i = 0 ∨ i = 1 := by omega
                  rcases hi2 with rfl | rfl
                  · obtain ⟨vb, vo, vc, vp, vq, eav, tv, uv⟩ := tab_cell2 HV.out.v (h := h) (i := 0) (L := L) (by rw [HLN.out.1]; exact hlt) (by rw [HLV.out]; exact list_len _ _ hl2) hil
                    obtain ⟨sb, so, sc, sp', sq, eas, ts, us⟩ := tab_cell2 HV.out.s (h := h) (i := 0) (L := L) (by rw [HLN.out.2]; exact hlt) (by rw [HSP.out]; exact list_len _ _ hl2) hil
                    obtain ⟨ib, io, ic, ip, iq, eai, tii, ui⟩ := tab_cell2 HV.out.i (h := h) (i := 0) (L := L) (by rw [HIL.out.1]; exact hlt) (row_len HIL.out hlt) hil
                    obtain ⟨ob, oo, oc, op', oq, eao, to', uo⟩ := tab_cell2 HV.out.o (h := h) (i := 0) (L := L) (by rw [HOL.out.1]; exact hlt) (row_len HOL.out hlt) hil
                    obtain ⟨lb, lo, eal, _, q0, q1, _, _, _⟩ := lake_cells HV.out.l (k := 0) (by rw [HLL.out]; exact hil)
                    rw [HLV.out, list_at0 _ _ hil] at uv
                    rw [HSP.out, list_at0 _ _ hil] at us
                    rw [← hi0] at ui
                    rw [← hr0] at uo
                    clear hi0 hi1 hr0 hr1
                    subst eav eas eai eao eal
                    have F := HF0.out hil
                    have k1 := F.le; have k2 := F.mo; have k3 := F.v0; have k4 := F.fl; have k6 := F.r0; have k7 := F.k0
                    have hvb : v0 ≤ 1000 := by have k5 := F.eq; have hgb := HGB.out; have hg0 := HG0.out hil; omega
                    have hsb := sums_bound HOK.out HLL.out hl2 (by omega) HH.out HF0.out HF1.out HG0.out HG1.out (by omega) HS.out
                    have hib := HG0.out hil
                    obtain ⟨le, hle⟩ : ∃ x, x = (lkD ls 0).least := ⟨_, rfl⟩
                    obtain ⟨mo, hmo⟩ : ∃ x, x = (lkD ls 0).most := ⟨_, rfl⟩
                    rw [← hle] at q0 k1 k7
                    rw [← hmo] at q1 k2 k4 k7
                    clear hle hmo F
                    simp only [Nat.add_zero] at uv us ui uo
                    simp only [Nat.zero_mul, Nat.add_zero] at q0 q1
                    have HC : Hid (∀ m, (wr.drewN m).cell? ⟨ib, io + h, none⟩ = some (.slice (some ⟨ip, iq, none⟩) L ic) ∧ (wr.drewN m).cell? ⟨ip, iq + 0, none⟩ = some (.int .i64 i0) ∧ (wr.drewN m).cell? ⟨vb, vo + h, none⟩ = some (.slice (some ⟨vp, vq, none⟩) L vc) ∧ (wr.drewN m).cell? ⟨vp, vq + 0, none⟩ = some (.int .i64 n0) ∧ (wr.drewN m).cell? ⟨sb, so + h, none⟩ = some (.slice (some ⟨sp', sq, none⟩) L sc) ∧ (wr.drewN m).cell? ⟨sp', sq + 0, none⟩ = some (.int .i64 v0) ∧ (wr.drewN m).cell? ⟨ob, oo + h, none⟩ = some (.slice (some ⟨op', oq, none⟩) L oc) ∧ (wr.drewN m).cell? ⟨op', oq + 0, none⟩ = some (.int .i64 r0)) := fun m => ⟨tii, ui, tv, uv, ts, us, to', uo⟩
                    have HKN := hide' (fun m => HV.out.more (below_drewN (Below.refl _ wr) m))
                    clear HV
                    go_upto_region 21 with fail
                    go_cut [155] from 93 to 154 (fun p wc => p = .bool false ∧ ∃ m, wc = wr.drewN m)
                    case first =>
                      as_aux_lemma =>
                        clear HC HKN tii ui to' uo
                        have n1' : ¬ n0 < le := by omega
                        have n2' : ¬ mo < n0 := by omega
                        have n3' : ¬ v0 < 0 := by omega
                        by_cases hV : 0 < v0
                        · have n4' := k4 hV
                          clear k4 hsb
                          go_quiet (fail)
                          go_wp2_with fail
                          go_meet
                          case rel => exact ⟨rfl, _, rfl⟩
                        · clear k4 hsb
                          go_quiet (fail)
                          go_wp2_with fail
                          go_meet
                          case rel => exact ⟨rfl, _, rfl⟩
                    case rest =>
                      as_aux_lemma =>
                        obtain ⟨rfl, m, hwc⟩ := hcut
                        obtain ⟨c1', c2', c3', c4', c5', c6', c7', c8'⟩ := HC.out m
                        have HKM := hide' (HKN.out m)
                        rw [← hwc] at c1' c2' c3' c4' c5' c6' c7' c8' HKM
                        clear HC HKN tii ui tv uv ts us to' uo q0 q1 hwc k4
                        simp only [Nat.add_zero] at c2' c4' c6' c8'
                        have HKD := hide' (fun m => HKM.out.more (below_drewN (Below.refl _ wc) m))
                        by_cases h2 : L = 2
                        · have HS2 := hide' (sums_way (by omega) hl2 HS.out)
                          clear HS
                          subst h2
                          go_upto_region 26 with fail
                          go_quiet (fail)
                          go_wp2_with fail
                          go_roundw
                          case rel => exact ⟨1, _, _, _, _, rfl, rfl, rfl, rfl, by go_num, by omega, HS2, HKD.out _⟩
                          case measure => simp [intOf]
                        · have h1 : L = 1 := by omega
                          have HS2 := hide' (sums_gone0 h1 HS.out)
                          clear HS h2
                          subst h1
                          go_upto_region 27 with fail
                          go_quiet (fail)
                          go_wp2_with fail
                          go_roundw
                          case rel => exact ⟨1, _, _, _, _, rfl, rfl, rfl, rfl, by go_num, by omega, HS2, HKD.out _⟩
                          case measure => simp [intOf]
                  · obtain ⟨vb, vo, vc, vp, vq, eav, tv, uv⟩ := tab_cell2 HV.out.v (h := h) (i := 1) (L := L) (by rw [HLN.out.1]; exact hlt) (by rw [HLV.out]; exact list_len _ _ hl2) hil
                    obtain ⟨sb, so, sc, sp', sq, eas, ts, us⟩ := tab_cell2 HV.out.s (h := h) (i := 1) (L := L) (by rw [HLN.out.2]; exact hlt) (by rw [HSP.out]; exact list_len _ _ hl2) hil
                    obtain ⟨ib, io, ic, ip, iq, eai, tii, ui⟩ := tab_cell2 HV.out.i (h := h) (i := 1) (L := L) (by rw [HIL.out.1]; exact hlt) (row_len HIL.out hlt) hil
                    obtain ⟨ob, oo, oc, op', oq, eao, to', uo⟩ := tab_cell2 HV.out.o (h := h) (i := 1) (L := L) (by rw [HOL.out.1]; exact hlt) (row_len HOL.out hlt) hil
                    obtain ⟨lb, lo, eal, _, q0, q1, _, _, _⟩ := lake_cells HV.out.l (k := 1) (by rw [HLL.out]; exact hil)
                    rw [HLV.out, list_at1 _ _ hil] at uv
                    rw [HSP.out, list_at1 _ _ hil] at us
                    rw [← hi1] at ui
                    rw [← hr1] at uo
                    clear hi0 hi1 hr0 hr1
                    subst eav eas eai eao eal
                    have F := HF1.out hil
                    have k1 := F.le; have k2 := F.mo; have k3 := F.v0; have k4 := F.fl; have k6 := F.r0; have k7 := F.k0
                    have hvb : v1 ≤ 1000 := by have k5 := F.eq; have hgb := HGB.out; have hg1 := HG1.out hil; omega
                    have hsb := sums_bound HOK.out HLL.out hl2 (by omega) HH.out HF0.out HF1.out HG0.out HG1.out (by omega) HS.out
                    have hib := HG1.out hil
                    obtain ⟨le, hle⟩ : ∃ x, x = (lkD ls 1).least := ⟨_, rfl⟩
                    obtain ⟨mo, hmo⟩ : ∃ x, x = (lkD ls 1).most := ⟨_, rfl⟩
                    rw [← hle] at q0 k1 k7
                    rw [← hmo] at q1 k2 k4 k7
                    clear hle hmo F
                    simp only [Nat.one_mul] at q0 q1
                    have HC : Hid (∀ m, (wr.drewN m).cell? ⟨ib, io + h, none⟩ = some (.slice (some ⟨ip, iq, none⟩) L ic) ∧ (wr.drewN m).cell? ⟨ip, iq + 1, none⟩ = some (.int .i64 i1) ∧ (wr.drewN m).cell? ⟨vb, vo + h, none⟩ = some (.slice (some ⟨vp, vq, none⟩) L vc) ∧ (wr.drewN m).cell? ⟨vp, vq + 1, none⟩ = some (.int .i64 n1) ∧ (wr.drewN m).cell? ⟨sb, so + h, none⟩ = some (.slice (some ⟨sp', sq, none⟩) L sc) ∧ (wr.drewN m).cell? ⟨sp', sq + 1, none⟩ = some (.int .i64 v1) ∧ (wr.drewN m).cell? ⟨ob, oo + h, none⟩ = some (.slice (some ⟨op', oq, none⟩) L oc) ∧ (wr.drewN m).cell? ⟨op', oq + 1, none⟩ = some (.int .i64 r1)) := fun m => ⟨tii, ui, tv, uv, ts, us, to', uo⟩
                    have HKN := hide' (fun m => HV.out.more (below_drewN (Below.refl _ wr) m))
                    clear HV
                    simp only [show ((1 : Nat) : Int) = 1 from rfl]
                    have hil1 : (1 : Int) < (L : Int) := by omega
                    go_upto_region 21 with fail
                    go_cut [155] from 93 to 154 (fun p wc => p = .bool false ∧ ∃ m, wc = wr.drewN m)
                    case first =>
                      as_aux_lemma =>
                        clear HC HKN tii ui to' uo
                        have n1' : ¬ n1 < le := by omega
                        have n2' : ¬ mo < n1 := by omega
                        have n3' : ¬ v1 < 0 := by omega
                        by_cases hV : 0 < v1
                        · have n4' := k4 hV
                          clear k4 hsb
                          go_quiet (fail)
                          go_wp2_with fail
                          go_meet
                          case rel => exact ⟨rfl, _, rfl⟩
                        · clear k4 hsb
                          go_quiet (fail)
                          go_wp2_with fail
                          go_meet
                          case rel => exact ⟨rfl, _, rfl⟩
                    case rest =>
                      as_aux_lemma =>
                        obtain ⟨rfl, m, hwc⟩ := hcut
                        obtain ⟨c1', c2', c3', c4', c5', c6', c7', c8'⟩ := HC.out m
                        have HKM := hide' (HKN.out m)
                        rw [← hwc] at c1' c2' c3' c4' c5' c6' c7' c8' HKM
                        clear HC HKN tii ui tv uv ts us to' uo q0 q1 hwc k4
                        have HKD := hide' (fun m => HKM.out.more (below_drewN (Below.refl _ wc) m))
                        have h2 : L = 2 := by omega
                        have HS2 := hide' (sums_gone1 h2 HS.out)
                        clear HS
                        subst h2
                        go_upto_region 27 with fail
                        go_quiet (fail)
                        go_wp2_with fail
                        go_roundw
                        case rel => exact ⟨2, _, _, _, _, rfl, rfl, rfl, rfl, by go_num, by omega, HS2, HKD.out _⟩
                        case measure => simp [intOf]
                · obtain rfl : i = L := by omega
                  go_wp2_with fail
                  go_meet
                  case rel => exact ⟨a, b, c, d, rfl, rfl, rfl, rfl, HS, HV⟩
          case rest =>
            as_aux_lemma =>
              obtain ⟨a, b, c, d, rfl, rfl, rfl, rfl, HS, HV⟩ := hcut
              have hsb := sums_bound HOK.out HLL.out hl2 (by omega) HH.out HF0.out HF1.out HG0.out HG1.out (Nat.le_refl _) HS.out
              obtain ⟨he1, he2, he3, he4⟩ := sums_end hl2 HH.out HF0.out HF1.out HF2.out HGO.out HG0.out HG1.out HS.out
              have HNB : Hid (HB ls L ti tr (h + 1) ⟨n0, n1, n2, n3⟩ a b) := ⟨HNX.out, HGO.out, he2, he3, he4⟩
              clear he2 he3 he4 HS
              subst he1
              go_wp2_with fail
              go_roundw
              case rel => exact ⟨h + 1, ⟨n0, n1, n2, n3⟩, _, _, rfl, rfl, by go_num, by omega, HNB, HV⟩
              case measure => simp [intOf]; omega
        · go_wp2
          go_ret
          exact ⟨rfl, HW.out.bel⟩
end Go.Proofs.Ytlijlbjplphpfak
