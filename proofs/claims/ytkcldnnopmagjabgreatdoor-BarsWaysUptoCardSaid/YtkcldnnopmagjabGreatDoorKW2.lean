/- The document's way. -/
import Derived.Test.YtkcldnnopmagjabGreatDoorKW1
import Derived.Test.YtkcldnnopmagjabGreatDoorKBr6
namespace Go.Proofs.YtkcldnnopmagjabGreatDoor.Bar
open Go.RowKit Go.Shelf Doc

set_option maxRecDepth 100000 in
set_option maxHeartbeats 4000000 in
theorem WayOf_any (N : NetM) (v outv : Value) (out : List Bool) (a b : Int) (l : List LinkM) (code : Int) (w : World) (hx : NetAt w v N) (hsm : SmallM N) (ho : RowAt w outv out.length 1 (out.map Value.bool)) (hol : out.length ≤ 2000000) (hw : WayIs N out a b l code) :
    Calls Tryz.prog 20 #[v, outv, .int .i64 a, .int .i64 b] w fun e w' => AnswersH l code w e w' := by
  obtain ⟨vb, vl, vg, vd, vt, rfl, hb, hl, hg, hd, ht⟩ := hx
  obtain ⟨ab, cb, rfl⟩ := rowAt_slice hb
  obtain ⟨al, cl, rfl⟩ := rowAt_slice hl
  obtain ⟨ag, cg, rfl⟩ := rowAt_slice hg
  obtain ⟨ad, cd, rfl⟩ := rowAt_slice hd
  obtain ⟨at', ct, rfl⟩ := rowAt_slice ht
  have HO := hide' ho
  obtain ⟨ao, co, rfl⟩ := rowAt_slice ho
  have HNW : Hid (∀ W, Below w.heap.size w W → NetAt W (.agg #[.string N.name, .slice ab N.buses.length cb, .slice al N.lines.length cl, .slice ag N.gens.length cg, .slice ad N.loads.length cd, .slice at' N.ties.length ct]) N) := fun W h => ⟨_, _, _, _, _, rfl, RowAt.below hb h (Nat.le_refl _), RowAt.below hl h (Nat.le_refl _), RowAt.below hg h (Nat.le_refl _), RowAt.below hd h (Nat.le_refl _), RowAt.below ht h (Nat.le_refl _)⟩
  obtain ⟨W, hW⟩ : ∃ W, W = w.alloc (.cells #[.string N.name, .slice ab N.buses.length cb, .slice al N.lines.length cl, .slice ag N.gens.length cg, .slice ad N.loads.length cd, .slice at' N.ties.length ct] 28) := ⟨_, rfl⟩
  have HX : Hid (NBx w W #[.string N.name, .slice ab N.buses.length cb, .slice al N.lines.length cl, .slice ag N.gens.length cg, .slice ad N.loads.length cd, .slice at' N.ties.length ct]) := by
    rw [hW]; exact ⟨(Below.refl _ w).alloc (Nat.le_refl _) _, World.alloc_heap_new w _⟩
  have HM := hide' (IslandsOf_any N _ (.slice ao out.length co) out W (HNW.out W HX.out.bel) hsm (RowAt.below HO.out HX.out.bel (Nat.le_refl _)) hol)
  have HW := hide' hW
  have HWI := hide' hw
  obtain ⟨i0, hi0, hzz0, hzz1, hzz2⟩ := info_parts Tryz.info47
  clear hW hb hl hg hd ht hsm hw ho hol
  go_enter Tryz.func20, Tryz.ntmps20
  go_wp2_with fail
  rw [← HW.out]
  refine HM.out.mono ?_
  intro e w1 hans
  rcases HWI.out with ⟨hno, rfl, rfl⟩ | ⟨hm, hne, rfl, rfl⟩ | ⟨hm, heq, hr, rfl, rfl⟩ | ⟨hm, heq, x, y, rfl, rfl, hx, hy, hf, rfl, rfl⟩ | ⟨hm, heq, x, y, rfl, rfl, hx, hy, hf, hl, rfl⟩
  · obtain ⟨aa, ca, rfl, hb1⟩ := ansRow (hans.2.2 hno)
    have HB1 : Hid (Below w.heap.size w w1) := (HX.out.later hb1).bel
    clear hans hb1 hno HWI HM
    go_wp2
    refine bodyPost_ret (results_tmp2 rfl _ _ _) rfl ?_
    exact answersH_nil HB1.out
  · obtain ⟨aa, ca, rfl, hb1⟩ := ansRow (hans.2.1 hm hne)
    have HB1 : Hid (Below w.heap.size w w1) := (HX.out.later hb1).bel
    clear hans hb1 hne hm HWI HM
    go_wp2
    refine bodyPost_ret (results_tmp2 rfl _ _ _) rfl ?_
    exact answersH_nil HB1.out
  · obtain ⟨aa, ca, rfl, hb1⟩ := ansRow (hans.1 hm heq)
    have HX1 := hide' (HX.out.later hb1)
    obtain ⟨k0, k1, k2, k3, k4, k5⟩ := HX1.out.cells
    clear hans hb1 heq hm HWI HM
    by_cases h1 : a < 0
    · clear hr
      go_wp2
      refine bodyPost_ret (results_tmp2 rfl _ _ _) rfl ?_
      exact answersH_nil HX1.out.bel
    · by_cases h2 : b < 0
      · clear hr
        go_wp2
        refine bodyPost_ret (results_tmp2 rfl _ _ _) rfl ?_
        exact answersH_nil HX1.out.bel
      · by_cases h3 : (N.buses.length : Int) ≤ a
        · clear hr
          go_wp2
          refine bodyPost_ret (results_tmp2 rfl _ _ _) rfl ?_
          exact answersH_nil HX1.out.bel
        · have h4 : (N.buses.length : Int) ≤ b := by omega
          clear hr
          go_wp2
          refine bodyPost_ret (results_tmp2 rfl _ _ _) rfl ?_
          exact answersH_nil HX1.out.bel
  · obtain ⟨aa, ca, rfl, hb1⟩ := ansRow (hans.1 hm heq)
    have HX1 := hide' (HX.out.later hb1)
    have hfit : Fits N := hm.fits
    have HE := hide' (MayM.ends hm)
    have HEQ := hide' heq
    have HOW : Hid (∀ W', Below w.heap.size w W' → RowAt W' (.slice ao out.length co) N.lines.length 1 (out.map Value.bool)) := fun W' h => by rw [← HEQ.out]; exact RowAt.below HO.out h (Nat.le_refl _)
    have HAW := hide' (awayFrom_any N _ (.slice ao out.length co) out y hy w1 (HNW.out w1 HX1.out.bel) hfit HE.out heq (HOW.out w1 HX1.out.bel))
    have HTG : Hid (∀ j, j < N.buses.length → (awayL N out y).getD j 0 = target N.buses.length (serviceL N out) y j) := fun j hj => by
      rw [awayL, away_service]; exact awayI_spec (service_ends HE.out out) hy j hj
    have HDL : Hid ((awayL N out y).length = N.buses.length) := awayS_len N out y _
    have HDB : Hid (InB (awayL N out y)) := InB.away out y hfit.1 _
    have HFT := hide' hfit
    obtain ⟨k0, k1, k2, k3, k4, k5⟩ := HX1.out.cells
    have hx1 : ¬ ((x : Int) < 0) := by omega
    have hy1 : ¬ ((y : Int) < 0) := by omega
    have hx2 : ¬ ((N.buses.length : Int) ≤ (x : Int)) := by omega
    have hy2 : ¬ ((N.buses.length : Int) ≤ (y : Int)) := by omega
    have h16 : N.buses.length ≤ 16 := hfit.1
    clear hans hb1 heq hm HWI HM HX hfit
    go_wp2_with fail
    refine HAW.out.mono ?_
    rintro e w2 ⟨F, rfl, hF0, hF, hb2⟩
    have HX2 := hide' (HX1.out.later hb2)
    obtain ⟨cX, fX⟩ := intsCell hF (j := x) (by rw [HDL.out]; exact hx)
    obtain ⟨z, hz⟩ : ∃ z, z = (awayL N out y).getD x 0 := ⟨_, rfl⟩
    rw [← hz] at cX
    have hzn : z = (N.buses.length : Int) := by rw [hz, HTG.out x hx, target, if_pos hf]
    subst hzn
    clear hz hF hF0 hb2 HAW
    go_wp2
    refine bodyPost_ret (results_tmp2 rfl _ _ _) rfl ?_
    exact answersH_nil HX2.out.bel
  · obtain ⟨aa, ca, rfl, hb1⟩ := ansRow (hans.1 hm heq)
    have HX1 := hide' (HX.out.later hb1)
    have hfit : Fits N := hm.fits
    have HE := hide' (MayM.ends hm)
    have HEQ := hide' heq
    have HOW : Hid (∀ W', Below w.heap.size w W' → RowAt W' (.slice ao out.length co) N.lines.length 1 (out.map Value.bool)) := fun W' h => by rw [← HEQ.out]; exact RowAt.below HO.out h (Nat.le_refl _)
    have HAW := hide' (awayFrom_any N _ (.slice ao out.length co) out y hy w1 (HNW.out w1 HX1.out.bel) hfit HE.out heq (HOW.out w1 HX1.out.bel))
    have HTG : Hid (∀ j, j < N.buses.length → (awayL N out y).getD j 0 = target N.buses.length (serviceL N out) y j) := fun j hj => by
      rw [awayL, away_service]; exact awayI_spec (service_ends HE.out out) hy j hj
    have HDL : Hid ((awayL N out y).length = N.buses.length) := awayS_len N out y _
    have HDB : Hid (InB (awayL N out y)) := InB.away out y hfit.1 _
    have HFT := hide' hfit
    obtain ⟨k0, k1, k2, k3, k4, k5⟩ := HX1.out.cells
    have hx1 : ¬ ((x : Int) < 0) := by omega
    have hy1 : ¬ ((y : Int) < 0) := by omega
    have hx2 : ¬ ((N.buses.length : Int) ≤ (x : Int)) := by omega
    have hy2 : ¬ ((N.buses.length : Int) ≤ (y : Int)) := by omega
    have h16 : N.buses.length ≤ 16 := hfit.1
    clear hans hb1 heq hm HWI HM HX hfit
    go_wp2_with fail
    refine HAW.out.mono ?_
    rintro e w2 ⟨F, rfl, hF0, hF, hb2⟩
    have HX2 := hide' (HX1.out.later hb2)
    obtain ⟨cX, fX⟩ := intsCell hF (j := x) (by rw [HDL.out]; exact hx)
    obtain ⟨z, hz⟩ : ∃ z, z = (awayL N out y).getD x 0 := ⟨_, rfl⟩
    rw [← hz] at cX
    have HFS := hide' (far_spec (service_ends HE.out out) hy)
    have hzn : z = (farL N.buses.length (serviceL N out) y).getD x 0 := by rw [hz, HTG.out x hx, target, if_neg hf]
    have hzr := HFS.out.2.1 x hx
    rw [← hzn] at hzr
    have hzne : ¬ z = (N.buses.length : Int) := by omega
    have hzb : (z == (N.buses.length : Int)) = false := beq_eq_false_iff_ne.2 hzne
    obtain ⟨K, hK⟩ : ∃ K : Nat, (farL N.buses.length (serviceL N out) y).getD x 0 = (K : Int) := ⟨z.toNat, by rw [← hzn]; omega⟩
    have hKn : K < N.buses.length := by omega
    have HL : Hid (l = wayL (serviceL N out) (farL N.buses.length (serviceL N out) y) K x) := by rw [hl, hK, Int.toNat_natCast]; rfl
    have HK := hide' hK
    have HST : Hid (WSt w w2 #[.string N.name, .slice ab N.buses.length cb, .slice al N.lines.length cl, .slice ag N.gens.length cg, .slice ad N.loads.length cd, .slice at' N.ties.length ct] F w2.heap.size (awayL N out y) (.slice none 0 0) []) := ⟨HX2.out, hF, ⟨rfl, .inl ⟨rfl, rfl⟩⟩, (Array.getElem?_eq_some_iff.1 hF).1, (Array.getElem?_eq_some_iff.1 HX2.out.box).1, Nat.le_refl _⟩
    clear hz hF hF0 hb2 HAW hl hf hzn hK hzr hzne
    go_wp2_with fail
    go_loopw [2, 13] (fun av lv wr => ∃ (u g : Nat) (lw : Value) (dn : List LinkM), av = .int .i64 u ∧ lv = lw ∧ u < N.buses.length ∧ g < N.buses.length ∧ Hid ((farL N.buses.length (serviceL N out) y).getD u 0 = (g : Int)) ∧ Hid (dn ++ wayL (serviceL N out) (farL N.buses.length (serviceL N out) y) g (u : Int) = l) ∧ Hid (dn.length + g = K) ∧ Hid (WSt w wr #[.string N.name, .slice ab N.buses.length cb, .slice al N.lines.length cl, .slice ag N.gens.length cg, .slice ad N.loads.length cd, .slice at' N.ties.length ct] F w2.heap.size (awayL N out y) lw dn)) (fun av _ _ => ((farL N.buses.length (serviceL N out) y).getD (intOf av).toNat 0).toNat)
    case atStart => exact ⟨x, K, .slice none 0 0, [], rfl, rfl, hx, hKn, HK, by show _ = _; rw [HL.out]; rfl, Nat.zero_add _, HST⟩
    case round =>
      clear HST k0 k1 k2 k3 k4 k5
      obtain ⟨u, g, lw, dn, rfl, hlw, hu, hgn, HG, HWAY, HLEN, HS⟩ := hrel
      have hl' := hlw.symm
      clear hlw
      subst hl'
      obtain ⟨cU, fU⟩ := intsCell HS.out.hF (j := u) (by rw [HDL.out]; exact hu)
      have hdu : (farL N.buses.length (serviceL N out) y).getD u 0 ≠ -1 := by rw [HG.out]; omega
      have hgu : (awayL N out y).getD u 0 = (g : Int) := by rw [HTG.out u hu, target, if_neg hdu, HG.out]
      rw [hgu] at cU
      by_cases hg0 : 0 < g
      · have hne : u ≠ y := fun e => by
          have h9 := HG.out
          rw [e, far_self (serviceL N out) hy] at h9
          omega
        obtain ⟨l1, v1, hop1, hm1, hnx1, hv1, hdv1, hduv⟩ := hopOn_some (service_ends HE.out out) hy hu hne hdu
        have hop2 := (hopOn_same (service_ends HE.out out) hy hu hdu HTG.out).trans hop1
        have HCALL := hide' (hopOf_any N _ (.slice ao out.length co) out (awayL N out y) F u l1 (v1 : Int) wr (HNW.out wr HS.out.bx.bel) HFT.out HE.out HEQ.out (HOW.out wr HS.out.bx.bel) HS.out.hF HDL.out HDB.out hu hop2)
        have HOP1 := hide' hop1
        have HGV : Hid ((farL N.buses.length (serviceL N out) y).getD v1 0 = ((g - 1 : Nat) : Int)) := by
          have h9 := HG.out
          show _ = _
          omega
        have hgi : (0 : Int) < (g : Int) := by omega
        obtain ⟨k0, k1, k2, k3, k4, k5⟩ := HS.out.bx.cells
        have hdl : dn.length ≤ 1000 := by have := HLEN.out; omega
        clear hop1 hm1 hnx1 hdv1 hduv hop2 hdu hgu hne
        go_wp2_with fail
        refine HCALL.out.mono ?_
        rintro e w3 ⟨rfl, hb3⟩
        have hOW := own_later HS.out.own hb3
        have HB3 := hide' hb3
        have HCN : Hid (∀ j u, [Value.bool l1.tie, .int .i64 l1.no][j]? = some u → ((w3.alloc (.cells #[.bool l1.tie, .int .i64 l1.no] 47)).alloc (.cells #[.bool l1.tie, .int .i64 l1.no] 47)).cell? ((⟨w3.heap.size + 1, 0, none⟩ : Addr).add j) = some u) := by
          have := cell_news (w3.alloc (.cells #[.bool l1.tie, .int .i64 l1.no] 47)) [Value.bool l1.tie, .int .i64 l1.no] 47
          rwa [World.size_alloc] at this
        have HSZ : Hid (w2.heap.size ≤ w3.heap.size) := Nat.le_trans HS.out.hB.2.2 hb3.size
        clear hb3 HCALL k0 k1 k2 k3 k4 k5
        go_wp2_with (at_builtin; (refine wpList_append_own _ rfl _ _ 43 rfl w2.heap.size 47 i0 _ 2 16 Tryz.underlying43 hi0 hzz0 hzz1 hzz2 rfl (by decide) _ _ _ rfl ((hOW.alloc _).alloc _) ⟨w3.heap.size + 1, 0, none⟩ 1 1 [.bool l1.tie, .int .i64 l1.no] rfl rfl HCN.out hop_one (by unfold maxLen; omega) (by omega) (by simp; have := HSZ.out; omega) ?_; intro v' w4 hown' hgrow _; refine Still.go ?_))
        unfold Still
        have hg3 : ((w3.alloc (.cells #[.bool l1.tie, .int .i64 l1.no] 47)).alloc (.cells #[.bool l1.tie, .int .i64 l1.no] 47)).grownBy w4 lw.ownBlock := hgrow
        have HS4 := hide' (HS.out.push (x := l1) ((HB3.out.alloc HB3.out.size _).alloc (by rw [World.size_alloc]; exact Nat.le_succ_of_le HB3.out.size) _) hown' hg3)
        clear hgrow hg3 hown' hOW cU fU
        go_wp2
        go_roundw
        case rel =>
          refine ⟨v1, g - 1, v', dn ++ [l1], rfl, rfl, hv1, by omega, HGV, ?_, ?_, HS4⟩
          · show _ = _
            have h9 := HWAY.out
            rw [show g = g - 1 + 1 by omega, wayL_step HOP1.out] at h9
            rw [← h9, List.append_assoc]
            rfl
          · show _ = _
            have h9 := HLEN.out
            rw [List.length_append]
            simp only [List.length_cons, List.length_nil]
            omega
        case measure =>
          simp only [intOf, Int.toNat_natCast]
          rw [HGV.out, HG.out]
          omega
      · have hg00 : g = 0 := by omega
        subst hg00
        have hll : l = dn := by rw [← HWAY.out, wayL, List.append_nil]
        obtain ⟨a3, c3, hlv⟩ := own_slice HS.out.own
        subst hll
        subst hlv
        go_wp2
        refine bodyPost_ret (results_tmp2 rfl _ _ _) rfl ?_
        exact ⟨a3, c3, rfl, rowAt_of_own HS.out.own, HS.out.bx.bel⟩
end Go.Proofs.YtkcldnnopmagjabGreatDoor.Bar

/- The program's way. -/
namespace Go.Proofs.YtkcldnnopmagjabGreatDoor.Bar
open Go.RowKit Go.Shelf Doc
attribute [local go_sem] Oper.semAt_some wide_fn wide_depth

/-- The way at work: the counts, the hops so far, and where it stands. -/
structure WayP (W : World) (F P8 P9 P10 B n : Nat) (D : List Int) (u : Int) (lv : Value) (dn : List LinkM) : Prop where
  hF : W.heap[F]? = some (.cells (ints D).toArray 3 (0, 0))
  h8 : W.heap[P8]? = some (.cells #[.slice (some ⟨F, 0, none⟩) n n] 36 (0, 0))
  h9 : W.heap[P9]? = some (.cells #[lv] 43 (0, 0))
  h10 : W.heap[P10]? = some (.cells #[.int .i64 u] 3 (0, 0))
  own : W.ownsRow B 47 2 lv dn.length (dn.flatMap hopCells)
  ne : P10 ≠ F
theorem WayP.grow {W W' : World} {F P8 P9 P10 B n : Nat} {D : List Int} {u : Int} {lv : Value} {dn : List LinkM} (h : WayP W F P8 P9 P10 B n D u lv dn) (hb : ∀ (k : Nat) c t fz, W.heap[k]? = some (Obj.cells c t fz) → W'.heap[k]? = some (Obj.cells c t fz)) : WayP W' F P8 P9 P10 B n D u lv dn := by
  refine ⟨hb _ _ _ _ h.hF, hb _ _ _ _ h.h8, hb _ _ _ _ h.h9, hb _ _ _ _ h.h10, own_other h.own (fun k hk => ?_), h.ne⟩
  rcases h.own.2 with ⟨rfl, _⟩ | ⟨g, cp, cur, rfl, _, h5, _⟩
  · cases hk
  · cases hk; rw [h5]; exact hb _ _ _ _ h5
theorem WayP.next {W : World} {F P8 P9 P10 B n : Nat} {D : List Int} {u : Int} {lv : Value} {dn : List LinkM} (h : WayP W F P8 P9 P10 B n D u lv dn) : WayP (W.alloc (.cells #[.int .i64 u] 3)) F P8 P9 W.heap.size B n D u lv dn := by
  have h2 := h.grow (W' := W.alloc (.cells #[.int .i64 u] 3)) (fun k c t fz hk => (Below.heap_alloc _ _ _ (Array.getElem?_eq_some_iff.1 hk).1).trans hk)
  exact ⟨h2.hF, h2.h8, h2.h9, World.alloc_heap_new W _, h2.own, fun e => by have := (Array.getElem?_eq_some_iff.1 h.hF).1; omega⟩
theorem WayP.same {X1 w3 : World} {F P8 P9 P10 B n : Nat} {D : List Int} {u : Int} {lv : Value} {dn : List LinkM} {o : Obj} (h : WayP X1 F P8 P9 P10 B n D u lv dn) (hg : (X1.alloc o).grownBy w3 lv.ownBlock) {k : Nat} {c : Array Value} {t : TypeId} (ht : t ≠ 47) (hk : X1.heap[k]? = some (.cells c t (0, 0))) : w3.heap[k]? = some (.cells c t (0, 0)) := by
  have hkl := (Array.getElem?_eq_some_iff.1 hk).1
  rw [hg.block k (by rw [World.size_alloc]; omega) (fun e => by
    rcases h.own.2 with ⟨e0, _⟩ | ⟨g, cp, cur, e0, _, h6, _⟩
    · rw [e0] at e; cases e
    · rw [e0] at e; cases e; rw [hk] at h6; cases h6; exact ht rfl), Below.heap_alloc _ _ _ hkl, hk]
theorem own_type {w : World} {B e sz m : Nat} {v : Value} {xs : List Value} (h : w.ownsRow B e sz v m xs) {k : Nat} (hk : v.ownBlock = some k) : ∃ cur fz, w.heap[k]? = some (.cells cur e fz) := by
  rcases h.2 with ⟨rfl, _⟩ | ⟨g, cp, cur, rfl, _, h6, _⟩
  · cases hk
  · cases hk; exact ⟨_, _, h6⟩
theorem WayP.push {X1 w3 : World} {F P8 P9 P10 B n : Nat} {D : List Int} {u : Int} {lv v' : Value} {dn : List LinkM} {o : Obj} {x : LinkM} (h : WayP X1 F P8 P9 P10 B n D u lv dn) (hg : (X1.alloc o).grownBy w3 lv.ownBlock) (hown : w3.ownsRow B 47 2 v' (dn.length + 1) (dn.flatMap hopCells ++ [.bool x.tie, .int .i64 x.no])) (t : Int) :
    WayP ((w3.setCell ⟨P9, 0, none⟩ v').setCell ⟨P10, 0, none⟩ (.int .i64 t)) F P8 P9 P10 B n D t v' (dn ++ [x]) := by
  have kF := h.same hg (by decide) h.hF
  have k8 := h.same hg (by decide) h.h8
  have k9 := h.same hg (by decide) h.h9
  have k10 := h.same hg (by decide) h.h10
  have n1 : P9 ≠ P10 := fun e => by rw [e, k10] at k9; cases k9
  have n2 : P8 ≠ P9 := fun e => by rw [e, k9] at k8; cases k8
  have n3 : P8 ≠ P10 := fun e => by rw [e, k10] at k8; cases k8
  have n4 : F ≠ P9 := fun e => by
    rw [e, k9] at kF
    have h9 := Option.some.inj kF
    injection h9 with _ h9 _
    exact absurd h9 (by decide)
  refine ⟨?_, ?_, ?_, ?_, ?_, h.ne⟩
  · rw [Below.heap_setCell _ _ _ _ (fun e => h.ne e.symm), Below.heap_setCell _ _ _ _ n4]; exact kF
  · rw [Below.heap_setCell _ _ _ _ n3, Below.heap_setCell _ _ _ _ n2]; exact k8
  · rw [Below.heap_setCell _ _ _ _ n1, set_any k9 0 v']; rfl
  · have k10' : (w3.setCell ⟨P9, 0, none⟩ v').heap[P10]? = some (.cells #[.int .i64 u] 3 (0, 0)) := by
      rw [Below.heap_setCell _ _ _ _ (fun e => n1 e.symm)]; exact k10
    rw [set_any k10' 0 (.int .i64 t)]; rfl
  · rw [hop_snoc, List.length_append]
    refine own_other hown (fun k hk => ?_)
    obtain ⟨cur, fz, h6⟩ := own_type hown hk
    have m1 : k ≠ P9 := fun e => by rw [e, k9] at h6; cases h6
    have m2 : k ≠ P10 := fun e => by rw [e, k10] at h6; cases h6
    rw [Below.heap_setCell _ _ _ _ m2, Below.heap_setCell _ _ _ _ m1]
/-- None of these is a hop of the way. -/
def NoneOf (D : List Int) (u : Int) {links : List LinkM} {v : Int} (pre : List (Lead links v)) : Prop := ∀ x ∈ pre, isHop D u x.1 = false
theorem find_none {D : List Int} {u : Int} {links : List LinkM} {v : Int} {pre : List (Lead links v)} (h : NoneOf D u pre) : (pre.map (·.1)).find? (isHop D u) = none := by
  rw [List.find?_eq_none]
  intro y hy
  obtain ⟨x, hx, rfl⟩ := List.mem_map.1 hy
  rw [h x hx]
  decide

set_option maxRecDepth 100000 in
set_option maxHeartbeats 4000000 in
theorem way_any (n : Nat) (hn : n ≤ 1000) (links : List LinkM) (hlen : links.length ≤ 1000) (hends : Ends n links) (a : Option Addr) (cap : Nat) (x y : Nat) (hx : x < n) (hy : y < n) (w : World)
    (hr : RowAt w (.slice a links.length cap) links.length 4 (links.flatMap LinkM.cells)) :
    Calls Tryz.prog 42 #[.agg #[.int .i64 n, .slice a links.length cap], .int .i64 (x : Int), .int .i64 (y : Int)] w fun e w' => ((farL n links (y : Int)).getD x 0 = -1 → AnswersH [] 10 w e w') ∧ ((farL n links (y : Int)).getD x 0 ≠ -1 → AnswersH (wayL links (farL n links (y : Int)) ((farL n links (y : Int)).getD x 0).toNat (x : Int)) 0 w e w') := by
  have hfl := farL_len (links := links) (b := (y : Int)) hends ⟨by omega, by omega⟩
  obtain ⟨W0, hW0⟩ : ∃ W0, W0 = w.alloc (.cells #[.int .i64 n, .slice a links.length cap] 80) := ⟨_, rfl⟩
  have HFAR := hide' (far_any n hn links hlen hends a cap (y : Int) ⟨by omega, by omega⟩ W0 (RowAt.below hr (by rw [hW0]; exact (Below.refl _ w).alloc (Nat.le_refl _) _) (Nat.le_refl _)))
  have HW0 := hide' hW0
  have HR := hide' hr
  have HE := hide' hends
  have HFL := hide' hfl
  clear hW0 hr hends hfl
  refine (callsIn_wide (n := 3)).1 ?_
  refine callsIn_of_wp_marks Tryz.func42 rfl trivial ?_
  simp only [Tryz.ntmps42, List.size_toArray, List.length_cons, List.length_nil, Nat.reduceAdd, Nat.reduceSub, Array.replicate_succ, Array.replicate_zero, List.push_toArray, List.append_toArray, List.nil_append, List.cons_append]
  gi_wp2_with fail
  rw [← HW0.out]
  refine ((callsIn_wide (n := 2)).2 HFAR.out).mono ?_
  rintro e w1 ⟨F, rfl, hF0, hFrow, hb1⟩
  obtain ⟨cX, fX⟩ := intsCell hFrow (j := x) (by rw [HFL.out]; exact hx)
  obtain ⟨z, hz⟩ : ∃ z, z = (farL n links (y : Int)).getD x 0 := ⟨_, rfl⟩
  rw [← hz] at cX
  have hFl : F < w1.heap.size := (Array.getElem?_eq_some_iff.1 hFrow).1
  have cX' : ∀ o, (w1.alloc o).cell? ⟨F, x, none⟩ = some (.int .i64 z) := fun o => by
    rw [World.cell?_of_block (Below.heap_alloc w1 o F hFl)]; exact cX
  have HFR := hide' hFrow
  have HB1 := hide' hb1
  have HF0 := hide' hF0
  have HZ := hide' hz
  have hzs : W0.heap.size = w.heap.size + 1 := by rw [HW0.out]; simp
  have HBW1 : Hid (Below w.heap.size w w1) := by
    have h2 := HB1.out
    rw [HW0.out] at h2
    exact ((Below.refl _ w).alloc (Nat.le_refl _) _).trans (h2.mono (by simp))
  have HBX1 : Hid (w1.heap[w.heap.size]? = some (.cells #[.int .i64 n, .slice a links.length cap] 80 (0, 0))) := by
    show _ = _
    rw [HB1.out.block w.heap.size (by omega), HW0.out]
    exact World.alloc_heap_new w _
  have HFW : Hid (w.heap.size < F) := by show _ < _; omega
  have HFL1 := hide' hFl
  clear hFrow hb1 hF0 hz cX fX hzs
  by_cases hd : z = -1
  · have HD := hide' hd
    subst hd
    gi_wp2
    refine leaves_marks [] _ ⟨List.nodup_nil, fun d h => by cases h⟩ ?_
    intro W' h1 h2 h3 h4 h5
    refine ⟨_, results_tmp2 rfl _ _ _, fun _ => answersH_nil ?_, fun h => absurd HZ.out.symm h⟩
    have hba := HBW1.out.alloc HBW1.out.size (.cells #[.slice (some ⟨F, 0, none⟩) n n] 36)
    refine ⟨h2.trans hba.os, h3.trans hba.tape, h4.trans hba.output, by rw [← h1]; exact hba.size, fun k hk => ?_⟩
    rw [h5 k (fun hm => by cases hm)]
    exact hba.block k hk
  · have HD := hide' hd
    obtain ⟨k0, hk0⟩ : ∃ k0 : Nat, z = (k0 : Int) := ⟨z.toNat, by have := (far_spec HE.out hy).2.1 x hx; rw [← HZ.out] at this; omega⟩
    have HK0 := hide' hk0
    have hkn : k0 < n := by have := (far_spec HE.out hy).2.1 x hx; rw [← HZ.out] at this; omega
    clear hk0
    gi_wp2_with fail
    obtain ⟨W1, hW1⟩ : ∃ W1, W1 = (((w1.alloc (.cells #[.slice (some ⟨F, 0, none⟩) n n] 36)).alloc (.cells #[.slice none 0 0] 43)).alloc (.cells #[.int .i64 (x : Int)] 3)) := ⟨_, rfl⟩
    rw [← hW1]
    have HBA : Hid (Below w1.heap.size w1 W1) := by rw [hW1]; exact (((Below.refl _ w1).alloc (Nat.le_refl _) _).alloc (by simp) _).alloc (by simp; omega) _
    have HST : Hid (WayP W1 F w1.heap.size (w1.heap.size + 1) (w1.heap.size + 1 + 1) w1.heap.size n (farL n links (y : Int)) (x : Int) (.slice none 0 0) []) := by
      have e3 := World.alloc_heap_new ((w1.alloc (.cells #[.slice (some ⟨F, 0, none⟩) n n] 36)).alloc (.cells #[.slice none 0 0] 43)) (.cells #[.int .i64 (x : Int)] 3)
      rw [World.size_alloc, World.size_alloc, ← hW1] at e3
      have e2 := World.alloc_heap_new (w1.alloc (.cells #[.slice (some ⟨F, 0, none⟩) n n] 36)) (.cells #[.slice none 0 0] 43)
      rw [World.size_alloc] at e2
      refine ⟨(HBA.out.block F HFL1.out).trans HFR.out, ?_, ?_, e3, ⟨rfl, .inl ⟨rfl, rfl⟩⟩, by have := HFL1.out; omega⟩
      · rw [hW1, Below.heap_alloc _ _ _ (by simp; omega), Below.heap_alloc _ _ _ (by simp)]
        exact World.alloc_heap_new w1 _
      · rw [hW1, Below.heap_alloc _ _ _ (by simp)]
        exact e2
    have HBW : Hid (Below w.heap.size w W1) := HBW1.out.trans (HBA.out.mono HBW1.out.size)
    have HBX : Hid (W1.heap[w.heap.size]? = some (.cells #[.int .i64 n, .slice a links.length cap] 80 (0, 0))) := (HBA.out.block _ (Array.getElem?_eq_some_iff.1 HBX1.out).1).trans HBX1.out
    clear hW1 cX'
    refine wpIn_loop_ghost (fun g A W => ∃ (u P10 : Nat) (lv : Value) (dn : List LinkM) (L : List Nat) (u20 u22 u23 u24 u25 u26 u27 u45 : Value), A = { tmps := #[.agg #[.int .i64 n, .slice a links.length cap], .int .i64 (x : Int), .int .i64 (y : Int), .pointer (some ⟨w.heap.size, 0, none⟩), undef, undef, .slice none 0 0, .int .i64 0, .pointer (some ⟨w1.heap.size, 0, none⟩), .pointer (some ⟨w1.heap.size + 1, 0, none⟩), .pointer (some ⟨P10, 0, none⟩), undef, undef, .agg #[.int .i64 n, .slice a links.length cap], .int .i64 (y : Int), .slice (some ⟨F, 0, none⟩) n n, .slice (some ⟨F, 0, none⟩) n n, .int .i64 (x : Int), .pointer (some ⟨F, x, none⟩), .int .i64 z, u20, .int .i64 (x : Int), u22, u23, u24, u25, u26, u27, undef, undef, undef, undef, undef, undef, undef, undef, undef, undef, undef, undef, undef, undef, undef, undef, undef, u45, undef], defers := marks L } ∧ u < n ∧ Hid (w.heap.size ≤ P10) ∧ Hid ((farL n links (y : Int)).getD u 0 = (g : Int)) ∧ Hid (dn ++ wayL links (farL n links (y : Int)) g (u : Int) = wayL links (farL n links (y : Int)) k0 (x : Int)) ∧ Hid (WayP W F w1.heap.size (w1.heap.size + 1) P10 w1.heap.size n (farL n links (y : Int)) (u : Int) lv dn) ∧ Hid (dn.length + g = k0) ∧ Hid (Below w.heap.size w W) ∧ Hid (W.heap[w.heap.size]? = some (.cells #[.int .i64 n, .slice a links.length cap] 80 (0, 0))) ∧ Hid (MarksAt W L) ∧ Hid (∀ d ∈ L, w.heap.size ≤ d)) k0 ⟨x, w1.heap.size + 1 + 1, .slice none 0 0, [], [], _, _, _, _, _, _, _, _, rfl, hx, by show _ ≤ _; have := HBW1.out.size; omega, by show _ = _; rw [← HZ.out]; exact HK0.out, rfl, HST, Nat.zero_add _, HBW, HBX, ⟨List.nodup_nil, fun d h => by cases h⟩, fun d h => by cases h⟩ ?_
    clear HST HBW HBX HBA
    rintro g A W ⟨u, P10, lv, dn, L, u20, u22, u23, u24, u25, u26, u27, u45, rfl, hu, HP10, HG, HWAY, HS, HLEN, HBW, HBX, HM, HL⟩
    obtain ⟨c8, f8⟩ := cell1 HS.out.h8
    obtain ⟨c9, f9⟩ := cell1 HS.out.h9
    obtain ⟨c10, f10⟩ := cell1 HS.out.h10
    by_cases hub : u = y
    · subst hub
      have hg0 : g = 0 := by
        have h1 := far_self links hu
        rw [HG.out] at h1
        omega
      subst hg0
      obtain ⟨alv, clv, hlv⟩ := own_slice HS.out.own
      gi_wp2_with fail
      refine leaves_marks L W HM.out ?_
      intro W' h1 h2 h3 h4 h5
      refine ⟨_, results_tmp2 rfl _ _ _, fun h => absurd h (by rw [← HZ.out]; exact HD.out), fun _ => ?_⟩
      have hl : wayL links (farL n links (u : Int)) ((farL n links (u : Int)).getD x 0).toNat (x : Int) = dn := by
        rw [← HZ.out, HK0.out, Int.toNat_natCast, ← HWAY.out, wayL, List.append_nil]
      rw [hl]
      subst hlv
      refine ⟨alv, clv, rfl, rowAt_of_own (own_other HS.out.own (fun k hk => h5 k (fun hm => ?_))), ?_⟩
      · have e1 := HM.out.2 k hm
        rcases HS.out.own.2 with ⟨e0, _⟩ | ⟨g, cp, cur, e0, _, h6, _⟩
        · rw [e0] at hk; cases hk
        · rw [e0] at hk; cases hk; rw [h6] at e1; cases e1
      · refine ⟨h2.trans HBW.out.os, h3.trans HBW.out.tape, h4.trans HBW.out.output, by rw [← h1]; exact HBW.out.size, fun k hk => ?_⟩
        rw [h5 k (fun hm => by have := HL.out k hm; omega)]
        exact HBW.out.block k hk
    · have hb0 : W.cell? ⟨w.heap.size, 0, none⟩ = some (.int .i64 n) := by simp only [World.cell?, HBX.out]; rfl
      have hb1 : W.cell? ⟨w.heap.size, 1, none⟩ = some (.slice a links.length cap) := by simp only [World.cell?, HBX.out]; rfl
      have hne : ((u : Int) == (y : Int)) = false := beq_eq_false_iff_ne.2 (by omega)
      have hdu : (farL n links (y : Int)).getD u 0 ≠ -1 := by rw [HG.out]; omega
      obtain ⟨hl1, hv1, hop1, hmem1, hnx1, hvn1, hdv1, hduv⟩ := hopOn_some HE.out hy hu hub hdu
      have HHOP := hide' hop1
      have HDUV := hide' hduv
      have HNE := hide' hub
      have HDV : Hid (0 ≤ (farL n links (y : Int)).getD hv1 0) := by
        have h9 := (far_spec HE.out hy).2.1 hv1 hvn1
        show _ ≤ _
        omega
      clear hop1 hmem1 hnx1 hdv1 hduv hub hdu
      gi_wp2_with fail
      refine ((callsIn_wide (n := 2)).2 (onward_any n (.slice a links.length cap) (u : Int) W)).mono ?_
      rintro e w2 ⟨rfl, hw2⟩
      have hz2 : w2.heap.size = W.heap.size + 2 := by rw [hw2]; simp
      have hbw2 : Below W.heap.size W w2 := by rw [hw2]; exact ((Below.refl _ W).alloc (Nat.le_refl _) _).alloc (by simp) _
      have hg2 : w2.heap[W.heap.size]? = some (.cells #[.int .i64 n, .slice a links.length cap] 80 (0, 0)) := by
        rw [hw2]
        exact (Below.heap_alloc _ _ _ (by simp)).trans (World.alloc_heap_new W _)
      have hu2 : w2.heap[W.heap.size + 1]? = some (.cells #[.int .i64 (u : Int)] 3 (0, 0)) := by
        rw [hw2]
        have := World.alloc_heap_new (W.alloc (.cells #[.int .i64 n, .slice a links.length cap] 80)) (.cells #[.int .i64 (u : Int)] 3)
        rwa [World.size_alloc] at this
      obtain ⟨bls, hbls, hbl⟩ : ∃ bls : List Nat, (∀ k ∈ bls, k < w.heap.size) ∧ ∀ b o, a = some ⟨b, o, none⟩ → 0 < links.length → b ∈ bls := by
        by_cases h0 : 0 < links.length
        · obtain ⟨b, off, ea, hce⟩ := link_elem HR.out 0 h0
          refine ⟨[b], fun k hk => ?_, fun b2 o e _ => ?_⟩
          · rw [List.mem_singleton.1 hk]
            exact World.block_lt_of_cell? w _ (hce 0 _ rfl)
          · rw [ea] at e
            cases e
            simp
        · exact ⟨[], fun k hk => (by cases hk), fun _ _ _ h => absurd h h0⟩
      have hWs := HBW.out.size
      have HS2 := hide' (HS.out.grow (W' := w2) (fun k c t fz hk => (hbw2.block k (Array.getElem?_eq_some_iff.1 hk).1).trans hk))
      have HBW2 : Hid (Below w.heap.size w w2) := HBW.out.trans (hbw2.mono hWs)
      have HBX2 : Hid (w2.heap[w.heap.size]? = some (.cells #[.int .i64 n, .slice a links.length cap] 80 (0, 0))) := (hbw2.block _ (Array.getElem?_eq_some_iff.1 HBX.out).1).trans HBX.out
      have HM2 : Hid (MarksAt w2 L) := ⟨HM.out.1, fun d hd => (hbw2.block d (Array.getElem?_eq_some_iff.1 (HM.out.2 d hd)).1).trans (HM.out.2 d hd)⟩
      have hbse : ∀ k ∈ [W.heap.size, W.heap.size + 1] ++ bls, k < w2.heap.size := fun k hk => by
        rcases List.mem_append.1 hk with hk | hk
        · simp at hk; omega
        · have := hbls k hk; omega
      obtain ⟨bs, hbsd⟩ : ∃ bs, bs = [W.heap.size, W.heap.size + 1] ++ bls := ⟨_, rfl⟩
      have hstop := onward1_stops links hlen n a cap (u : Int) W.heap.size (W.heap.size + 1) bs (by rw [hbsd]; simp) (by rw [hbsd]; simp) (fun b o e h => by rw [hbsd]; exact List.mem_append_right _ (hbl b o e h)) w2 (by rw [hbsd]; exact hbse) hg2 (cell1 hu2).1 (RowAt.below HR.out HBW2.out (Nat.le_refl _))
      rw [← hbsd] at hbse
      clear hbsd hbl hbls hw2 c8 f8 c9 f9 c10 f10 hb0 hb1 hg2 hu2
      have HB8 := hide' hbse
      have HST8 := hide' hstop
      have HZ2 := hide' hz2
      clear hbse hstop hz2
      gi_wp2_with fail
      have hbse := HB8.out
      refine wpIn_rangeFunc_ownH (n := 3) (α := Lead links (u : Int)) rfl (by decide) (gf := 82) (lb := #[.pointer (some ⟨W.heap.size, 0, none⟩), .pointer (some ⟨W.heap.size + 1, 0, none⟩)]) rfl trivial (enters_of Tryz.func82 (by kernel_rfl) rfl) HST8.out (fun h k => h.trans k) (fun X l o o' hl _ _ _ => KeptB.putObj o' (fun hm => by have := hbse l hm; omega)) (Below.refl _ _) (fun _ => rfl)
        (fun pre W' => Hid (WayP W' F w1.heap.size (w1.heap.size + 1) P10 w1.heap.size n (farL n links (y : Int)) (u : Int) lv dn) ∧ Hid (NoneOf (farL n links (y : Int)) (u : Int) pre) ∧ Hid (Below w.heap.size w W') ∧ Hid (KeptB bs w2 W') ∧ Hid (w2.heap.size ≤ W'.heap.size) ∧ Hid (W'.heap[w.heap.size]? = some (.cells #[.int .i64 n, .slice a links.length cap] 80 (0, 0))) ∧ Hid (MarksAt W' L))
        (fun c pre W' => ∃ (q : List (Lead links (u : Int))) (xl : Lead links (u : Int)) (lv' : Value), c = .exit 2 ∧ pre = q ++ [xl] ∧ NoneOf (farL n links (y : Int)) (u : Int) q ∧ isHop (farL n links (y : Int)) (u : Int) xl.1 = true ∧ Hid (WayP W' F w1.heap.size (w1.heap.size + 1) P10 w1.heap.size n (farL n links (y : Int)) xl.1.2 lv' (dn ++ [xl.1.1])) ∧ Hid (Below w.heap.size w W') ∧ Hid (w2.heap.size ≤ W'.heap.size) ∧ Hid (W'.heap[w.heap.size]? = some (.cells #[.int .i64 n, .slice a links.length cap] 80 (0, 0))) ∧ Hid (MarksAt W' L))
        ?hI ?hIx ⟨HS2, fun x hx => by (cases hx), HBW2, KeptB.refl _ _, Nat.le_refl _, HBX2, HM2⟩
        (fun xl A' W' => ∃ P11 : Nat, A' = { tmps := #[.agg #[.int .i64 n, .slice a links.length cap], .int .i64 (x : Int), .int .i64 (y : Int), .pointer (some ⟨w.heap.size, 0, none⟩), undef, undef, .slice none 0 0, .int .i64 0, .pointer (some ⟨w1.heap.size, 0, none⟩), .pointer (some ⟨w1.heap.size + 1, 0, none⟩), .pointer (some ⟨P10, 0, none⟩), .pointer (some ⟨P11, 0, none⟩), .int .i64 xl.1.2, .agg #[.int .i64 n, .slice a links.length cap], .int .i64 (y : Int), .slice (some ⟨F, 0, none⟩) n n, .slice (some ⟨F, 0, none⟩) n n, .int .i64 (x : Int), .pointer (some ⟨F, x, none⟩), .int .i64 z, u20, .int .i64 (x : Int), .int .i64 (u : Int), .int .i64 (y : Int), .bool true, .agg #[.int .i64 n, .slice a links.length cap], .int .i64 (u : Int), .func (.func 82) #[] #[.pointer (some ⟨W.heap.size, 0, none⟩), .pointer (some ⟨W.heap.size + 1, 0, none⟩)], .agg #[.bool xl.1.1.tie, .int .i64 xl.1.1.no], .int .i64 xl.1.2, undef, undef, undef, undef, undef, undef, undef, undef, undef, undef, undef, undef, undef, undef, undef, u45, undef], defers := [] } ∧ W'.heap[P11]? = some (.cells #[.bool xl.1.1.tie, .int .i64 xl.1.1.no] 47 (0, 0))) ?hAx ?assign ?body ?done ?stop
      case hI =>
        rintro pre X Y row ⟨h1, h2, h3, h4, h5, h6, h7⟩ hg hr
        have hcell : ∀ (k : Nat) (c : Array Value) (t : TypeId) (fz : Nat × Nat), X.heap[k]? = some (Obj.cells c t fz) → Y.heap[k]? = some (Obj.cells c t fz) := fun k c t fz hk => by
          rw [hg.block k (Array.getElem?_eq_some_iff.1 hk).1 (fun e => by
            obtain ⟨_, o, ho, hc⟩ := hr k e.symm
            rw [hk] at ho
            cases ho
            cases hc), hk]
        have hlow : ∀ k, k < w2.heap.size → k < X.heap.size → Y.heap[k]? = X.heap[k]? := fun k hk hk2 => hg.block k hk2 (fun e => by have := (hr k e.symm).1; omega)
        refine ⟨h1.out.grow hcell, h2, ?_, ?_, Nat.le_trans h5.out hg.size, hcell _ _ _ _ h6.out, h7.out.1, fun d hd => ?_⟩
        · exact h3.out.grown hg h3.out.size (fun k e => by have := (hr k e).1; have := HBW2.out.size; omega)
        · exact h4.out.trans ⟨hg.size, fun k hk => hlow k (hbse k hk) (by have := hbse k hk; have := h5.out; omega)⟩
        · have e1 := HM2.out.2 d hd
          have e2 := (Array.getElem?_eq_some_iff.1 e1).1
          have e3 := h7.out.2 d hd
          exact (hlow d e2 (Array.getElem?_eq_some_iff.1 e3).1).trans e3
      case hIx =>
        rintro c pre X Y row ⟨q, xl, lv', e1, e2, e3, e4, h1, h3, h5, h6, h7⟩ hg hr
        have hcell : ∀ (k : Nat) (c : Array Value) (t : TypeId) (fz : Nat × Nat), X.heap[k]? = some (Obj.cells c t fz) → Y.heap[k]? = some (Obj.cells c t fz) := fun k c t fz hk => by
          rw [hg.block k (Array.getElem?_eq_some_iff.1 hk).1 (fun e => by
            obtain ⟨_, o, ho, hc⟩ := hr k e.symm
            rw [hk] at ho
            cases ho
            cases hc), hk]
        have hlow : ∀ k, k < w2.heap.size → k < X.heap.size → Y.heap[k]? = X.heap[k]? := fun k hk hk2 => hg.block k hk2 (fun e => by have := (hr k e.symm).1; omega)
        refine ⟨q, xl, lv', e1, e2, e3, e4, h1.out.grow hcell, ?_, Nat.le_trans h5.out hg.size, hcell _ _ _ _ h6.out, h7.out.1, fun d hd => ?_⟩
        · exact h3.out.grown hg h3.out.size (fun k e => by have := (hr k e).1; have := HBW2.out.size; omega)
        · have e1 := HM2.out.2 d hd
          have e2 := (Array.getElem?_eq_some_iff.1 e1).1
          have e3 := h7.out.2 d hd
          exact (hlow d e2 (Array.getElem?_eq_some_iff.1 e3).1).trans e3
      case hAx =>
        rintro xl A' _ X Y row ⟨P11, h1, h2⟩ hg hr
        refine ⟨P11, h1, ?_⟩
        rw [hg.block P11 (Array.getElem?_eq_some_iff.1 h2).1 (fun e => by
          obtain ⟨_, o, ho, hc⟩ := hr P11 e.symm
          rw [h2] at ho
          cases ho
          cases hc), h2]
      case assign =>
        rintro l pre xl X K ⟨h1, h2, h3, h4, h5, h6, h7⟩ hK
        unfold leadV
        have hKK := hK { tmps := #[.agg #[.int .i64 n, .slice a links.length cap], .int .i64 (x : Int), .int .i64 (y : Int), .pointer (some ⟨w.heap.size, 0, none⟩), undef, undef, .slice none 0 0, .int .i64 0, .pointer (some ⟨w1.heap.size, 0, none⟩), .pointer (some ⟨w1.heap.size + 1, 0, none⟩), .pointer (some ⟨P10, 0, none⟩), .pointer (some ⟨X.heap.size, 0, none⟩), .int .i64 xl.1.2, .agg #[.int .i64 n, .slice a links.length cap], .int .i64 (y : Int), .slice (some ⟨F, 0, none⟩) n n, .slice (some ⟨F, 0, none⟩) n n, .int .i64 (x : Int), .pointer (some ⟨F, x, none⟩), .int .i64 z, u20, .int .i64 (x : Int), .int .i64 (u : Int), .int .i64 (y : Int), .bool true, .agg #[.int .i64 n, .slice a links.length cap], .int .i64 (u : Int), .func (.func 82) #[] #[.pointer (some ⟨W.heap.size, 0, none⟩), .pointer (some ⟨W.heap.size + 1, 0, none⟩)], .agg #[.bool xl.1.1.tie, .int .i64 xl.1.1.no], .int .i64 xl.1.2, undef, undef, undef, undef, undef, undef, undef, undef, undef, undef, undef, undef, undef, undef, undef, u45, undef], defers := [] } (X.alloc (.cells #[.bool xl.1.1.tie, .int .i64 xl.1.1.no] 47)) ((KeepsOthers.alloc _ _).from _) (KeptB.alloc _ (fun k hk => by have := hbse k hk; have := h5.out; omega))
          ⟨h1.out.grow (fun k c t fz hk => (Below.heap_alloc _ _ _ (Array.getElem?_eq_some_iff.1 hk).1).trans hk), h2, h3.out.alloc h3.out.size _, h4.out.trans (KeptB.alloc _ (fun k hk => by have := hbse k hk; have := h5.out; omega)), Nat.le_trans h5.out (by simp), (Below.heap_alloc _ _ _ (Array.getElem?_eq_some_iff.1 h6.out).1).trans h6.out, h7.out.1, fun d hd => (Below.heap_alloc _ _ _ (Array.getElem?_eq_some_iff.1 (h7.out.2 d hd)).1).trans (h7.out.2 d hd)⟩
          ⟨X.heap.size, rfl, World.alloc_heap_new X _⟩
        have HKK := hide' hKK
        clear hK hKK
        gi_wp2
        exact HKK.out
      case done =>
        rintro D xs X hD hxs ⟨h1, h2, h3, h4, h5, h6, h7⟩ hDf
        exfalso
        have h9 := find_none h2.out
        rw [hxs] at h9
        exact absurd (h9.symm.trans HHOP.out) (by simp)
      case stop =>
        rintro D c pre X hD ⟨rest, hrest⟩ ⟨q, xl, lv', rfl, rfl, hq, hxl, h1, h3, h5, h6, h7⟩ hDf
        have hop : hopOn links (farL n links (y : Int)) (u : Int) = some xl.1 := by
          have h9 : ((q ++ [xl]).map (·.1) ++ rest).find? (isHop (farL n links (y : Int)) (u : Int)) = some xl.1 := by
            rw [List.map_append, List.find?_append, List.find?_append, find_none hq]
            simp [hxl]
          exact (congrArg (List.find? (isHop (farL n links (y : Int)) (u : Int))) hrest).symm.trans h9
        have hxe : xl.1 = (hl1, (hv1 : Int)) := Option.some.inj (hop.symm.trans HHOP.out)
        rw [hxe] at h1
        obtain ⟨c10, f10⟩ := cell1 h1.out.h10
        have HDF := hide' hDf
        have HBWX : Hid (w.heap.size ≤ X.heap.size) := h3.out.size
        clear hDf
        gi_wp2
        have hg1 := HG.out
        have hg2 := HDUV.out
        have hg3 := HDV.out
        obtain ⟨f, hgf⟩ : ∃ f, g = f + 1 := ⟨g - 1, by omega⟩
        have hDl : D < X.heap.size := (Array.getElem?_eq_some_iff.1 HDF.out).1
        refine ⟨f, by omega, hv1, X.heap.size, lv', dn ++ [hl1], D :: L, ⟨rfl, rfl⟩, hvn1, HBWX, ?_, ?_, h1.out.next, ?_, h3.out.alloc h3.out.size _, (Below.heap_alloc _ _ _ (Array.getElem?_eq_some_iff.1 h6.out).1).trans h6.out, ⟨?_, fun d hd => ?_⟩, fun d hd => ?_⟩
        · show _ = _
          rw [← List.getD_eq_getElem?_getD]
          omega
        · show _ = _
          have h9 := HWAY.out
          rw [hgf, wayL_step HHOP.out f] at h9
          rw [← h9, List.append_assoc]
          rfl
        · show _ = _
          have h9 := HLEN.out
          rw [List.length_append]
          simp only [List.length_cons, List.length_nil]
          omega
        · refine List.nodup_cons.2 ⟨fun hm => ?_, HM2.out.1⟩
          have e1 := (Array.getElem?_eq_some_iff.1 (HM2.out.2 D hm)).1
          omega
        · rcases List.mem_cons.1 hd with rfl | hd
          · exact (Below.heap_alloc _ _ _ hDl).trans HDF.out
          · have e1 := h7.out.2 d hd
            exact (Below.heap_alloc _ _ _ (Array.getElem?_eq_some_iff.1 e1).1).trans e1
        · rcases List.mem_cons.1 hd with rfl | hd
          · have := HBW2.out.size; omega
          · exact HL.out d hd
      case body =>
        rintro l pre xl A' X hwl hrec ⟨h1, h2, h3, h4, h5, h6, h7⟩ ⟨P11, rfl, h11⟩ hpl
        obtain ⟨c8, f8⟩ := cell1 h1.out.h8
        obtain ⟨c10, f10⟩ := cell1 h1.out.h10
        have hvv := onw_ends HE.out xl.1 xl.2
        obtain ⟨vN, hvN⟩ := Int.eq_ofNat_of_zero_le hvv.1
        have hvn : vN < n := by omega
        obtain ⟨cV, fV⟩ := intsCell h1.out.hF (j := vN) (by rw [HFL.out]; exact hvn)
        obtain ⟨cU, fU⟩ := intsCell h1.out.hF (j := u) (by rw [HFL.out]; exact hu)
        have hdr := (far_spec HE.out hy).2.1 u hu
        obtain ⟨dv, hdv⟩ : ∃ d, d = (farL n links (y : Int)).getD vN 0 := ⟨_, rfl⟩
        obtain ⟨du, hdu⟩ : ∃ d, d = (farL n links (y : Int)).getD u 0 := ⟨_, rfl⟩
        rw [← hdv] at cV
        rw [← hdu] at cU hdr
        have hwd : IntKind.i64.wrap (du - 1) = du - 1 := Go.IntWalk.i64_in _ (by omega)
        have HIS : Hid (isHop (farL n links (y : Int)) (u : Int) xl.1 = (dv == du - 1)) := by
          show _ = _
          rw [isHop, hvN, Int.toNat_natCast, Int.toNat_natCast, ← hdv, ← hdu]
        have HVN := hide' hvN
        have HH11 := hide' h11
        rw [hvN]
        clear hdv hdu hvN h11 hvv
        gi_wp2_with fail
        refine wpIn_calm ?_
        refine wpIn_region_U (fun W => W.cell? ⟨w1.heap.size, 0, none⟩ = some (.slice (some ⟨F, 0, none⟩) n n) ∧ W.cell? ⟨P10, 0, none⟩ = some (.int .i64 (u : Int)) ∧ W.cell? ⟨F, vN, none⟩ = some (.int .i64 dv) ∧ W.cell? ⟨F, u, none⟩ = some (.int .i64 du)) 9 (by kernel_rfl) ?_
        refine wpAnyU_takeAt 0 (some 30) (v := ?_) (by kernel_rfl) rfl (by kernel_rfl) (by kernel_rfl) (by kernel_rfl) (by kernel_rfl) (by kernel_rfl) (fun _ _ _ h => h) (by exact ⟨c8, c10, cV, cU⟩) (fun o hop w => by injection hop with hop; subst hop; rfl) (fun o hop => ?_) ?_
        rotate_left
        · injection hop with hop
          subst hop
          refine ⟨rfl, fun W hW => ?_⟩
          obtain ⟨s0, s1, s2, s3⟩ := hW
          go_simp
          first
          | done
          | rfl
        try simp only [Act.put, List.setIfInBounds_toArray, List.set_cons_zero, List.set_cons_succ]
        refine wpAnyU_takeAt 1 (some 31) (v := ?_) (by kernel_rfl) rfl (by kernel_rfl) (by kernel_rfl) (by kernel_rfl) (by kernel_rfl) (by kernel_rfl) (fun _ _ _ h => h) (by exact ⟨c8, c10, cV, cU⟩) (fun o hop w => by injection hop with hop; subst hop; rfl) (fun o hop => ?_) ?_
        rotate_left
        · injection hop with hop
          subst hop
          refine ⟨rfl, fun W hW => ?_⟩
          obtain ⟨s0, s1, s2, s3⟩ := hW
          go_simp
          first
          | done
          | rfl
        try simp only [Act.put, List.setIfInBounds_toArray, List.set_cons_zero, List.set_cons_succ]
        refine wpAnyU_takeAt 2 (some 32) (v := ?_) (by kernel_rfl) rfl (by kernel_rfl) (by kernel_rfl) (by kernel_rfl) (by kernel_rfl) (by kernel_rfl) (fun _ _ _ h => h) (by exact ⟨c8, c10, cV, cU⟩) (fun o hop w => by injection hop with hop; subst hop; rfl) (fun o hop => ?_) ?_
        rotate_left
        · injection hop with hop
          subst hop
          refine ⟨rfl, fun W hW => ?_⟩
          obtain ⟨s0, s1, s2, s3⟩ := hW
          go_simp
          first
          | done
          | rfl
        try simp only [Act.put, List.setIfInBounds_toArray, List.set_cons_zero, List.set_cons_succ]
        refine wpAnyU_takeAt 3 (some 33) (v := ?_) (by kernel_rfl) rfl (by kernel_rfl) (by kernel_rfl) (by kernel_rfl) (by kernel_rfl) (by kernel_rfl) (fun _ _ _ h => h) (by exact ⟨c8, c10, cV, cU⟩) (fun o hop w => by injection hop with hop; subst hop; rfl) (fun o hop => ?_) ?_
        rotate_left
        · injection hop with hop
          subst hop
          refine ⟨rfl, fun W hW => ?_⟩
          obtain ⟨s0, s1, s2, s3⟩ := hW
          go_simp
          first
          | done
          | rfl
        try simp only [Act.put, List.setIfInBounds_toArray, List.set_cons_zero, List.set_cons_succ]
        refine wpAnyU_takeAt 4 (some 34) (v := ?_) (by kernel_rfl) rfl (by kernel_rfl) (by kernel_rfl) (by kernel_rfl) (by kernel_rfl) (by kernel_rfl) (fun _ _ _ h => h) (by exact ⟨c8, c10, cV, cU⟩) (fun o hop w => by injection hop with hop; subst hop; rfl) (fun o hop => ?_) ?_
        rotate_left
        · injection hop with hop
          subst hop
          refine ⟨rfl, fun W hW => ?_⟩
          obtain ⟨s0, s1, s2, s3⟩ := hW
          go_simp
          first
          | done
          | rfl
        try simp only [Act.put, List.setIfInBounds_toArray, List.set_cons_zero, List.set_cons_succ]
        refine wpAnyU_takeAt 5 (some 35) (v := ?_) (by kernel_rfl) rfl (by kernel_rfl) (by kernel_rfl) (by kernel_rfl) (by kernel_rfl) (by kernel_rfl) (fun _ _ _ h => h) (by exact ⟨c8, c10, cV, cU⟩) (fun o hop w => by injection hop with hop; subst hop; rfl) (fun o hop => ?_) ?_
        rotate_left
        · injection hop with hop
          subst hop
          refine ⟨rfl, fun W hW => ?_⟩
          obtain ⟨s0, s1, s2, s3⟩ := hW
          go_simp
          first
          | done
          | rfl
        try simp only [Act.put, List.setIfInBounds_toArray, List.set_cons_zero, List.set_cons_succ]
        refine wpAnyU_takeAt 6 (some 36) (v := ?_) (by kernel_rfl) rfl (by kernel_rfl) (by kernel_rfl) (by kernel_rfl) (by kernel_rfl) (by kernel_rfl) (fun _ _ _ h => h) (by exact ⟨c8, c10, cV, cU⟩) (fun o hop w => by injection hop with hop; subst hop; rfl) (fun o hop => ?_) ?_
        rotate_left
        · injection hop with hop
          subst hop
          refine ⟨rfl, fun W hW => ?_⟩
          obtain ⟨s0, s1, s2, s3⟩ := hW
          go_simp
          first
          | done
          | rfl
        try simp only [Act.put, List.setIfInBounds_toArray, List.set_cons_zero, List.set_cons_succ]
        refine wpAnyU_takeAt 7 (some 37) (v := ?_) (by kernel_rfl) rfl (by kernel_rfl) (by kernel_rfl) (by kernel_rfl) (by kernel_rfl) (by kernel_rfl) (fun _ _ _ h => h) (by exact ⟨c8, c10, cV, cU⟩) (fun o hop w => by injection hop with hop; subst hop; rfl) (fun o hop => ?_) ?_
        rotate_left
        · injection hop with hop
          subst hop
          refine ⟨rfl, fun W hW => ?_⟩
          obtain ⟨s0, s1, s2, s3⟩ := hW
          go_simp
          first
          | done
          | rfl
        try simp only [Act.put, List.setIfInBounds_toArray, List.set_cons_zero, List.set_cons_succ]
        refine wpAnyU_takeAt 8 (some 38) (v := ?_) (by kernel_rfl) rfl (by kernel_rfl) (by kernel_rfl) (by kernel_rfl) (by kernel_rfl) (by kernel_rfl) (fun _ _ _ h => h) (by exact ⟨c8, c10, cV, cU⟩) (fun o hop w => by injection hop with hop; subst hop; rfl) (fun o hop => ?_) ?_
        rotate_left
        · injection hop with hop
          subst hop
          refine ⟨rfl, fun W hW => ?_⟩
          obtain ⟨s0, s1, s2, s3⟩ := hW
          go_simp
          first
          | done
          | rfl
        try simp only [Act.put, List.setIfInBounds_toArray, List.set_cons_zero, List.set_cons_succ]
        refine wpAnyU_one (i := 9) (by kernel_rfl) rfl rfl (fun K' hK => ?_)
        go_simp
        refine hK.out _ _ (fun h => absurd rfl h) ?_
        clear hK K'
        refine wpAnyU_done (by kernel_rfl) ?_ _
        by_cases hc : dv = du - 1
        · have hbq : (dv == du - 1) = true := beq_iff_eq.2 hc
          have HBQ := hide' hbq
          have hdl : dn.length ≤ 1000 := by have := HLEN.out; omega
          obtain ⟨X1, hX1⟩ : ∃ X1, X1 = X.drew := ⟨_, rfl⟩
          rw [← hX1]
          have hst1 : WayP X1 F w1.heap.size (w1.heap.size + 1) P10 w1.heap.size n (farL n links (y : Int)) (u : Int) lv dn := by rw [hX1]; exact h1.out.grow (fun _ _ _ _ h => h)
          have h11' : X1.heap[P11]? = some (.cells #[.bool xl.1.1.tie, .int .i64 xl.1.1.no] 47 (0, 0)) := by rw [hX1]; exact HH11.out
          obtain ⟨c9, f9⟩ := cell1 hst1.h9
          have p0 : X1.cell? ⟨P11, 0, none⟩ = some (.bool xl.1.1.tie) := by simp only [World.cell?, h11']; rfl
          have p1 : X1.cell? ⟨P11, 1, none⟩ = some (.int .i64 xl.1.1.no) := by simp only [World.cell?, h11']; rfl
          have HX1 : Hid (KeepsOthers X X1 ∧ Below w.heap.size w X1 ∧ X1.heap.size = X.heap.size ∧ X1.heap[w.heap.size]? = X.heap[w.heap.size]?) := by rw [hX1]; exact ⟨KeepsOthers.drew _, h3.out.drew, rfl, rfl⟩
          have hgr := hst1.own
          have HS1 := hide' hst1
          have HSZ : Hid (w1.heap.size < X1.heap.size) := (Array.getElem?_eq_some_iff.1 hst1.h8).1
          have HCN := hide' (cell_news X1 [.bool xl.1.1.tie, .int .i64 xl.1.1.no] 47)
          clear hX1 hst1 c8 c10 cV cU f8 f10 fV fU h11' hc hdr
          obtain ⟨i0, hi0, hzz0, hzz1, hzz2⟩ := info_parts Tryz.info47
          gi_wp2_with (gi_at_builtin; (refine wpListIn_append_own _ rfl _ _ 43 rfl w1.heap.size 47 i0 _ 2 16 Tryz.underlying43 hi0 hzz0 hzz1 hzz2 rfl (by decide) _ _ _ rfl (hgr.alloc _) ⟨X1.heap.size, 0, none⟩ 1 1 [.bool xl.1.1.tie, .int .i64 xl.1.1.no] rfl rfl HCN.out hop_one (by unfold maxLen; show dn.length + 1 ≤ _; omega) (by show (dn.length + 1) * 16 ≤ _; omega) (by have := HSZ.out; rw [World.size_alloc]; omega) ?_; intro v' w3 hown' hgrow _; refine Still.go ?_))
          unfold Still
          have hg3 : (X1.alloc (.cells #[.bool xl.1.1.tie, .int .i64 xl.1.1.no] 47)).grownBy w3 lv.ownBlock := hgrow
          obtain ⟨a3, c3, rfl⟩ := own_slice hown'
          have hpush := HS1.out.push hg3 hown' (vN : Int)
          have k9 := HS1.out.same hg3 (by decide) HS1.out.h9
          have k10 := HS1.out.same hg3 (by decide) HS1.out.h10
          obtain ⟨c9', f9'⟩ := cell1 k9
          obtain ⟨c10', f10'⟩ := cell1 k10
          have hsz := HX1.out.2.2.1
          have hsz1 := HSZ.out
          have hs3 := hg3.size
          rw [World.size_alloc] at hs3
          have hwb := HBW1.out.size
          have hfw := HFW.out
          have h10w : w.heap.size < P10 ∨ P10 < w.heap.size ∨ P10 = w.heap.size := by omega
          have hne10 : P10 ≠ w.heap.size := fun e => by
            have h9 := HS1.out.h10
            rw [e, HX1.out.2.2.2, h6.out] at h9
            cases h9
          have HEND : Hid (KeepsOthers X ((w3.setCell ⟨w1.heap.size + 1, 0, none⟩ (.slice a3 (dn.length + 1) c3)).setCell ⟨P10, 0, none⟩ (.int .i64 (vN : Int))) ∧ Below w.heap.size w ((w3.setCell ⟨w1.heap.size + 1, 0, none⟩ (.slice a3 (dn.length + 1) c3)).setCell ⟨P10, 0, none⟩ (.int .i64 (vN : Int))) ∧ w2.heap.size ≤ ((w3.setCell ⟨w1.heap.size + 1, 0, none⟩ (.slice a3 (dn.length + 1) c3)).setCell ⟨P10, 0, none⟩ (.int .i64 (vN : Int))).heap.size ∧ ((w3.setCell ⟨w1.heap.size + 1, 0, none⟩ (.slice a3 (dn.length + 1) c3)).setCell ⟨P10, 0, none⟩ (.int .i64 (vN : Int))).heap[w.heap.size]? = some (.cells #[.int .i64 n, .slice a links.length cap] 80 (0, 0))) := by
            refine ⟨?_, ?_, ?_, ?_⟩
            · refine HX1.out.1.trans ((KeepsOthers.alloc _ _).trans ((KeepsOthers.of_grownBy hg3 (fun j o e ho => ?_)).trans ((KeepsOthers.setCell _ _ _).trans (KeepsOthers.setCell _ _ _))))
              obtain ⟨cur, fz, h9⟩ := own_type (hgr.alloc (.cells #[.bool xl.1.1.tie, .int .i64 xl.1.1.no] 47)) e
              rw [h9] at ho
              cases ho
              rfl
            · refine (((HX1.out.2.1.alloc HX1.out.2.1.size _).grown hg3 ?_ (fun k e => by have := own_at hgr k e; omega)).setCell (p := ⟨w1.heap.size + 1, 0, none⟩) (by show w.heap.size ≤ w1.heap.size + 1; omega) _).setCell (p := ⟨P10, 0, none⟩) ?_ _
              · rw [World.size_alloc]; have := HX1.out.2.1.size; omega
              · exact HP10.out
            · rw [World.size_setCell, World.size_setCell]
              have := h5.out
              omega
            · rw [Below.heap_setCell _ _ _ _ (fun e => hne10 e.symm), Below.heap_setCell _ _ _ _ (by show w.heap.size ≠ w1.heap.size + 1; omega)]
              refine HS1.out.same hg3 (by decide) ?_
              rw [HX1.out.2.2.2]
              exact h6.out
          have n9 : P10 ≠ w1.heap.size + 1 := fun e => by rw [← e, k10] at k9; cases k9
          have c10s : (w3.setCell ⟨w1.heap.size + 1, 0, none⟩ (.slice a3 (dn.length + 1) c3)).cell? ⟨P10, 0, none⟩ = some (.int .i64 (u : Int)) := by
            rw [World.cell?_of_block (Below.heap_setCell _ _ _ _ n9)]; exact c10'
          have f10s : (w3.setCell ⟨w1.heap.size + 1, 0, none⟩ (.slice a3 (dn.length + 1) c3)).frozen? ⟨P10, 0, none⟩ = false := (cell1 ((Below.heap_setCell _ _ _ _ n9).trans k10)).2
          have HPU := hide' hpush
          clear hpush hgrow hg3 hown' k9 k10 hsz hs3 hsz1 hwb hfw h10w
          gi_wp2
          refine ⟨HEND.out.1.from _, pre, xl, .slice a3 (dn.length + 1) c3, rfl, rfl, h2.out, HIS.out.trans HBQ.out, ?_, HEND.out.2.1, HEND.out.2.2.1, HEND.out.2.2.2, h7.out.kept (fun k o hk ho => HEND.out.1.same k o hk ho)⟩
          rw [HVN.out]
          exact HPU
        · have hbq : (dv == du - 1) = false := beq_eq_false_iff_ne.2 hc
          have HBQ := hide' hbq
          gi_wp2
          refine ⟨(KeepsOthers.drew _).from _, ⟨Nat.le_refl _, fun _ _ => rfl⟩, h1.out.grow (fun _ _ _ _ h => h), fun y hy => ?_, h3.out.drew, h4, h5, h6, h7.out.1, h7.out.2⟩
          rcases List.mem_append.1 hy with hy | hy
          · exact h2.out y hy
          · rw [List.mem_singleton.1 hy, HIS.out]; exact HBQ.out
end Go.Proofs.YtkcldnnopmagjabGreatDoor.Bar

/- The program's Way over any network. -/
namespace Go.Proofs.YtkcldnnopmagjabGreatDoor.Bar
open Go.RowKit Go.Shelf Doc

theorem has_yes (n : Nat) (lv : Value) (a : Int) (h1 : 0 ≤ a) (h2 : a < n) (w : World) :
    Calls Tryz.prog 41 #[.agg #[.int .i64 n, lv], .int .i64 a] w fun e w' => e = .returned (.bool true) ∧ w' = w.alloc (.cells #[.int .i64 n, lv] 80) := by
  go_enter Tryz.func41, Tryz.ntmps41
  go_wp2
  go_ret
  exact ⟨rfl, rfl⟩
theorem has_no (n : Nat) (lv : Value) (a : Int) (h : ¬ (0 ≤ a ∧ a < n)) (w : World) :
    Calls Tryz.prog 41 #[.agg #[.int .i64 n, lv], .int .i64 a] w fun e w' => e = .returned (.bool false) ∧ w' = w.alloc (.cells #[.int .i64 n, lv] 80) := by
  by_cases h1 : 0 ≤ a
  · have h2 : ¬ a < n := fun h2 => h ⟨h1, h2⟩
    clear h
    go_enter Tryz.func41, Tryz.ntmps41
    go_wp2
    go_ret
    exact ⟨rfl, rfl⟩
  · clear h
    go_enter Tryz.func41, Tryz.ntmps41
    go_wp2
    go_ret
    exact ⟨rfl, rfl⟩
theorem service_len {N : NetM} (hf : Fits N) (out : List Bool) : (serviceL N out).length ≤ 1000 := by
  have h1 := linksN_len N.lines out N.lines.length
  have h2 := linksT_len N.ties N.ties.length
  have h3 := hf.2.1
  have h4 := hf.2.2.2.2
  rw [serviceL, List.length_append]
  omega

set_option maxRecDepth 100000 in
set_option maxHeartbeats 4000000 in
theorem Way_any (N : NetM) (B1 : Nat) (b l g d t outv : Value) (out : List Bool) (p q : Int) (ls : List LinkM) (code : Int) (mx : Int) (w : World) (hsm : SmallM N) (htb : TabAll w) (ho : Owns w B1 b l g d t N) (hm : w.cell? ⟨1, 0, none⟩ = some (.int .i64 mx)) (hor : RowAt w outv out.length 1 (out.map Value.bool)) (hol : out.length ≤ 2000000) (hw : WayIs N out p q ls code) :
    Calls Tryz.prog 19 #[.agg #[.string N.name, b, l, g, d, t], outv, .int .i64 p, .int .i64 q] w fun e w' => AnswersH ls code w e w' := by
  obtain ⟨ab, cb, rfl⟩ := own_slice ho.hb
  obtain ⟨al, cl, rfl⟩ := own_slice ho.hl
  obtain ⟨ag, cg, rfl⟩ := own_slice ho.hg
  obtain ⟨ad, cd, rfl⟩ := own_slice ho.hd
  obtain ⟨at', ct, rfl⟩ := own_slice ho.ht
  obtain ⟨W, hW⟩ : ∃ W, W = w.alloc (.cells #[.string N.name, .slice ab N.buses.length cb, .slice al N.lines.length cl, .slice ag N.gens.length cg, .slice ad N.loads.length cd, .slice at' N.ties.length ct] 28) := ⟨_, rfl⟩
  have hbW : Below w.heap.size w W := by rw [hW]; exact (Below.refl _ w).alloc (Nat.le_refl _) _
  have hoW : Owns W B1 (.slice ab N.buses.length cb) (.slice al N.lines.length cl) (.slice ag N.gens.length cg) (.slice ad N.loads.length cd) (.slice at' N.ties.length ct) N := by
    rw [hW]
    exact ⟨ho.hb.alloc _, ho.hl.alloc _, ho.hg.alloc _, ho.hd.alloc _, ho.ht.alloc _⟩
  have HIS := hide' (inService_any N B1 _ _ _ _ _ outv out mx W hsm (htb.later hbW) hoW ((hbW.cell (p := ⟨1, 0, none⟩) (World.block_lt_of_cell? w _ hm)).trans hm) (RowAt.below hor hbW (Nat.le_refl _)) hol)
  have HW := hide' hW
  have HBW := hide' hbW
  have HWI := hide' hw
  clear hW hoW hm htb hsm hor hbW ho hw
  go_enter Tryz.func19, Tryz.ntmps19
  go_wp2_with fail
  rw [← HW.out]
  refine HIS.out.mono ?_
  rintro e w1 ⟨hb1, h1, h2, h3⟩
  have HB1 : Hid (Below w.heap.size w w1) := HBW.out.trans (hb1.mono HBW.out.size)
  clear hb1 HIS
  rcases HWI.out with ⟨hno, rfl, rfl⟩ | ⟨hm, hne, rfl, rfl⟩ | ⟨hm, heq, hr, rfl, rfl⟩ | ⟨hm, heq, x, y, rfl, rfl, hx, hy, hf, rfl, rfl⟩ | ⟨hm, heq, x, y, rfl, rfl, hx, hy, hf, hl, rfl⟩
  · obtain rfl := h3 hno
    have HB2 : Hid (∀ o, Below w.heap.size w (w1.alloc o)) := fun o => HB1.out.alloc HB1.out.size o
    clear h1 h2 h3 hno HWI
    go_wp2
    refine bodyPost_ret (results_tmp2 rfl _ _ _) rfl ?_
    exact answersH_nil (HB2.out _)
  · obtain rfl := h2 hm hne
    have HB2 : Hid (∀ o, Below w.heap.size w (w1.alloc o)) := fun o => HB1.out.alloc HB1.out.size o
    clear h1 h2 h3 hm hne HWI
    go_wp2
    refine bodyPost_ret (results_tmp2 rfl _ _ _) rfl ?_
    exact answersH_nil (HB2.out _)
  · obtain ⟨a, c, rfl, hrow⟩ := h1 hm heq
    obtain ⟨W2, hW2⟩ : ∃ W2, W2 = w1.alloc (.cells #[.int .i64 N.buses.length, .slice a (serviceL N out).length c] 80) := ⟨_, rfl⟩
    have HB2 : Hid (Below w.heap.size w W2) := by rw [hW2]; exact HB1.out.alloc HB1.out.size _
    by_cases hp : 0 ≤ p ∧ p < N.buses.length
    · have hq : ¬ (0 ≤ q ∧ q < N.buses.length) := fun h => hr ⟨hp.1, hp.2, h.1, h.2⟩
      have HC1 := hide' (has_yes N.buses.length (.slice a (serviceL N out).length c) p hp.1 hp.2 W2)
      obtain ⟨W3, hW3⟩ : ∃ W3, W3 = W2.alloc (.cells #[.int .i64 N.buses.length, .slice a (serviceL N out).length c] 80) := ⟨_, rfl⟩
      have HC2 := hide' (has_no N.buses.length (.slice a (serviceL N out).length c) q hq W3)
      have HB3 : Hid (Below w.heap.size w W3) := by rw [hW3]; exact HB2.out.alloc HB2.out.size _
      have hbx : W2.heap[w1.heap.size]? = some (.cells #[.int .i64 N.buses.length, .slice a (serviceL N out).length c] 80 (0, 0)) := by rw [hW2]; exact World.alloc_heap_new w1 _
      have c0 : W3.cell? ⟨w1.heap.size, 0, none⟩ = some (.int .i64 N.buses.length) := by
        rw [hW3, World.cell?_of_block (Below.heap_alloc _ _ _ (Array.getElem?_eq_some_iff.1 hbx).1)]; simp only [World.cell?, hbx]; rfl
      have c1 : W3.cell? ⟨w1.heap.size, 1, none⟩ = some (.slice a (serviceL N out).length c) := by
        rw [hW3, World.cell?_of_block (Below.heap_alloc _ _ _ (Array.getElem?_eq_some_iff.1 hbx).1)]; simp only [World.cell?, hbx]; rfl
      have HW2 := hide' hW2
      have HW3 := hide' hW3
      clear h1 h2 h3 hm heq HWI hr hp hq hrow hW2 hW3 hbx
      go_wp2_with fail
      rw [← HW2.out]
      refine HC1.out.mono ?_
      rintro e w4 ⟨rfl, hw4⟩
      rw [← HW3.out] at hw4
      subst hw4
      go_wp2_with fail
      refine HC2.out.mono ?_
      rintro e w5 ⟨rfl, hw5⟩
      have HB5 : Hid (Below w.heap.size w w5) := by rw [hw5]; exact HB3.out.alloc HB3.out.size _
      clear hw5
      go_wp2
      refine bodyPost_ret (results_tmp2 rfl _ _ _) rfl ?_
      exact answersH_nil HB5.out
    · have HC1 := hide' (has_no N.buses.length (.slice a (serviceL N out).length c) p hp W2)
      have HW2 := hide' hW2
      clear h1 h2 h3 hm heq HWI hr hp hrow hW2
      go_wp2_with fail
      rw [← HW2.out]
      refine HC1.out.mono ?_
      rintro e w4 ⟨rfl, hw4⟩
      have HB4 : Hid (Below w.heap.size w w4) := by rw [hw4]; exact HB2.out.alloc HB2.out.size _
      clear hw4
      go_wp2
      refine bodyPost_ret (results_tmp2 rfl _ _ _) rfl ?_
      exact answersH_nil HB4.out
  all_goals
    obtain ⟨a, c, rfl, hrow⟩ := h1 hm heq
    obtain ⟨W2, hW2⟩ : ∃ W2, W2 = w1.alloc (.cells #[.int .i64 N.buses.length, .slice a (serviceL N out).length c] 80) := ⟨_, rfl⟩
    have HB2 : Hid (Below w.heap.size w W2) := by rw [hW2]; exact HB1.out.alloc HB1.out.size _
    have HC1 := hide' (has_yes N.buses.length (.slice a (serviceL N out).length c) (x : Int) (by omega) (by omega) W2)
    obtain ⟨W3, hW3⟩ : ∃ W3, W3 = W2.alloc (.cells #[.int .i64 N.buses.length, .slice a (serviceL N out).length c] 80) := ⟨_, rfl⟩
    have HC2 := hide' (has_yes N.buses.length (.slice a (serviceL N out).length c) (y : Int) (by omega) (by omega) W3)
    have HB3 : Hid (Below w.heap.size w W3) := by rw [hW3]; exact HB2.out.alloc HB2.out.size _
    obtain ⟨W4, hW4⟩ : ∃ W4, W4 = W3.alloc (.cells #[.int .i64 N.buses.length, .slice a (serviceL N out).length c] 80) := ⟨_, rfl⟩
    have hbx : W2.heap[w1.heap.size]? = some (.cells #[.int .i64 N.buses.length, .slice a (serviceL N out).length c] 80 (0, 0)) := by rw [hW2]; exact World.alloc_heap_new w1 _
    have hb3 : W3.heap[w1.heap.size]? = some (.cells #[.int .i64 N.buses.length, .slice a (serviceL N out).length c] 80 (0, 0)) := by rw [hW3]; exact (Below.heap_alloc _ _ _ (Array.getElem?_eq_some_iff.1 hbx).1).trans hbx
    have hb4 : W4.heap[w1.heap.size]? = some (.cells #[.int .i64 N.buses.length, .slice a (serviceL N out).length c] 80 (0, 0)) := by rw [hW4]; exact (Below.heap_alloc _ _ _ (Array.getElem?_eq_some_iff.1 hb3).1).trans hb3
    have c0 : W3.cell? ⟨w1.heap.size, 0, none⟩ = some (.int .i64 N.buses.length) := by simp only [World.cell?, hb3]; rfl
    have c1 : W3.cell? ⟨w1.heap.size, 1, none⟩ = some (.slice a (serviceL N out).length c) := by simp only [World.cell?, hb3]; rfl
    have d0 : W4.cell? ⟨w1.heap.size, 0, none⟩ = some (.int .i64 N.buses.length) := by simp only [World.cell?, hb4]; rfl
    have d1 : W4.cell? ⟨w1.heap.size, 1, none⟩ = some (.slice a (serviceL N out).length c) := by simp only [World.cell?, hb4]; rfl
    have HB4 : Hid (Below w.heap.size w W4) := by rw [hW4]; exact HB3.out.alloc HB3.out.size _
    have HWY := hide' (way_any N.buses.length (by have := hm.fits.1; omega) (serviceL N out) (service_len hm.fits out) (service_ends (MayM.ends hm) out) a c x y hx hy W4 (RowAt.below hrow (by
      rw [hW4, hW3, hW2]
      exact (((Below.refl _ w1).alloc (Nat.le_refl _) _).alloc (by simp) _).alloc (by simp; omega) _) (Nat.le_refl _)))
    have HF := hide' hf
    have HW2 := hide' hW2
    have HW3 := hide' hW3
    have HW4 := hide' hW4
    clear h1 h2 h3 hm heq HWI hrow hW2 hW3 hW4 hbx hb3 hb4 hf
    go_wp2_with fail
    rw [← HW2.out]
    refine HC1.out.mono ?_
    rintro e w4 ⟨rfl, hw4⟩
    rw [← HW3.out] at hw4
    subst hw4
    go_wp2_with fail
    refine HC2.out.mono ?_
    rintro e w5 ⟨rfl, hw5⟩
    rw [← HW4.out] at hw5
    subst hw5
    go_wp2_with fail
    refine HWY.out.mono ?_
    rintro e w6 ⟨hn, hy6⟩
  · obtain ⟨aa, cc, rfl, hrow, hb6⟩ := hn HF.out
    have HA : Hid (AnswersH [] 10 w (.returned (.tuple #[.slice aa 0 cc, .int .i64 10])) w6) := ⟨aa, cc, rfl, hrow, HB4.out.trans (hb6.mono HB4.out.size)⟩
    clear hn hy6 hrow hb6
    go_wp2
    refine bodyPost_ret (results_tmp2 rfl _ _ _) rfl ?_
    exact HA.out
  · obtain ⟨aa, cc, rfl, hrow, hb6⟩ := hy6 HF.out
    rw [← hl] at hrow ⊢
    have HA : Hid (AnswersH ls 0 w (.returned (.tuple #[.slice aa ls.length cc, .int .i64 0])) w6) := ⟨aa, cc, rfl, hrow, HB4.out.trans (hb6.mono HB4.out.size)⟩
    clear hn hy6 hrow hb6 hl
    go_wp2
    refine bodyPost_ret (results_tmp2 rfl _ _ _) rfl ?_
    exact HA.out
end Go.Proofs.YtkcldnnopmagjabGreatDoor.Bar

/- BarsWays: at whatever network, the program's way is the document's. -/
namespace Go.Proofs.YtkcldnnopmagjabGreatDoor.Bar
open Go.RowKit Go.Shelf Doc

set_option maxRecDepth 100000 in
set_option maxHeartbeats 4000000 in
theorem BarsWays_any (N : NetM) (v outv : Value) (out : List Bool) (p q : Int) (mx : Int) (w : World) (hx : NetAt w v N) (hsm : SmallM N) (htb : TabAll w) (hm : w.cell? ⟨1, 0, none⟩ = some (.int .i64 mx)) (hor : RowAt w outv out.length 1 (out.map Value.bool)) (hol : out.length ≤ 2000000) :
    Calls Tryz.prog 5 #[v, outv, .int .i64 p, .int .i64 q] w fun e w' => e = .returned (.bool true) ∧ Below w.heap.size w w' := by
  obtain ⟨ls, code, hw⟩ := wayIs_some N out p q
  have hll := hw.len
  obtain ⟨b, l, g, d, t, rfl, hb, hl, hg, hd, ht⟩ := hx
  obtain ⟨ab, cb, rfl⟩ := rowAt_slice hb
  obtain ⟨al, cl, rfl⟩ := rowAt_slice hl
  obtain ⟨ag, cg, rfl⟩ := rowAt_slice hg
  obtain ⟨ad, cd, rfl⟩ := rowAt_slice hd
  obtain ⟨at', ct, rfl⟩ := rowAt_slice ht
  have hlens : lens2 N := hsm.lens
  obtain ⟨W, hW⟩ : ∃ W, W = w.alloc (.cells #[.string N.name, .slice ab N.buses.length cb, .slice al N.lines.length cl, .slice ag N.gens.length cg, .slice ad N.loads.length cd, .slice at' N.ties.length ct] 28) := ⟨_, rfl⟩
  have HX := hide' (Bx1.make hb hl hg hd ht hW)
  have h1w : 1 < w.heap.size := World.block_lt_of_cell? w _ hm
  have HKM : Hid (∀ W', Below w.heap.size w W' → W'.cell? ⟨1, 0, none⟩ = some (.int .i64 mx)) := fun W' h => (h.cell (p := ⟨1, 0, none⟩) h1w).trans hm
  have HKO : Hid (∀ W', Below w.heap.size w W' → RowAt W' outv out.length 1 (out.map Value.bool)) := fun W' h => RowAt.below hor h (Nat.le_refl _)
  have HTB := hide' htb
  have HSM := hide' hsm
  have HWI := hide' hw
  have HN1 := hide' (NetOf_any N _ W (netAt_of HX.out) hlens)
  obtain ⟨k0, k1, k2, k3, k4, k5, kf⟩ := cells28 HX.out.box
  have HW := hide' hW
  clear hW hb hl hg hd ht hsm htb hm h1w hlens hor hw
  go_enter Tryz.func5, Tryz.ntmps5
  go_wp2_with fail
  rw [← HW.out]
  refine HN1.out.mono ?_
  rintro e w1 ⟨b1, l1, g1, d1, t1, rfl, ho1, hb1⟩
  have HX1 := hide' (HX.out.later hb1)
  have HO1 := hide' ho1
  have HSD := hide' (sides_any out outv w1 (HKO.out _ HX1.out.bel) hol)
  clear ho1 hb1 HX HN1 k0 k1 k2 k3 k4 k5 kf
  go_wp2_with fail
  refine HSD.out.mono ?_
  rintro e w2 ⟨ov, rfl, hov, hb2⟩
  have HX2 := hide' (HX1.out.later hb2)
  have hO2 : Owns w2 W.heap.size b1 l1 g1 d1 t1 N := ⟨own_later HO1.out.hb hb2, own_later HO1.out.hl hb2, own_later HO1.out.hg hb2, own_later HO1.out.hd hb2, own_later HO1.out.ht hb2⟩
  have HWY := hide' (Way_any N _ _ _ _ _ _ ov out p q ls code mx w2 HSM.out (HTB.out.later HX2.out.bel) hO2 (HKM.out _ HX2.out.bel) (rowAt_of_own hov) hol HWI.out)
  clear hb2 hov hO2 HO1 HX1 HSD
  go_wp2_with fail
  refine HWY.out.mono ?_
  rintro e w3 ⟨a1, c1, rfl, hrow1, hb3⟩
  have HX3 := hide' (HX2.out.later hb3)
  have HR1 := hide' hrow1
  have HWO := hide' (WayOf_any N _ outv out p q ls code w3 (netAt_of HX3.out) HSM.out (HKO.out _ HX3.out.bel) hol HWI.out)
  obtain ⟨k0, k1, k2, k3, k4, k5, kf⟩ := cells28 HX3.out.box
  clear hb3 hrow1 HWY HX2
  go_wp2_with fail
  refine HWO.out.mono ?_
  rintro e w4 ⟨a2, c2, rfl, hrow2, hb4⟩
  have HR14 := hide' (RowAt.below HR1.out hb4 (Nat.le_refl _))
  have HR2 := hide' hrow2
  have HB4 : Hid (Below w.heap.size w w4) := (HX3.out.later hb4).bel
  clear hb4 hrow2 HWO HX3 HR1 k0 k1 k2 k3 k4 k5 kf
  go_wp2_with fail
  go_loopw [13] (fun i wr => ∃ (k : Nat), i = .int .i64 k ∧ k ≤ ls.length ∧ ∃ q, wr = w4.drewN q) (fun i _ => ls.length - (intOf i).toNat)
  case atStart => exact ⟨0, rfl, Nat.zero_le _, 0, rfl⟩
  case round =>
    obtain ⟨k, rfl, hk, m, rfl⟩ := hrel
    by_cases hlt : k < ls.length
    · obtain ⟨b1, o1, c1', e1, h1b, h1⟩ := row_elem (f := hopCells) (fun _ => rfl) HR14.out k hlt (by decide)
      cases e1
      obtain ⟨b2, o2, c2', e2, h2b, h2⟩ := row_elem (f := hopCells) (fun _ => rfl) HR2.out k hlt (by decide)
      cases e2
      obtain ⟨x, hx⟩ : ∃ x, x = ls[k] := ⟨_, rfl⟩
      rw [← hx] at h1 h2
      have f0 := h1 0 _ rfl
      have f1 := h1 1 _ rfl
      have g0 := h2 0 _ rfl
      have g1 := h2 1 _ rfl
      rw [Nat.add_zero] at f0 g0
      clear hx h1 h2 h1b h2b
      go_wp2_with fail
      go_region
      go_wp2
      go_roundw
      case rel => exact ⟨k + 1, by go_num, by omega, m + 1, rfl⟩
      case measure => simp [intOf]; omega
    · go_wp2
      go_ret
      exact ⟨rfl, below_drewN HB4.out m⟩
end Go.Proofs.YtkcldnnopmagjabGreatDoor.Bar
