/- ProtectLeast. -/
import Derived.Test.YtpejnkngmnabfaiQ6
namespace Go.Proofs.Ytpejnkngmnabfai
open Go.RowKit Go.Shelf

structure RawM where
  a : Int
  b : Int
  s : Bool
def RawM.cells (r : RawM) : List Value := [.int .i64 r.a, .int .i64 r.b, .bool r.s]
theorem Try.info42 : (Try.prog.info? 42).map (fun i => (i.zero, i.size, i.bytes)) = some (some (.agg #[.int .i64 0, .int .i64 0]), 2, 16) := by kernel_rfl
theorem cut_one (c : CutM) : ∀ u ∈ CutM.cells c, u.oneCell' = true := fun u hu => by
  unfold CutM.cells at hu
  simp only [List.mem_cons, List.not_mem_nil, or_false] at hu
  rcases hu with rfl | rfl <;> rfl
theorem cast_inj {cs cs' : List CutM} (h : cs.map castC = cs'.map castC) : cs = cs' := by
  refine List.ext_getElem (by have := congrArg List.length h; simpa using this) fun k h1 h2 => ?_
  have h3 : (cs.map castC)[k]? = (cs'.map castC)[k]? := by rw [h]
  rw [List.getElem?_map, List.getElem?_map, List.getElem?_eq_getElem h1, List.getElem?_eq_getElem h2] at h3
  have h4 : castC cs[k] = castC cs'[k] := by simpa using h3
  unfold castC at h4
  have h5 : ((cs[k].1 : Nat) : Int) = ((cs'[k].1 : Nat) : Int) := congrArg Prod.fst h4
  have h6 : ((cs[k].2 : Nat) : Int) = ((cs'[k].2 : Nat) : Int) := congrArg Prod.snd h4
  exact Prod.ext (by omega) (by omega)
theorem clear_good {n f : Nat} {cs : List CutM} {st : List Bool} {w : World} {e : Ending} {w' : World} (hn : 1 ≤ n ∧ n ≤ 12) (hf : f < n) (hp : Placed n cs) (hc : cs.length ≤ 20) (hl : cs.length = st.length) (h : ClearO (n : Int) (cs.map castC) (f : Int) st w e w') :
    ∃ (L : Nat) (lv : List Nat) (sa : Option Addr) (sc D cd : Nat), e = .returned (.tuple #[.slice sa L sc, .slice (some ⟨D, 0, none⟩) n cd, .int .i64 0]) ∧ Lev n f cs st L L lv ∧ StepsAt w' w.heap.size (.slice sa L sc) (stepsL lv cs st L) ∧ w'.ownsRow w.heap.size 4 1 (.slice (some ⟨D, 0, none⟩) n cd) n ((dkL n lv).map Value.bool) ∧ Below w.heap.size w w' := by
  obtain ⟨h, hb⟩ := h
  have h1 : sizeB (n : Int) (cs.map castC) st = true := by unfold sizeB; rw [List.length_map]; simp; omega
  have h2 : rangeB ((n : Int).toNat) (cs.map castC) (f : Int) = true := by
    unfold rangeB
    rw [Int.toNat_natCast, placed_back hp, inP_iff.2 (by omega)]; rfl
  rcases h with ⟨h3, _⟩ | ⟨_, h3, _⟩ | ⟨_, _, n', f', cs', L, lv, sv, D, cd, e1, e2, e3, _, _, _, _, _, _, he, hL, hS, hD⟩
  · rw [h1] at h3; cases h3
  · rw [h2] at h3; cases h3
  · obtain rfl : n = n' := by omega
    obtain rfl : f = f' := by omega
    obtain rfl := cast_inj e3
    obtain ⟨vals, g1, g2, g3⟩ := hS
    obtain ⟨sa, sc, hs⟩ := own_slice g2
    rw [steps_len] at hs
    subst hs
    exact ⟨L, lv, sa, sc, D, cd, he, hL, ⟨vals, g1, g2, g3⟩, hD, hb⟩
set_option maxRecDepth 100000 in
set_option maxHeartbeats 4000000 in
theorem ProtectLeast_any (parts fault : Int) (raw : List RawM) (v : Value) (w : World) (hx : RowAt w v raw.length 3 (raw.flatMap RawM.cells)) (hI : ∀ r ∈ raw, I6 r.a ∧ I6 r.b) (hpI : I6 parts) (hfI : I6 fault) (_hl : raw.length ≤ 2000000) :
    Calls Try.prog 5 #[.int .i64 parts, v, .int .i64 fault] w fun e w' => e = .returned (.bool true) ∧ Below w.heap.size w w' := by
  obtain ⟨i4, hi4, h40, h41, h42⟩ := info_parts Try.info4
  obtain ⟨i3, hi3, h30, h31, h32⟩ := info_parts Try.info3
  obtain ⟨i42, hi42, h420, h421, h422⟩ := info_parts Try.info42
  have HX := hide' hx
  have HI := hide' hI
  obtain ⟨ag, cg, rfl⟩ := rowAt_slice hx
  obtain ⟨c0, hc0, hcc0⟩ := picked_is parts 11 hpI (by decide) (by decide)
  obtain ⟨n, hn⟩ : ∃ n : Nat, n = c0 + 2 := ⟨_, rfl⟩
  obtain ⟨f, hf, hfc⟩ := picked_is fault n hfI (by omega) (by omega)
  have hw2 : IntKind.i64.wrap (2 + (c0 : Int)) = (n : Int) := by rw [hn, Go.IntWalk.i64_in _ (by omega)]; omega
  have HCC := hide' hcc0
  have HFC := hide' hfc
  have hn12 : 2 ≤ n ∧ n ≤ 12 := by omega
  clear hx hI hcc0 hfc hpI hfI hn
  go_enter Try.func5, Try.ntmps5
  go_wp2_with fail
  refine (HCC.out _).mono ?_
  rintro e w' ⟨rfl, hw'⟩
  obtain rfl := hw'.symm
  go_wp2_with fail
  refine (HFC.out _).mono ?_
  rintro e w' ⟨rfl, hw'⟩
  obtain rfl := hw'.symm
  clear HCC HFC hw' hc0
  go_upto_block 0 with fail
  go_cut [9, 10, 11] from 32 to 74 (fun cv sv _iv wc => ∃ (cs : List CutM) (st : List Bool), cs.length = st.length ∧ cs.length ≤ 20 ∧ Hid (Placed n cs) ∧ Hid (wc.ownsRow w.heap.size 42 2 cv cs.length (cs.flatMap CutM.cells)) ∧ Hid (wc.ownsRow w.heap.size 4 1 sv st.length (st.map Value.bool)) ∧ Hid (Below w.heap.size w wc))
  case first =>
    go_wp2_with fail
    go_loopw [9, 10, 11] (fun cv sv iv wr => ∃ (k : Nat) (cs : List CutM) (st : List Bool), iv = .int .i64 k ∧ k ≤ raw.length ∧ k ≤ 20 ∧ cs.length = k ∧ st.length = k ∧ Hid (Placed n cs) ∧ Hid (wr.ownsRow w.heap.size 42 2 cv cs.length (cs.flatMap CutM.cells)) ∧ Hid (wr.ownsRow w.heap.size 4 1 sv st.length (st.map Value.bool)) ∧ Hid (Below w.heap.size w wr)) (fun _ _ iv _ => 20 - (intOf iv).toNat)
    case atStart => exact ⟨0, [], [], rfl, Nat.zero_le _, Nat.zero_le _, rfl, rfl, fun k h => absurd h (Nat.not_lt_zero k), World.ownsRow_nil _ _ _ _, World.ownsRow_nil _ _ _ _, Below.refl _ w⟩
    case round =>
      obtain ⟨k, cs, st, rfl, hk, hk20, hck, hsk, HPL, HOC, HOS, HBE⟩ := hrel
      by_cases hlt : k < raw.length ∧ k < 20
      · obtain ⟨hkr, hk2⟩ := hlt
        obtain ⟨bt, ot, ct', ex, hbt, hct⟩ := row_elem (f := RawM.cells) (xs := raw) (fun _ => rfl) HX.out k hkr (by decide)
        cases ex
        have hxI := HI.out _ (List.getElem_mem hkr)
        obtain ⟨u, hu⟩ : ∃ u, u = raw[k] := ⟨_, rfl⟩
        rw [← hu] at hct hxI
        have d0 := up_cell HBE.out (hct 0 _ rfl)
        have d1 := up_cell HBE.out (hct 1 _ rfl)
        have d2 := hct 2 _ rfl
        rw [Nat.add_zero] at d0
        obtain ⟨x, y, s⟩ := u
        dsimp only at d0 d1 d2 hxI
        obtain ⟨a, ha, hac⟩ := picked_is x n hxI.1 (by omega) (by omega)
        obtain ⟨c, hc, hcc⟩ := picked_is y (n - 1) hxI.2 (by omega) (by omega)
        have en : ((n - 1 : Nat) : Int) = (n : Int) - 1 := by omega
        rw [en] at hcc
        have HAC := hide' hac
        have HCC := hide' hcc
        have HD2 := hide' d2
        have hwn : IntKind.i64.wrap ((n : Int) - 1) = (n : Int) - 1 := Go.IntWalk.i64_in _ (by omega)
        have hwa : IntKind.i64.wrap ((a : Int) + 1) = (a : Int) + 1 := Go.IntWalk.i64_in _ (by omega)
        have hwc : IntKind.i64.wrap ((a : Int) + 1 + (c : Int)) = (a : Int) + 1 + (c : Int) := Go.IntWalk.i64_in _ (by omega)
        have hn0 : ((n : Int) == 0) = false := by simp; omega
        obtain ⟨b, hb⟩ : ∃ b, b = (a + 1 + c) % n := ⟨_, rfl⟩
        have hbn : b < n := by rw [hb]; exact Nat.mod_lt _ (by omega)
        have hab : a ≠ b := by
          rw [hb]
          by_cases h : a + 1 + c < n
          · rw [Nat.mod_eq_of_lt h]; omega
          · have e : a + 1 + c = (a + 1 + c - n) + n := by omega
            rw [e, Nat.add_mod_right, Nat.mod_eq_of_lt (by omega)]; omega
        have hrem : ((a : Int) + 1 + (c : Int)).tmod (n : Int) = (b : Int) := by
          rw [hb, show (a : Int) + 1 + (c : Int) = ((a + 1 + c : Nat) : Int) by omega]
          exact Int.ofNat_tmod _ _
        have HPL2 : Hid (Placed n (cs ++ [(a, b)])) := fun j hj => by
          rw [List.length_append, List.length_singleton] at hj
          by_cases e : j < cs.length
          · rw [List.getD_eq_getElem?_getD, List.getElem?_append_left e, ← List.getD_eq_getElem?_getD]; exact HPL.out j e
          · rw [show j = cs.length by omega, List.getD_eq_getElem?_getD, List.getElem?_append_right (Nat.le_refl _)]
            simp only [Nat.sub_self, List.getElem?_cons_zero, Option.getD_some]
            exact ⟨ha, hbn, hab⟩
        have HZ : Hid (w.heap.size ≤ wr.heap.size) := HBE.out.size
        clear hct hbt hu hxI hac hcc hb d2 en
        go_wp2_with fail
        refine (HAC.out _).mono ?_
        rintro e w' ⟨rfl, hw'⟩
        obtain rfl := hw'.symm
        go_wp2_with fail
        refine (HCC.out _).mono ?_
        rintro e w' ⟨rfl, hw'⟩
        obtain rfl := hw'.symm
        go_wp2_with (at_builtin; refine wpList_append_own _ rfl _ _ 29 rfl w.heap.size 42 i42 _ 2 16 Try.underlying29 hi42 h420 h421 h422 rfl (by decide) _ _ _ rfl (HOC.out.alloc _) ⟨wr.heap.size, 0, none⟩ 1 1 (CutM.cells (a, b)) rfl rfl (cell_news _ (CutM.cells (a, b)) 42) (fun u hu => cut_one (a, b) u hu) (by unfold maxLen; omega) (by omega) (by have := HZ.out; simp; omega) ?_; intro v' w2 hown' hgrow _; refine Still.go ?_)
        unfold Still
        have HOC2 : Hid (w2.ownsRow w.heap.size 42 2 v' (cs ++ [(a, b)]).length ((cs ++ [(a, b)]).flatMap CutM.cells)) := by
          have h1 := hown'
          rw [List.length_append, List.length_singleton, List.flatMap_append, List.flatMap_cons, List.flatMap_nil, List.append_nil]
          exact h1
        have HOCA := hide' (own_below HOC.out (below_al wr (.cells (CutM.cells (a, b)).toArray 42)) (Nat.le_refl _))
        have HOS2 : Hid (w2.ownsRow w.heap.size 4 1 u10 st.length (st.map Value.bool)) := by
          have h1 := own_below HOS.out (below_al wr (.cells (CutM.cells (a, b)).toArray 42)) (Nat.le_refl _)
          exact own_grown h1 hgrow (own_apart h1 HOCA.out (by decide))
        have HB2 := hide' (below_app HBE.out HOC.out (Nat.le_refl _) HBE.out.size hgrow)
        have HZ2 : Hid (w.heap.size ≤ w2.heap.size) := HB2.out.size
        have d2 := up_cell HB2.out HD2.out
        obtain ⟨va, vc, hv⟩ := own_slice HOC2.out
        rw [List.length_append, List.length_singleton, hck] at hv
        subst hv
        clear hown' hgrow HOCA HOC HOS HBE d0 d1 HD2
        go_wp2_with (at_builtin; refine wpList_append_own _ rfl _ _ 30 rfl w.heap.size 4 i4 _ 1 1 Try.underlying30 hi4 h40 h41 h42 rfl (by decide) _ _ _ rfl (HOS2.out.alloc _) ⟨w2.heap.size, 0, none⟩ 1 1 [.bool s] rfl rfl (cell_one_new _ _ _) (one_cell rfl) (by unfold maxLen; omega) (by omega) (by have := HZ2.out; simp; omega) ?_; intro v3 w3 hown' hgrow _; refine Still.go ?_)
        unfold Still
        have HOS3 : Hid (w3.ownsRow w.heap.size 4 1 v3 (st ++ [s]).length ((st ++ [s]).map Value.bool)) := own_snoc hown'
        have HOC3 : Hid (w3.ownsRow w.heap.size 42 2 (.slice va (k + 1) vc) (cs ++ [(a, b)]).length ((cs ++ [(a, b)]).flatMap CutM.cells)) := by
          have h1 := own_below HOC2.out (below_al w2 (.cells #[.bool s] 4)) (Nat.le_refl _)
          have h2 := own_below HOS2.out (below_al w2 (.cells #[.bool s] 4)) (Nat.le_refl _)
          exact own_grown h1 hgrow (own_apart h1 h2 (by decide))
        have HB3 := hide' (below_app HB2.out HOS2.out (Nat.le_refl _) HB2.out.size hgrow)
        clear hown' hgrow HOC2 HOS2 HB2
        go_wp2
        go_roundw
        case rel => exact ⟨k + 1, cs ++ [(a, b)], st ++ [s], by go_num, by omega, by omega, by simp; omega, by simp; omega, HPL2, HOC3, HOS3, HB3⟩
        case measure => simp [intOf]; omega
      · by_cases h20 : k < raw.length
        all_goals
          go_wp2
          go_meet
          case rel => exact ⟨cs, st, by omega, by omega, HPL, HOC, HOS, HBE⟩
  case rest =>
    obtain ⟨cs, st, hcs, hc20, HPL, HOC, HOS, HBC⟩ := hcut
    obtain ⟨m, hm⟩ : ∃ m, m = cs.length := ⟨_, rfl⟩
    have hms : m = st.length := by omega
    have HM : Hid (m = cs.length ∧ m = st.length) := ⟨hm, hms⟩
    rw [← hm] at HOC hc20
    rw [← hms] at HOS
    obtain ⟨ca, cc, hcv⟩ := own_slice HOC.out
    obtain ⟨sa, sc, hsv⟩ := own_slice HOS.out
    subst hcv
    subst hsv
    have HCL : Hid (Calls Try.prog 12 #[.int .i64 n, .slice ca m cc, .int .i64 f, .slice sa m sc] wc (ClearO (n : Int) (cs.map castC) (f : Int) st wc)) := by
      refine Clear_any (n : Int) (cs.map castC) (f : Int) st _ _ wc ?_ ?_ (by rw [List.length_map, ← HM.out.1]; omega) (by rw [← HM.out.2]; omega)
      · rw [List.length_map, cells_cast, ← HM.out.1]; exact rowAt_of_own HOC.out
      · rw [← HM.out.2]; exact rowAt_of_own HOS.out
    have HCG : Hid (∀ e w', ClearO (n : Int) (cs.map castC) (f : Int) st wc e w' → ∃ (L : Nat) (lv : List Nat) (sa : Option Addr) (sc D cd : Nat), e = .returned (.tuple #[.slice sa L sc, .slice (some ⟨D, 0, none⟩) n cd, .int .i64 0]) ∧ Lev n f cs st L L lv ∧ StepsAt w' wc.heap.size (.slice sa L sc) (stepsL lv cs st L) ∧ w'.ownsRow wc.heap.size 4 1 (.slice (some ⟨D, 0, none⟩) n cd) n ((dkL n lv).map Value.bool) ∧ Below wc.heap.size wc w') := fun e w' h => clear_good (by omega) hf HPL.out (by rw [← HM.out.1]; exact hc20) (by rw [← HM.out.1]; exact HM.out.2) h
    clear hcs hm hms
    go_wp2_with fail
    refine HCL.out.mono ?_
    intro e w1 hgo
    obtain ⟨L, lv, ea, ec, D, cd, rfl, hlev, hst, hdk, hb1⟩ := HCG.out _ _ hgo
    have HL := hide' hlev
    have HST := hide' hst
    have HDK := hide' hdk
    have HB1 : Hid (Below w.heap.size w w1) := HBC.out.trans (hb1.mono HBC.out.size)
    have HOC1 := hide' (own_below HOC.out hb1 (Nat.le_refl _))
    have HOS1 := hide' (own_below HOS.out hb1 (Nat.le_refl _))
    have hLp := hlev.pos
    have hLn := hlev.small
    obtain ⟨df, _⟩ := own_bool hdk hf
    rw [dk_get hf, (hlev.one f hf).2 rfl] at df
    have df' : w1.cell? ⟨D, f, none⟩ = some (.bool true) := df
    clear hgo hlev hst hdk hb1 HCL HCG HOC HOS HBC df
    go_wp2_with (at_make; refine wpList_make_full _ rfl _ _ 30 rfl w1.heap.size 4 i4 (.bool false) 1 Try.underlying30 hi4 h40 h41 .i64 .i64 _ _ n rfl rfl rfl rfl (by rw [h42]; omega) (by unfold maxLen; omega) (Nat.le_refl _) ?_; intro w2 hown2 hgr2; refine Still.go ?_)
    unfold Still
    have hb2 : Below w1.heap.size w1 w2 := (Below.refl _ w1).grown hgr2 (Nat.le_refl _) (fun k e => by cases e)
    rw [made_bool, ← List.map_replicate] at hown2
    have HLS := hide' hown2
    have HB2 := hide' hb2
    obtain ⟨cF, fF⟩ := own_bool hown2 hf
    clear hown2 hgr2 hb2 df'
    go_upto_block 2 with fail
    have HB3 : Hid (Below w1.heap.size w1 (w2.setCell ⟨w1.heap.size, f, none⟩ (.bool true))) := HB2.out.setCell (p := ⟨w1.heap.size, f, none⟩) (Nat.le_refl _) _
    have HLS3 := hide' (own_bool_set HLS.out f true)
    obtain ⟨w3, hw3⟩ : ∃ z, z = w2.setCell ⟨w1.heap.size, f, none⟩ (.bool true) := ⟨_, rfl⟩
    rw [← hw3] at HB3 HLS3 ⊢
    obtain ⟨S, hS⟩ : ∃ z, z = w1.heap.size := ⟨_, rfl⟩
    have HSS := hide' hS
    rw [← hS] at HLS3 ⊢
    have HLS4 : Hid (w3.ownsRow w1.heap.size 4 1 (.slice (some ⟨S, 0, none⟩) n n) n (((List.replicate n false).set f true).map Value.bool)) := by
      have h9 := HLS3.out
      rw [HSS.out] at h9 ⊢
      exact h9
    clear hw3 hS HLS HB2 cF fF HLS3
    have HCLO := hide' (Clo.start HL.out hf)
    have HCA : Hid (∀ (k : Nat), k < m → ∃ (bt ot : Nat), ca = some ⟨bt, ot, none⟩ ∧ bt < w1.heap.size ∧ w1.cell? ⟨bt, ot + k * 2, none⟩ = some (.int .i64 ((cs.getD k (0, 0)).1 : Int)) ∧ w1.cell? ⟨bt, ot + k * 2 + 1, none⟩ = some (.int .i64 ((cs.getD k (0, 0)).2 : Int))) := fun k hk => by
      have hkc : k < cs.length := by rw [← HM.out.1]; exact hk
      have h1 := rowAt_of_own HOC1.out
      obtain ⟨bt, ot, ct', ex, hbt, hct⟩ := row_elem (f := CutM.cells) (xs := cs) (fun _ => rfl) h1 k hkc (by decide)
      cases ex
      have hgk : cs[k] = cs.getD k (0, 0) := by rw [List.getD_eq_getElem?_getD, List.getElem?_eq_getElem hkc]; rfl
      rw [hgk] at hct
      exact ⟨bt, ot, rfl, hbt, hct 0 _ rfl, hct 1 _ rfl⟩
    have HSA : Hid (∀ (k : Nat), k < m → ∃ (bs os : Nat), sa = some ⟨bs, os, none⟩ ∧ w1.cell? ⟨bs, os + k, none⟩ = some (.bool (st.getD k false))) := fun k hk => by
      obtain ⟨bs, os, c, ex, hcs⟩ := bool_cell2 (rowAt_of_own HOS1.out) k hk
      cases ex
      exact ⟨bs, os, rfl, hcs⟩
    go_cut [17, 18] from 109 to 157 (fun _a _b wd => Hid (wd.ownsRow w1.heap.size 4 1 (.slice (some ⟨S, 0, none⟩) n n) n ((dkL n lv).map Value.bool)) ∧ Hid (Below w1.heap.size w1 wd))
    case first =>
      go_wp2_with fail
      go_loopw [17] (fun rv wr => ∃ (r : Nat) (ls : List Bool), rv = .int .i64 r ∧ r ≤ n ∧ Hid (Clo n cs st lv r 0 ls) ∧ Hid (wr.ownsRow w1.heap.size 4 1 (.slice (some ⟨S, 0, none⟩) n n) n (ls.map Value.bool)) ∧ Hid (Below w1.heap.size w1 wr)) (fun rv _ => n - (intOf rv).toNat)
      case atStart => exact ⟨0, _, rfl, Nat.zero_le _, HCLO, HLS4, HB3⟩
      case round =>
        clear HCLO HLS4 HB3
        obtain ⟨r, ls, rfl, hr, HCO, HLR, HBR⟩ := hrel
        by_cases hrn : r < n
        · go_wp2_with fail
          go_loopw [18] (fun kv wr => ∃ (k : Nat) (ls : List Bool), kv = .int .i64 k ∧ k ≤ m ∧ Hid (Clo n cs st lv r k ls) ∧ Hid (wr.ownsRow w1.heap.size 4 1 (.slice (some ⟨S, 0, none⟩) n n) n (ls.map Value.bool)) ∧ Hid (Below w1.heap.size w1 wr)) (fun kv _ => m - (intOf kv).toNat)
          case atStart => exact ⟨0, ls, rfl, Nat.zero_le _, HCO, HLR, HBR⟩
          case round =>
            clear HCO HLR HBR ls
            obtain ⟨k, ls, rfl, hk, HCO, HLR, HBR⟩ := hrel
            by_cases hkm : k < m
            · have hkc : k < cs.length := by rw [← HM.out.1]; exact hkm
              obtain ⟨bt, ot, hca, hbt, hc0, hc1⟩ := HCA.out k hkm
              obtain ⟨bs, os, hsa, hcs⟩ := HSA.out k hkm
              subst hca
              subst hsa
              obtain ⟨ha, hb, hab⟩ := HPL.out k hkc
              have d0 := up_cell HBR.out hc0
              have d1 := up_cell HBR.out hc1
              have ds := up_cell HBR.out hcs
              have HSKIP : Hid ((st.getD k false = true → ls.getD (cs.getD k (0, 0)).1 false = false ∧ ls.getD (cs.getD k (0, 0)).2 false = false) → Clo n cs st lv r (k + 1) ls) := fun h => HCO.out.skip HL.out HPL.out hkc h
              have HMEET : Hid (st.getD k false = true → (ls.getD (cs.getD k (0, 0)).1 false = true ∨ ls.getD (cs.getD k (0, 0)).2 false = true) → Clo n cs st lv r (k + 1) ((ls.set (cs.getD k (0, 0)).1 true).set (cs.getD k (0, 0)).2 true)) := fun h1 h2 => HCO.out.meet HL.out HPL.out hkc h1 h2
              obtain ⟨x, hx⟩ : ∃ x, x = (cs.getD k (0, 0)).1 := ⟨_, rfl⟩
              obtain ⟨y, hy⟩ : ∃ y, y = (cs.getD k (0, 0)).2 := ⟨_, rfl⟩
              rw [← hx] at d0 ha
              rw [← hy] at d1 hb
              rw [← hx, ← hy] at HSKIP HMEET
              obtain ⟨la, fa⟩ := own_bool HLR.out ha
              obtain ⟨lb, fb⟩ := own_bool HLR.out hb
              have hbS : bt ≠ S := by rw [HSS.out]; omega
              have HL1 := hide' (own_bool_set HLR.out x true)
              have HL2 := hide' (own_bool_set HL1.out y true)
              have HBS : Hid (Below w1.heap.size w1 ((wr.setCell ⟨S, x, none⟩ (.bool true)).setCell ⟨S, y, none⟩ (.bool true))) := (HBR.out.setCell (p := ⟨S, x, none⟩) (by rw [HSS.out]; exact Nat.le_refl _) _).setCell (p := ⟨S, y, none⟩) (by rw [HSS.out]; exact Nat.le_refl _) _
              have d2 : (wr.setCell ⟨S, x, none⟩ (.bool true)).cell? ⟨bt, ot + k * 2 + 1, none⟩ = some (.int .i64 (y : Int)) := (World.cell?_of_block (Below.heap_setCell wr ⟨S, x, none⟩ (.bool true) bt hbS)).trans d1
              obtain ⟨lb2, fb2⟩ := own_bool HL1.out hb
              obtain ⟨sk, hsk⟩ : ∃ z, z = st.getD k false := ⟨_, rfl⟩
              obtain ⟨xa, hxa⟩ : ∃ z, z = ls.getD x false := ⟨_, rfl⟩
              obtain ⟨xb, hxb⟩ : ∃ z, z = ls.getD y false := ⟨_, rfl⟩
              rw [← hsk] at ds HSKIP HMEET
              rw [← hxa] at la HSKIP HMEET
              rw [← hxb] at lb HSKIP HMEET
              clear hc0 hc1 hcs hx hy hsk hxa hxb hbt hab HCO
              cases sk with
              | false =>
                have HN := hide' (HSKIP.out (fun h => by cases h))
                clear HSKIP HMEET la lb lb2 fb2 d2 HL1 HL2 HBS
                go_wp2
                go_roundw
                case rel => exact ⟨k + 1, ls, by go_num, by omega, HN, HLR, HBR⟩
                case measure => simp [intOf]; omega
              | true =>
                cases xa with
                | true =>
                  have HN := hide' (HMEET.out rfl (.inl rfl))
                  clear HSKIP HMEET
                  go_wp2
                  go_roundw
                  case rel => exact ⟨k + 1, _, by go_num, by omega, HN, HL2, HBS⟩
                  case measure => simp [intOf]; omega
                | false =>
                  cases xb with
                  | true =>
                    have HN := hide' (HMEET.out rfl (.inr rfl))
                    clear HSKIP HMEET
                    go_wp2
                    go_roundw
                    case rel => exact ⟨k + 1, _, by go_num, by omega, HN, HL2, HBS⟩
                    case measure => simp [intOf]; omega
                  | false =>
                    have HN := hide' (HSKIP.out (fun _ => ⟨rfl, rfl⟩))
                    clear HSKIP HMEET lb2 fb2 d2 HL1 HL2 HBS
                    go_wp2
                    go_roundw
                    case rel => exact ⟨k + 1, ls, by go_num, by omega, HN, HLR, HBR⟩
                    case measure => simp [intOf]; omega
            · have HN : Hid (Clo n cs st lv (r + 1) 0 ls) := by
                have h1 := HCO.out
                rw [show k = cs.length by rw [← HM.out.1]; omega] at h1
                exact h1.round HL.out
              go_wp2
              go_roundw
              case rel => exact ⟨r + 1, ls, by go_num, by omega, HN, HLR, HBR⟩
              case measure => simp [intOf]; omega
        · have HE : Hid (ls = dkL n lv) := by
            have h1 := HCO.out
            rw [show r = n by omega] at h1
            exact h1.all HL.out
          rw [HE.out] at HLR
          go_wp2
          go_meet
          case rel => exact ⟨HLR, HBR⟩
    case rest =>
      obtain ⟨HLR, HBR⟩ := hcut
      have HDKR := hide' (own_below HDK.out HBR.out (Nat.le_refl _))
      obtain ⟨wq, hwq⟩ : ∃ z, z = wc := ⟨_, rfl⟩
      rw [← hwq] at HLR HBR HDKR ⊢
      clear hwq
      go_upto_block 6 with fail
      go_cut [19] from 158 to 171 (fun _a wd => Hid (Below w1.heap.size w1 wd))
      case first =>
        go_wp2_with fail
        go_loopw [19] (fun iv wr => ∃ (i : Nat), iv = .int .i64 i ∧ i ≤ n ∧ Hid (Below wq.heap.size wq wr)) (fun iv _ => n - (intOf iv).toNat)
        case atStart => exact ⟨0, rfl, Nat.zero_le _, Below.refl _ wq⟩
        case round =>
          obtain ⟨i, rfl, hi, HBI⟩ := hrel
          by_cases hin : i < n
          · have e1 := up_cell HBI.out (own_bool HLR.out hin).1
            have e2 := up_cell HBI.out (own_bool HDKR.out hin).1
            have HBD : Hid (∀ z, Below wq.heap.size wq (wr.drewN z)) := fun z => below_drewN HBI.out z
            obtain ⟨x, hx⟩ : ∃ x, x = (dkL n lv).getD i false := ⟨_, rfl⟩
            rw [← hx] at e1 e2
            clear hx HBI
            cases x
            all_goals
              go_wp2_with fail
              go_quiet (fail)
              go_wp2
              go_roundw
              case rel => exact ⟨i + 1, by go_num, by omega, HBD.out _⟩
              case measure => simp [intOf]; omega
          · have HE : Hid (Below w1.heap.size w1 wr) := HBR.out.trans (HBI.out.mono HBR.out.size)
            go_wp2
            go_meet
            case rel => exact HE
      case rest =>
        have HB4 : Hid (Below w1.heap.size w1 wc) := hcut
        clear hcut HLR HBR HDKR
        obtain ⟨w4, hw4⟩ : ∃ z, z = wc := ⟨_, rfl⟩
        rw [← hw4] at HB4 ⊢
        clear hw4
        have HSTEP : Hid (∀ (i : Nat), i < L → ∃ (eb eo : Nat) (xa : Option Addr) (xc : Nat), ea = some ⟨eb, eo, none⟩ ∧ w1.cell? ⟨eb, eo + i, none⟩ = some (.slice xa (opN lv cs st (i + 1) cs.length).length xc) ∧ ∀ (j : Nat) (hj : j < (opN lv cs st (i + 1) cs.length).length), ∃ (xb xo : Nat), xa = some ⟨xb, xo, none⟩ ∧ w1.cell? ⟨xb, xo + j, none⟩ = some (.int .i64 ((opN lv cs st (i + 1) cs.length)[j] : Int))) := fun i hi => by
          obtain ⟨vals, g1, g2, g3⟩ := HST.out
          rw [steps_len] at g1 g2
          have hiv : i < vals.length := by omega
          have hli : (stepsL lv cs st L)[i]? = some (opL lv cs st (i + 1) cs.length) := by
            unfold stepsL
            rw [List.getElem?_map, List.getElem?_range hi]; rfl
          have hrow := g3 i vals[i] _ (List.getElem?_eq_getElem hiv) hli
          have hol : (opL lv cs st (i + 1) cs.length).length = (opN lv cs st (i + 1) cs.length).length := by unfold opL; rw [List.length_map]
          rw [hol] at hrow
          obtain ⟨xa, xc, hxv⟩ := own_slice hrow
          rw [hxv] at hrow
          obtain ⟨_, a', c', ex, hcell⟩ := rowAt_of_own g2
          cases ex
          obtain ⟨eb, eo, rfl, hc⟩ := hcell i vals[i] (List.getElem?_eq_getElem hiv)
          rw [hxv] at hc
          refine ⟨eb, eo, xa, xc, rfl, hc, fun j hj => ?_⟩
          obtain ⟨xb, xo, c2, ex2, hc2⟩ := ints_cell2 (rowAt_of_own hrow) j (by rw [hol]; exact hj)
          simp only [Value.slice.injEq] at ex2
          refine ⟨xb, xo, ex2.1, ?_⟩
          rw [hc2]
          congr 2
          unfold opL
          rw [List.getD_eq_getElem?_getD, List.getElem?_map, List.getElem?_eq_getElem hj]; rfl
        go_wp2_with (at_make; refine wpList_make_full _ rfl _ _ 22 rfl w4.heap.size 3 i3 (.int .i64 0) 1 Try.underlying22 hi3 h30 h31 .i64 .i64 _ _ m rfl rfl rfl rfl (by rw [h32]; omega) (by unfold maxLen; omega) (Nat.le_refl _) ?_; intro w5 hown5 hgr5; refine Still.go ?_)
        unfold Still
        have hb5 : Below w4.heap.size w4 w5 := (Below.refl _ w4).grown hgr5 (Nat.le_refl _) (fun k e => by cases e)
        have HB5 : Hid (Below w1.heap.size w1 w5) := HB4.out.trans (hb5.mono HB4.out.size)
        have HO5 : Hid (w5.ownsRow w1.heap.size 3 1 (.slice (some ⟨w4.heap.size, 0, none⟩) m m) m (ints (cntL lv cs st 0 0))) := by
          rw [made_zero] at hown5
          rw [cnt_start, ints, List.map_replicate, ← HM.out.1]
          exact own_base hown5 HB4.out.size
        obtain ⟨O, hO⟩ : ∃ z, z = w4.heap.size := ⟨_, rfl⟩
        have HOW : Hid (w1.heap.size ≤ O) := by show _ ≤ _; rw [hO]; exact HB4.out.size
        rw [← hO] at HO5 ⊢
        clear hown5 hgr5 hb5 HB4 hO
        go_upto_block 8 with fail
        go_cut [21, 22, 23] from 175 to 210 (fun _a _b _c wd => Hid (wd.ownsRow w1.heap.size 3 1 (.slice (some ⟨O, 0, none⟩) m m) m (ints (cntL lv cs st L 0))) ∧ Hid (Below w1.heap.size w1 wd))
        case first =>
          go_wp2_with fail
          go_loopw [21] (fun iv wr => ∃ (i : Nat), iv = .int .i64 i ∧ i ≤ L ∧ Hid (wr.ownsRow w1.heap.size 3 1 (.slice (some ⟨O, 0, none⟩) m m) m (ints (cntL lv cs st i 0))) ∧ Hid (Below w1.heap.size w1 wr)) (fun iv _ => L - (intOf iv).toNat)
          case atStart => exact ⟨0, rfl, Nat.zero_le _, HO5, HB5⟩
          case round =>
            clear HO5 HB5
            obtain ⟨i, rfl, hi, HOI, HBI⟩ := hrel
            by_cases hiL : i < L
            · obtain ⟨eb, eo, xa, xc, hea, hce, hcx⟩ := HSTEP.out i hiL
              subst hea
              have HCX := hide' hcx
              have HNX : Hid (∀ j, (opN lv cs st (i + 1) cs.length).length ≤ j → cntL lv cs st i j = cntL lv cs st (i + 1) 0) := fun j h => cnt_next lv cs st i h
              have HOM : Hid (∀ (j : Nat) (hj : j < (opN lv cs st (i + 1) cs.length).length), (opN lv cs st (i + 1) cs.length)[j] < m) := fun j hj => by rw [HM.out.1]; exact (op_mem.1 (List.getElem_mem hj)).1
              have HCS : Hid (∀ (j : Nat) (hj : j < (opN lv cs st (i + 1) cs.length).length), cntL lv cs st i (j + 1) = (cntL lv cs st i j).set ((opN lv cs st (i + 1) cs.length)[j]) (cntZ lv cs st i j ((opN lv cs st (i + 1) cs.length)[j]) + 1)) := fun j hj => cnt_step hj
              obtain ⟨on, hon⟩ : ∃ z, z = opN lv cs st (i + 1) cs.length := ⟨_, rfl⟩
              rw [← hon] at hce HCX HNX HOM HCS
              have holn : on.length ≤ 20 := by
                rw [hon]
                have h1 := op_len lv cs st (i + 1) cs.length
                unfold opL at h1
                rw [List.length_map, ← HM.out.1] at h1
                rw [← HM.out.1]; omega
              clear hon hcx
              go_wp2_with fail
              go_loopw [22, 23] (fun jv _kv wr => ∃ (j : Nat), jv = .int .i64 j ∧ j ≤ on.length ∧ Hid (wr.ownsRow w1.heap.size 3 1 (.slice (some ⟨O, 0, none⟩) m m) m (ints (cntL lv cs st i j))) ∧ Hid (Below w1.heap.size w1 wr)) (fun jv _ _ => on.length - (intOf jv).toNat)
              case atStart => exact ⟨0, rfl, Nat.zero_le _, HOI, HBI⟩
              case round =>
                clear HOI HBI
                obtain ⟨j, rfl, hj, HOI, HBI⟩ := hrel
                have ce := up_cell HBI.out hce
                by_cases hjl : j < on.length
                · obtain ⟨xb, xo, hxa, hcj⟩ := HCX.out j hjl
                  subst hxa
                  have cj := up_cell HBI.out hcj
                  have hkm := HOM.out j hjl
                  have HST1 := hide' (HCS.out j hjl)
                  obtain ⟨k, hk⟩ : ∃ k, k = on[j] := ⟨_, rfl⟩
                  rw [← hk] at cj hkm HST1
                  have hkc : k < cs.length := by rw [← HM.out.1]; exact hkm
                  obtain ⟨ck, fk⟩ := own_int HOI.out (p := k) hkm
                  have hcz : (cntL lv cs st i j).getD k 0 = cntZ lv cs st i j k := by unfold cntL; rw [rmap_getD, if_pos hkc]
                  rw [hcz] at ck
                  have hsm := cnt_small lv cs st i j k
                  have HNEW := hide' (own_int_set HOI.out (p := k) hkm (cntZ lv cs st i j k + 1))
                  rw [← HST1.out] at HNEW
                  have HBN : Hid (Below w1.heap.size w1 (wr.setCell ⟨O, k, none⟩ (.int .i64 (cntZ lv cs st i j k + 1)))) := HBI.out.setCell (p := ⟨O, k, none⟩) HOW.out _
                  obtain ⟨z, hz⟩ : ∃ z, z = cntZ lv cs st i j k := ⟨_, rfl⟩
                  rw [← hz] at ck hsm HNEW HBN
                  have hwz : IntKind.i64.wrap (z + 1) = z + 1 := Go.IntWalk.i64_in _ (by omega)
                  clear hk hcz hz hcj HST1
                  go_wp2
                  go_roundw
                  case rel => exact ⟨j + 1, by go_num, by omega, HNEW, HBN⟩
                  case measure => simp [intOf]; omega
                · have HN : Hid (wr.ownsRow w1.heap.size 3 1 (.slice (some ⟨O, 0, none⟩) m m) m (ints (cntL lv cs st (i + 1) 0))) := by
                    have h1 := HOI.out
                    rw [HNX.out j (by omega)] at h1
                    exact h1
                  go_wp2
                  go_roundw
                  case rel => exact ⟨i + 1, by go_num, by omega, HN, HBI⟩
                  case measure => simp [intOf]; omega
            · have hie : i = L := by omega
              rw [hie] at HOI
              go_wp2
              go_meet
              case rel => exact ⟨HOI, HBI⟩
        case rest =>
          obtain ⟨HOI, HBI⟩ := hcut
          obtain ⟨w6, hw6⟩ : ∃ z, z = wc := ⟨_, rfl⟩
          rw [← hw6] at HOI HBI ⊢
          clear hw6 HSTEP
          have HDK6 := hide' (own_below HDK.out HBI.out (Nat.le_refl _))
          go_wp2_with fail
          go_loopw [24, 25] (fun kv _c wr => ∃ (k : Nat), kv = .int .i64 k ∧ k ≤ m ∧ wr = w6) (fun kv _ _ => m - (intOf kv).toNat)
          case atStart => exact ⟨0, rfl, Nat.zero_le _, rfl⟩
          case round =>
            obtain ⟨k, rfl, hk, hwr⟩ := hrel
            subst hwr
            by_cases hkm : k < m
            · have hkc : k < cs.length := by rw [← HM.out.1]; exact hkm
              obtain ⟨bt, ot, hca, hbt, hc0, hc1⟩ := HCA.out k hkm
              obtain ⟨bs, os, hsa, hcs⟩ := HSA.out k hkm
              subst hca
              subst hsa
              obtain ⟨ha, hb, hab⟩ := HPL.out k hkc
              have d0 := up_cell HBI.out hc0
              have d1 := up_cell HBI.out hc1
              have ds := up_cell HBI.out hcs
              obtain ⟨ck, _⟩ := own_int HOI.out (p := k) hkm
              have hcz : (cntL lv cs st L 0).getD k 0 = cntZ lv cs st L 0 k := by unfold cntL; rw [rmap_getD, if_pos hkc]
              rw [hcz, cnt_end HL.out] at ck
              have da := (own_bool HDK6.out ha).1
              have db := (own_bool HDK6.out hb).1
              rw [dk_get ha] at da
              rw [dk_get hb] at db
              obtain ⟨x, hx⟩ : ∃ x, x = (cs.getD k (0, 0)).1 := ⟨_, rfl⟩
              obtain ⟨y, hy⟩ : ∃ y, y = (cs.getD k (0, 0)).2 := ⟨_, rfl⟩
              rw [← hx] at d0 da ha
              rw [← hy] at d1 db hb
              rw [← hx, ← hy] at ck
              obtain ⟨lx, hlx⟩ : ∃ z, z = lv.getD x 0 := ⟨_, rfl⟩
              obtain ⟨ly, hly⟩ : ∃ z, z = lv.getD y 0 := ⟨_, rfl⟩
              obtain ⟨sk, hsk⟩ : ∃ z, z = st.getD k false := ⟨_, rfl⟩
              rw [← hlx] at da
              rw [← hly] at db
              rw [← hlx, ← hly, ← hsk] at ck
              rw [← hsk] at ds
              obtain ⟨xa, hxa⟩ : ∃ z, z = decide (0 < lx) := ⟨_, rfl⟩
              obtain ⟨xb, hxb⟩ : ∃ z, z = decide (0 < ly) := ⟨_, rfl⟩
              have hck : (if sk = false ∧ (0 < lx ∨ 0 < ly) then (1 : Int) else 0) = if (!sk && (xa || xb)) = true then 1 else 0 := by
                rw [hxa, hxb]
                congr 1
                simp
              rw [hck] at ck
              rw [← hxa] at da
              rw [← hxb] at db
              clear hc0 hc1 hcs hx hy hlx hly hsk hxa hxb hck hcz hbt hab
              cases sk with
              | true =>
                have ck' : wr.cell? ⟨O, k, none⟩ = some (.int .i64 0) := ck
                clear ck
                go_wp2
                go_roundw
                case rel => exact ⟨k + 1, by go_num, by omega, trivial⟩
                case measure => simp [intOf]; omega
              | false =>
                cases xa with
                | true =>
                  have ck' : wr.cell? ⟨O, k, none⟩ = some (.int .i64 1) := ck
                  clear ck
                  go_wp2
                  go_roundw
                  case rel => exact ⟨k + 1, by go_num, by omega, trivial⟩
                  case measure => simp [intOf]; omega
                | false =>
                  cases xb with
                  | true =>
                    have ck' : wr.cell? ⟨O, k, none⟩ = some (.int .i64 1) := ck
                    clear ck
                    go_wp2
                    go_roundw
                    case rel => exact ⟨k + 1, by go_num, by omega, trivial⟩
                    case measure => simp [intOf]; omega
                  | false =>
                    have ck' : wr.cell? ⟨O, k, none⟩ = some (.int .i64 0) := ck
                    clear ck
                    go_wp2
                    go_roundw
                    case rel => exact ⟨k + 1, by go_num, by omega, trivial⟩
                    case measure => simp [intOf]; omega
            · have HE : Hid (Below w.heap.size w wr) := HB1.out.trans (HBI.out.mono HB1.out.size)
              go_wp2
              go_ret
              exact ⟨rfl, HE.out⟩
end Go.Proofs.Ytpejnkngmnabfai
