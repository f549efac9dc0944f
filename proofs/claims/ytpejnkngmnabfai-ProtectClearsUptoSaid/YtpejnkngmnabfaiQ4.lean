/- A fault is cleared, in the program. -/
import Derived.Test.YtpejnkngmnabfaiQ3
import Derived.ScopeJumps
import Derived.WalkMore
namespace Go.Proofs.Ytpejnkngmnabfai
open Go.RowKit Go.Shelf

/-- How many a slice has. -/
def lenV : Value → Nat
  | .slice _ n _ => n
  | _ => 0
theorem scope_once {P : Program} {a : Act} {w : World} {Q : Exit → Act → World → Prop} {c rest : Code} (l : Nat) (J : Act → World → Prop) (μ : Act → World → Nat) (hf : findLabel c l = some (Code.skip.seq rest))
    (pass : ∀ a w, J a w → rest.wp P (Exit.jump l (fun a' w' => J a' w' ∧ μ a' w' < μ a w) Q) a w)
    (first : (∀ a w, J a w → rest.wp P (Exit.jump l J Q) a w) → c.wp P (Exit.jump l J Q) a w) : (Code.scope c).wp P Q a w :=
  wp_scope_jumps l J μ hf (first fun a w h => wp_mono (pass a w h) fun e a' w' hq => by
    cases e with
    | goto l' => exact ⟨hq.1, hq.2.1⟩
    | normal => exact hq
    | exit id => exact hq
    | ret => exact hq
    | panic ch => exact hq
    | outgrown => exact hq) fun a w h => wp_seq (wp_skip (pass a w h))
theorem own_len {W : World} {B e sz n : Nat} {v : Value} {xs : List Value} (h : W.ownsRow B e sz v n xs) : lenV v = n := by
  obtain ⟨a, c, rfl⟩ := own_slice h; rfl
/-- What a fault leaves. -/
def TripO (n f : Nat) (cs : List CutM) (st : List Bool) (w : World) (e : Ending) (w' : World) : Prop :=
  ∃ (L : Nat) (lv : List Nat) (sv : Value) (D cd : Nat), e = .returned (.tuple #[sv, .slice (some ⟨D, 0, none⟩) n cd]) ∧ Lev n f cs st L L lv ∧ StepsAt w' w.heap.size sv (stepsL lv cs st L) ∧ w'.ownsRow w.heap.size 4 1 (.slice (some ⟨D, 0, none⟩) n cd) n ((dkL n lv).map Value.bool) ∧ Below w.heap.size w w'
/-- What lies there while a step is made. -/
structure TW (w wp wr : World) (n m : Nat) (tl : List Bool) (ol : List Int) (nl : List Bool) (ov : Value) (Nx cn : Nat) : Prop where
  o : wr.ownsRow wp.heap.size 3 1 ov ol.length (ints ol)
  x : wr.ownsRow wp.heap.size 4 1 (.slice (some ⟨Nx, 0, none⟩) n cn) n (nl.map Value.bool)
  t : wr.ownsRow w.heap.size 4 1 (.slice (some ⟨w.heap.size, 0, none⟩) m m) m (tl.map Value.bool)
  b : But w.heap.size wp wr
  l : w.heap.size < wp.heap.size
theorem TW.nx {w wp wr : World} {n m : Nat} {tl : List Bool} {ol : List Int} {nl : List Bool} {ov : Value} {Nx cn : Nat} (h : TW w wp wr n m tl ol nl ov Nx cn) : wp.heap.size ≤ Nx := own_at h.x Nx rfl
theorem TW.more {w wp wr wr' : World} {n m : Nat} {tl : List Bool} {ol : List Int} {nl : List Bool} {ov : Value} {Nx cn : Nat} (h : TW w wp wr n m tl ol nl ov Nx cn) (hb : Below wr.heap.size wr wr') : TW w wp wr' n m tl ol nl ov Nx cn :=
  ⟨own_below h.o hb (Nat.le_refl _), own_below h.x hb (Nat.le_refl _), own_below h.t hb (Nat.le_refl _), h.b.trans (But.of hb), h.l⟩
theorem TW.trip {w wp wr : World} {n m : Nat} {tl : List Bool} {ol : List Int} {nl : List Bool} {ov : Value} {Nx cn : Nat} (h : TW w wp wr n m tl ol nl ov Nx cn) (k : Nat) : TW w wp (wr.setCell ⟨w.heap.size, k, none⟩ (.bool true)) n m (tl.set k true) ol nl ov Nx cn := by
  have hb : But w.heap.size wr (wr.setCell ⟨w.heap.size, k, none⟩ (.bool true)) := (But.refl _ wr).set k _
  obtain ⟨cur, hc⟩ := own_blk h.t
  refine ⟨own_but h.o hb (own_not h.o hc (by decide)), own_but h.x hb ?_, own_bool_set h.t k true, h.b.set k _, h.l⟩
  have h1 := h.nx
  have h2 := h.l
  simp [Value.ownBlock]
  omega
theorem TW.dark {w wp wr : World} {n m : Nat} {tl : List Bool} {ol : List Int} {nl : List Bool} {ov : Value} {Nx cn : Nat} (h : TW w wp wr n m tl ol nl ov Nx cn) (p : Nat) : TW w wp (wr.setCell ⟨Nx, p, none⟩ (.bool true)) n m tl ol (nl.set p true) ov Nx cn := by
  have hb : But Nx wr (wr.setCell ⟨Nx, p, none⟩ (.bool true)) := (But.refl _ wr).set p _
  obtain ⟨cur, hc⟩ := own_blk h.x
  refine ⟨own_but h.o hb (own_not h.o hc (by decide)), own_bool_set h.x p true, own_but h.t hb ?_, h.b.over h.nx p _, h.l⟩
  have h1 := h.nx
  have h2 := h.l
  simp [Value.ownBlock]
  omega
theorem own_grown {W W' : World} {row : Option Nat} {B e sz n : Nat} {v : Value} {xs : List Value} (h : W.ownsRow B e sz v n xs) (hg : W.grownBy W' row) (hne : ∀ g, v.ownBlock = some g → some g ≠ row) : W'.ownsRow B e sz v n xs := by
  refine ⟨h.1, ?_⟩
  rcases h.2 with h2 | ⟨g, cap, cur, h3, h4, h5, h6⟩
  · exact .inl h2
  · exact .inr ⟨g, cap, cur, h3, h4, (hg.block g (Array.getElem?_eq_some_iff.1 h5).1 (hne g (by rw [h3]; rfl))).trans h5, h6⟩
theorem own_apart {W : World} {B B' e e' sz sz' n n' : Nat} {v v' : Value} {xs xs' : List Value} (h : W.ownsRow B e sz v n xs) (h' : W.ownsRow B' e' sz' v' n' xs') (hne : e ≠ e') : ∀ g, v.ownBlock = some g → some g ≠ v'.ownBlock := fun g hg he => by
  rcases h'.2 with ⟨h1, _⟩ | ⟨g', cap, cur, h3, _, h5, _⟩
  · rw [h1] at he; cases he
  · rw [h3] at he
    have : g = g' := by simpa [Value.ownBlock] using he
    subst this
    exact own_not h h5 hne hg
theorem TW.open {w wp wr w2 : World} {n m : Nat} {tl : List Bool} {ol : List Int} {nl : List Bool} {ov ov' : Value} {Nx cn : Nat} {x : Int} {o : Obj} (h : TW w wp wr n m tl ol nl ov Nx cn) (hown : w2.ownsRow wp.heap.size 3 1 ov' (ol ++ [x]).length (ints (ol ++ [x]))) (hg : (wr.alloc o).grownBy w2 ov.ownBlock) : TW w wp w2 n m tl (ol ++ [x]) nl ov' Nx cn := by
  have h1 := h.more (below_al wr o)
  exact ⟨hown, own_grown h1.x hg (own_apart h1.x h1.o (by decide)), own_grown h1.t hg (own_apart h1.t h1.o (by decide)), h.b.app h.o hg, h.l⟩
theorem steps_len (lv : List Nat) (cs : List CutM) (st : List Bool) (i : Nat) : (stepsL lv cs st i).length = i := by simp [stepsL]
theorem tr_get {lv : List Nat} {cs : List CutM} {i k : Nat} (hk : k < cs.length) : (trL lv cs i k).getD k false = decide (0 < mkk lv cs k ∧ mkk lv cs k < i) := by
  unfold trL
  rw [rmap_getD, if_pos hk]
  congr 1
  simp
theorem dk_get {n : Nat} {lv : List Nat} {p : Nat} (hp : p < n) : (dkL n lv).getD p false = decide (0 < lv.getD p 0) := by unfold dkL; rw [rmap_getD, if_pos hp]
theorem op_len (lv : List Nat) (cs : List CutM) (st : List Bool) (i j : Nat) : (opL lv cs st i j).length ≤ j := by
  unfold opL opN
  rw [List.length_map]
  have := List.length_filter_le (fun k => !st.getD k false && decide (mkk lv cs k = i)) (List.range j)
  rwa [List.length_range] at this
set_option maxRecDepth 100000 in
set_option maxHeartbeats 4000000 in
theorem trip_any (n f : Nat) (hn : 1 ≤ n ∧ n ≤ 1000) (hf : f < n) (cs : List CutM) (st : List Bool) (hpl : Placed n cs) (_hls : st.length = cs.length) (hm1 : cs.length ≤ 1000) (a b : Option Addr) (cap capb : Nat) (w : World)
    (hr : RowAt w (.slice a cs.length cap) cs.length 2 (cs.flatMap CutM.cells)) (hrs : RowAt w (.slice b cs.length capb) cs.length 1 (st.map Value.bool)) :
    Calls Try.prog 24 #[.int .i64 n, .slice a cs.length cap, .int .i64 f, .slice b cs.length capb] w (TripO n f cs st w) := by
  have HWO : Hid (∀ e w', (∃ (L : Nat) (lv : List Nat) (sv : Value) (D cd : Nat), e = .returned (.tuple #[sv, .slice (some ⟨D, 0, none⟩) n cd]) ∧ Lev n f cs st L L lv ∧ StepsAt w' w.heap.size sv (stepsL lv cs st L) ∧ w'.ownsRow w.heap.size 4 1 (.slice (some ⟨D, 0, none⟩) n cd) n ((dkL n lv).map Value.bool) ∧ Below w.heap.size w w') → TripO n f cs st w e w') := fun _ _ h => h
  obtain ⟨R, hR⟩ : ∃ R, R = TripO n f cs st w := ⟨_, rfl⟩
  rw [← hR] at HWO ⊢
  clear hR
  obtain ⟨i4, hi4, h40, h41, h42⟩ := info_parts Try.info4
  obtain ⟨i3, hi3, h30, h31, h32⟩ := info_parts Try.info3
  obtain ⟨i22, hi22, h220, h221, h222⟩ := info_parts Try.info22
  have HR := hide' hr
  have HRS := hide' hrs
  have HPL := hide' hpl
  have HTS := hide' (tr_start (lv0 n f) cs)
  obtain ⟨m, hm⟩ : ∃ m, m = cs.length := ⟨_, rfl⟩
  have HM := hide' hm
  rw [← hm] at hm1 HTS ⊢
  clear hr hrs hpl hm
  go_enter Try.func24, Try.ntmps24
  go_wp2_with fail
  refine scope_once 0 (fun a' W => ∃ (t : Nat) (lv : List Nat) (sv : Value) (D cd : Nat), (∃ (u4 u5 u6 u7 u13 u14 u15 u16 u17 u18 u19 u20 u21 u22 u23 u24 u25 u26 u27 u28 u29 u30 u31 u32 u33 u34 u35 u36 u37 u38 u39 u40 u41 u42 u43 u44 u45 u46 u47 u48 u49 u50 u51 u52 u53 u54 u55 u56 u57 u58 u59 u60 u61 u62 u63 u64 u65 u66 u67 u68 u69 u70 u71 u72 u73 u74 u75 u76 u77 u78 u79 u80 u81 u82 u83 u84 : Value), a' = { tmps := #[.int .i64 n, .slice a m cap, .int .i64 f, .slice b m capb, u4, u5, u6, u7, .slice none 0 0, .slice none 0 0, sv, .slice (some ⟨w.heap.size, 0, none⟩) m m, .slice (some ⟨D, 0, none⟩) n cd, u13, u14, u15, u16, u17, u18, u19, u20, u21, u22, u23, u24, u25, u26, u27, u28, u29, u30, u31, u32, u33, u34, u35, u36, u37, u38, u39, u40, u41, u42, u43, u44, u45, u46, u47, u48, u49, u50, u51, u52, u53, u54, u55, u56, u57, u58, u59, u60, u61, u62, u63, u64, u65, u66, u67, u68, u69, u70, u71, u72, u73, u74, u75, u76, u77, u78, u79, u80, u81, u82, u83, u84], defers := [] }) ∧ lenV sv = t ∧ Hid (Lev n f cs st (t + 1) t lv) ∧ Hid (W.ownsRow w.heap.size 4 1 (.slice (some ⟨D, 0, none⟩) n cd) n ((dkL n lv).map Value.bool)) ∧ Hid (W.ownsRow w.heap.size 4 1 (.slice (some ⟨w.heap.size, 0, none⟩) m m) m ((trL lv cs (t + 1) 0).map Value.bool)) ∧ D ≠ w.heap.size ∧ Hid (StepsAt W w.heap.size sv (stepsL lv cs st t)) ∧ Hid (Below w.heap.size w W)) (fun a' _ => n - lenV (a'.tmps.getD 10 undef)) rfl ?_ ?_
  rotate_left
  · intro hpass
    have HPASS := hide' hpass
    clear hpass
    go_wp2_with (at_make; refine wpList_make_full _ rfl _ _ 30 rfl w.heap.size 4 i4 (.bool false) 1 Try.underlying30 hi4 h40 h41 .i64 .i64 _ _ m rfl rfl rfl rfl (by rw [h42]; omega) (by unfold maxLen; omega) (Nat.le_refl _) ?_; intro w1 hown1 hgr1; refine Still.go ?_)
    unfold Still
    have HB1 : Hid (Below w.heap.size w w1) := (Below.refl _ w).grown hgr1 (Nat.le_refl _) (fun k e => by cases e)
    rw [made_bool, ← List.map_replicate, ← HTS.out] at hown1
    have HO1 := hide' hown1
    have HGL : Hid (w.heap.size < w1.heap.size) := by obtain ⟨cur, h1⟩ := own_blk hown1; exact (Array.getElem?_eq_some_iff.1 h1).1
    clear hown1 hgr1
    go_wp2_with (at_make; refine wpList_make_full _ rfl _ _ 30 rfl w1.heap.size 4 i4 (.bool false) 1 Try.underlying30 hi4 h40 h41 .i64 .i64 _ _ n rfl rfl rfl rfl (by rw [h42]; omega) (by unfold maxLen; omega) (Nat.le_refl _) ?_; intro w2 hown2 hgr2; refine Still.go ?_)
    unfold Still
    have hb2 : Below w1.heap.size w1 w2 := (Below.refl _ w1).grown hgr2 (Nat.le_refl _) (fun k e => by cases e)
    rw [made_bool, ← List.map_replicate] at hown2
    have HO2 := hide' hown2
    have HO12 := hide' (own_below HO1.out hb2 (Nat.le_refl _))
    have HB2 : Hid (Below w.heap.size w w2) := HB1.out.trans (hb2.mono HB1.out.size)
    obtain ⟨cF, fF⟩ := own_bool hown2 hf
    clear hown2 hgr2 hb2
    go_wp2_with fail
    go_step3
    rename_i K hK
    refine hK _ _ (HPASS.out _ _ ⟨0, lv0 n f, .slice none 0 0, w1.heap.size, n, ⟨_, _, _, _, _, _, _, _, _, _, _, _, _, _, _, _, _, _, _, _, _, _, _, _, _, _, _, _, _, _, _, _, _, _, _, _, _, _, _, _, _, _, _, _, _, _, _, _, _, _, _, _, _, _, _, _, _, _, _, _, _, _, _, _, _, _, _, _, _, _, _, _, _, _, _, _, rfl⟩, rfl, Lev.start hf cs st, ?_, ?_, ?_, StepsAt.nil _ _, ?_⟩)
    · have h1 := own_base (own_bool_set HO2.out f true) HB1.out.size
      rw [← dk_start] at h1
      exact h1
    · have hb : But w1.heap.size w2 (w2.setCell ⟨w1.heap.size, f, none⟩ (.bool true)) := (But.refl _ w2).set f _
      exact own_but HO12.out hb (by have := HGL.out; simp [Value.ownBlock]; omega)
    · have := HGL.out; omega
    · exact HB2.out.setCell (p := ⟨w1.heap.size, f, none⟩) HB1.out.size _
  · rintro a' wp ⟨t, lv, sv, D, cd, ⟨u4, u5, u6, u7, u13, u14, u15, u16, u17, u18, u19, u20, u21, u22, u23, u24, u25, u26, u27, u28, u29, u30, u31, u32, u33, u34, u35, u36, u37, u38, u39, u40, u41, u42, u43, u44, u45, u46, u47, u48, u49, u50, u51, u52, u53, u54, u55, u56, u57, u58, u59, u60, u61, u62, u63, u64, u65, u66, u67, u68, u69, u70, u71, u72, u73, u74, u75, u76, u77, u78, u79, u80, u81, u82, u83, u84, rfl⟩, hlen, HLV, HDK, HTR, hDG, HST, HBP⟩
    have hsm := HLV.out.small
    obtain ⟨vals, hvl, hvo, hvr⟩ := HST.out
    rw [steps_len] at hvl hvo
    obtain ⟨sa, sc, rfl⟩ := own_slice hvo
    have HVO := hide' hvo
    have HVR := hide' hvr
    have HVL := hide' hvl
    have HDGN := hide' hDG
    have HWPL : Hid (w.heap.size < wp.heap.size) := by obtain ⟨cur, h1⟩ := own_blk HTR.out; exact (Array.getElem?_eq_some_iff.1 h1).1
    have HGB : Hid (∃ cur, wp.heap[w.heap.size]? = some (.cells cur 4 (0, 0))) := own_blk HTR.out
    have HDL : Hid (D < wp.heap.size) := by obtain ⟨cur, h1⟩ := own_blk HDK.out; exact (Array.getElem?_eq_some_iff.1 h1).1
    have HCL := hide' (CloneB_any (dkL n lv) n _ wp (rowAt_of_own HDK.out) (by omega))
    clear hvl hvo hvr hDG hlen HST HTS
    go_wp2_with fail
    refine HCL.out.mono ?_
    rintro e w1 ⟨an, cn, rfl, ho1, hb1⟩
    obtain ⟨Nx, rfl⟩ : ∃ Nx, an = some ⟨Nx, 0, none⟩ := by
      rcases ho1.2 with ⟨_, h0⟩ | ⟨g, cap', cur, h1, _⟩
      · omega
      · cases h1; exact ⟨g, rfl⟩
    have HTW1 : Hid (TW w wp w1 n m (trL lv cs (t + 1) 0) (opL lv cs st (t + 1) 0) (nxL n lv cs st (t + 1) 0) (.slice none 0 0) Nx cn) := by
      refine ⟨World.ownsRow_nil _ _ _ _, ?_, own_below HTR.out hb1 (Nat.le_refl _), But.of hb1, HWPL.out⟩
      rw [nxL_zero]; exact ho1
    clear ho1 hb1 HCL HTR
    go_wp2_with fail
    go_loopw [13, 29] (fun ov kv wr => ∃ (k : Nat), kv = .int .i64 k ∧ k ≤ m ∧ Hid (TW w wp wr n m (trL lv cs (t + 1) k) (opL lv cs st (t + 1) k) (nxL n lv cs st (t + 1) k) ov Nx cn)) (fun _ kv _ => m - (intOf kv).toNat)
    case atStart => exact ⟨0, rfl, Nat.zero_le _, HTW1⟩
    case round =>
      clear HTW1
      obtain ⟨k, rfl, hk, HTW⟩ := hrel
      by_cases hlt : k < m
      · have hkc : k < cs.length := by rw [← HM.out]; exact hlt
        have HBW : Hid (Below w.heap.size w wr) := But.below HBP.out (Nat.le_refl _) (Nat.le_refl _) HTW.out.b
        obtain ⟨bt, ot, ct', ex, hbt, hct⟩ := row_elem (f := CutM.cells) (xs := cs) (fun _ => rfl) HR.out k hkc (by decide)
        cases ex
        obtain ⟨ha, hb, hab⟩ := HPL.out k hkc
        have hgk : cs[k] = cs.getD k (0, 0) := by rw [List.getD_eq_getElem?_getD, List.getElem?_eq_getElem hkc]; rfl
        rw [hgk] at hct
        have d0 := up_cell HBW.out (hct 0 _ rfl)
        have d1 := up_cell HBW.out (hct 1 _ rfl)
        rw [Nat.add_zero] at d0
        obtain ⟨x, hx⟩ : ∃ x, x = (cs.getD k (0, 0)).1 := ⟨_, rfl⟩
        obtain ⟨y, hy⟩ : ∃ y, y = (cs.getD k (0, 0)).2 := ⟨_, rfl⟩
        rw [← hx, ← hy] at hab
        rw [← hx] at d0 ha
        rw [← hy] at d1 hb
        have HX := hide' hx
        have HY := hide' hy
        clear hct hgk hbt hx hy
        go_upto_region 10 with fail
        have HB2 := hide' (below_al wr (.cells #[.int .i64 (x : Int), .int .i64 (y : Int)] 42))
        have HQ2 := hide' (alloc_new wr (.cells #[.int .i64 (x : Int), .int .i64 (y : Int)] 42))
        have HTW2 := hide' (HTW.out.more HB2.out)
        have HBW2 : Hid (Below w.heap.size w (wr.alloc (.cells #[.int .i64 (x : Int), .int .i64 (y : Int)] 42))) := HBW.out.alloc HBW.out.size _
        obtain ⟨w2, hw2⟩ : ∃ z, z = wr.alloc (.cells #[.int .i64 (x : Int), .int .i64 (y : Int)] 42) := ⟨_, rfl⟩
        obtain ⟨B, hB⟩ : ∃ z, z = wr.heap.size := ⟨_, rfl⟩
        rw [← hw2] at HB2 HQ2 HTW2 HBW2 ⊢
        rw [← hB] at HQ2 ⊢
        clear hw2 hB HTW HBW HB2 d0 d1
        have b0 : w2.cell? ⟨B, 0, none⟩ = some (.int .i64 (x : Int)) := (cells_at HQ2.out 0).trans rfl
        have b1 : w2.cell? ⟨B, 1, none⟩ = some (.int .i64 (y : Int)) := (cells_at HQ2.out 1).trans rfl
        have HDK2 : Hid (w2.ownsRow w.heap.size 4 1 (.slice (some ⟨D, 0, none⟩) n cd) n ((dkL n lv).map Value.bool)) := own_but HDK.out HTW2.out.b (by have := HDGN.out; simp [Value.ownBlock]; omega)
        obtain ⟨da, _⟩ := own_bool HDK2.out ha
        obtain ⟨db, _⟩ := own_bool HDK2.out hb
        rw [dk_get ha] at da
        rw [dk_get hb] at db
        obtain ⟨gk, fk⟩ := own_bool HTW2.out.t hlt
        rw [tr_get hkc] at gk
        have HMK : Hid (mkk lv cs k = mm (lv.getD x 0) (lv.getD y 0)) := by show _ = _; rw [HX.out, HY.out]; exact mk_mm lv cs k
        have hmle := mk_le HLV.out k
        obtain ⟨lx, hlx⟩ : ∃ z, z = lv.getD x 0 := ⟨_, rfl⟩
        obtain ⟨ly, hly⟩ : ∃ z, z = lv.getD y 0 := ⟨_, rfl⟩
        obtain ⟨q, hq⟩ : ∃ z, z = mkk lv cs k := ⟨_, rfl⟩
        have HQ := hide' hq
        rw [← hlx] at da HMK
        rw [← hly] at db HMK
        rw [← hq] at gk HMK hmle
        clear hlx hly hq
        have HSKIP : Hid (q ≠ t + 1 → trL lv cs (t + 1) (k + 1) = trL lv cs (t + 1) k ∧ opL lv cs st (t + 1) (k + 1) = opL lv cs st (t + 1) k ∧ nxL n lv cs st (t + 1) (k + 1) = nxL n lv cs st (t + 1) k) := fun h => by
          rw [HQ.out] at h
          exact ⟨tr_skip h, op_skip (.inl h), nx_skip (.inl h)⟩
        by_cases h1 : 0 < q ∧ q < t + 1
        · have e1 : decide (0 < q ∧ q < t + 1) = true := by simp [h1]
          rw [e1] at gk
          have HN : Hid (TW w wp w2 n m (trL lv cs (t + 1) (k + 1)) (opL lv cs st (t + 1) (k + 1)) (nxL n lv cs st (t + 1) (k + 1)) u13 Nx cn) := by
            obtain ⟨s1, s2, s3⟩ := HSKIP.out (by omega)
            rw [s1, s2, s3]; exact HTW2.out
          clear e1 h1 da db
          go_wp2
          go_roundw
          case rel => exact ⟨k + 1, by go_num, by omega, HN⟩
          case measure => simp [intOf]; omega
        have e1 : decide (0 < q ∧ q < t + 1) = false := by simp; omega
        rw [e1] at gk
        by_cases h2 : q = 0
        · have hz : lx = 0 ∧ ly = 0 := by
            have := HMK.out
            unfold mm at this
            split at this
            · omega
            · split at this <;> omega
          obtain ⟨hz1, hz2⟩ := hz
          rw [hz1] at da
          rw [hz2] at db
          have HN : Hid (TW w wp w2 n m (trL lv cs (t + 1) (k + 1)) (opL lv cs st (t + 1) (k + 1)) (nxL n lv cs st (t + 1) (k + 1)) u13 Nx cn) := by
            obtain ⟨s1, s2, s3⟩ := HSKIP.out (by omega)
            rw [s1, s2, s3]; exact HTW2.out
          have da' : w2.cell? ⟨D, x, none⟩ = some (.bool false) := da
          have db' : w2.cell? ⟨D, y, none⟩ = some (.bool false) := db
          clear e1 h1 da db hz1 hz2 h2 hmle
          go_wp2
          go_roundw
          case rel => exact ⟨k + 1, by go_num, by omega, HN⟩
          case measure => simp [intOf]; omega
        have hqi : q = t + 1 := by omega
        have hpos : 0 < lx ∨ (lx = 0 ∧ 0 < ly) := by
          have := HMK.out
          unfold mm at this
          split at this
          · exact .inr ⟨by assumption, by omega⟩
          · exact .inl (by omega)
        have HTRM : Hid (trL lv cs (t + 1) (k + 1) = (trL lv cs (t + 1) k).set k true) := tr_meet (by omega) (by rw [← HQ.out]; exact hqi)
        have HQI : Hid (mkk lv cs k = t + 1) := by show _ = _; rw [← HQ.out]; exact hqi
        obtain ⟨bs, os, cs', ex2, hcs⟩ := bool_cell2 HRS.out k (by rw [← HM.out]; exact hlt)
        cases ex2
        clear h1 h2 e1 hqi hmle HMK
        obtain ⟨dax, hdax⟩ : ∃ z, z = decide (0 < lx) := ⟨_, rfl⟩
        obtain ⟨dbx, hdbx⟩ : ∃ z, z = decide (0 < ly) := ⟨_, rfl⟩
        have hor : dax = true ∨ (dax = false ∧ dbx = true) := by
          rcases hpos with h | ⟨h, h'⟩
          · exact .inl (by rw [hdax]; simp [h])
          · exact .inr ⟨by rw [hdax]; simp [h], by rw [hdbx]; simp [h']⟩
        rw [← hdax] at da
        rw [← hdbx] at db
        clear hdax hdbx hpos
        rcases hor with rfl | ⟨rfl, rfl⟩
        all_goals
          go_upto_region 12 with fail
          have HTW3 := hide' (HTW2.out.trip k)
          rw [← HTRM.out] at HTW3
          have HBW3 : Hid (Below w.heap.size w (w2.setCell ⟨w.heap.size, k, none⟩ (.bool true))) := HBW2.out.setCell (p := ⟨w.heap.size, k, none⟩) (Nat.le_refl _) _
          have HQ3 : Hid ((w2.setCell ⟨w.heap.size, k, none⟩ (.bool true)).heap[B]? = some (.cells #[.int .i64 (x : Int), .int .i64 (y : Int)] 42 (0, 0))) := by
            have hne : B ≠ w.heap.size := fun e => by
              obtain ⟨cur, h1⟩ := own_blk HTW2.out.t
              rw [← e, HQ2.out] at h1; cases h1
            exact (Below.heap_setCell _ _ _ B hne).trans HQ2.out
          obtain ⟨w3, hw3⟩ : ∃ z, z = w2.setCell ⟨w.heap.size, k, none⟩ (.bool true) := ⟨_, rfl⟩
          rw [← hw3] at HTW3 HBW3 HQ3 ⊢
          clear hw3 HTW2 HBW2 HQ2 HDK2 b0 b1 gk fk da db
          have sk := up_cell HBW3.out hcs
          obtain ⟨sb, hsb⟩ : ∃ z, z = st.getD k false := ⟨_, rfl⟩
          rw [← hsb] at sk
          have HSB := hide' hsb
          clear hsb
          cases sb with
          | true =>
            have HN2 : Hid (opL lv cs st (t + 1) (k + 1) = opL lv cs st (t + 1) k ∧ nxL n lv cs st (t + 1) (k + 1) = ((nxL n lv cs st (t + 1) k).set x true).set y true) := by
              refine ⟨op_skip (.inr HSB.out.symm), ?_⟩
              rw [HX.out, HY.out]
              exact nx_meet HQI.out HSB.out.symm
            go_upto_region 13 with fail
            have p0 : w3.cell? ⟨B, 0, none⟩ = some (.int .i64 (x : Int)) := (cells_at HQ3.out 0).trans rfl
            have p1 : w3.cell? ⟨B, 1, none⟩ = some (.int .i64 (y : Int)) := (cells_at HQ3.out 1).trans rfl
            obtain ⟨nx0, nf0⟩ := own_bool HTW3.out.x ha
            have hset := HTW3.out.dark x
            obtain ⟨nx1, nf1⟩ := own_bool hset.x hb
            have HD2 := hide' (hset.dark y)
            clear hset
            go_wp2_with fail
            have hBN : B ≠ Nx := fun e => by
              obtain ⟨cur, h1⟩ := own_blk HTW3.out.x
              rw [← e, HQ3.out] at h1; cases h1
            have HQ4 := hide' ((Below.heap_setCell w3 ⟨Nx, x, none⟩ (.bool true) B hBN).trans HQ3.out)
            have p2 : (w3.setCell ⟨Nx, x, none⟩ (.bool true)).cell? ⟨B, 0, none⟩ = some (.int .i64 (x : Int)) := (cells_at HQ4.out 0).trans rfl
            have p3 : (w3.setCell ⟨Nx, x, none⟩ (.bool true)).cell? ⟨B, 1, none⟩ = some (.int .i64 (y : Int)) := (cells_at HQ4.out 1).trans rfl
            refine wp_region_tail (fun W => W.cell? ⟨B, 0, none⟩ = some (.int .i64 (x : Int)) ∧ W.cell? ⟨B, 1, none⟩ = some (.int .i64 (y : Int))) 9 (by kernel_rfl) ?_
            refine wpAnyD_takeAt 0 (some 61) (v := ?_) rfl (by kernel_rfl) (by kernel_rfl) (by kernel_rfl) (by kernel_rfl) (by kernel_rfl) (fun _ _ _ h => h) (by exact ⟨p0, p1⟩) (fun o hop => ?_) ?_
            rotate_left
            · injection hop with hop
              subst hop
              refine ⟨rfl, fun W hW => ?_⟩
              obtain ⟨s0, s1⟩ := hW
              go_simp
              first
              | rfl
              | rw [if_neg (by omega)]
            try simp only [Act.put, List.setIfInBounds_toArray, List.set_cons_zero, List.set_cons_succ]
            refine wpAnyD_takeAt 1 (some 62) (v := ?_) rfl (by kernel_rfl) (by kernel_rfl) (by kernel_rfl) (by kernel_rfl) (by kernel_rfl) (fun _ _ _ h => h) (by exact ⟨p0, p1⟩) (fun o hop => ?_) ?_
            rotate_left
            · injection hop with hop
              subst hop
              refine ⟨rfl, fun W hW => ?_⟩
              obtain ⟨s0, s1⟩ := hW
              go_simp
              first
              | rfl
              | rw [if_neg (by omega)]
            try simp only [Act.put, List.setIfInBounds_toArray, List.set_cons_zero, List.set_cons_succ]
            refine wpAnyD_takeAt 2 (some 63) (v := ?_) rfl (by kernel_rfl) (by kernel_rfl) (by kernel_rfl) (by kernel_rfl) (by kernel_rfl) (fun _ _ _ h => h) (by exact ⟨p0, p1⟩) (fun o hop => ?_) ?_
            rotate_left
            · injection hop with hop
              subst hop
              refine ⟨rfl, fun W hW => ?_⟩
              obtain ⟨s0, s1⟩ := hW
              go_simp
              first
              | rfl
              | rw [if_neg (by omega)]
            try simp only [Act.put, List.setIfInBounds_toArray, List.set_cons_zero, List.set_cons_succ]
            refine wpAnyD_takeAt 3 (some 64) (v := ?_) rfl (by kernel_rfl) (by kernel_rfl) (by kernel_rfl) (by kernel_rfl) (by kernel_rfl) (fun _ _ _ h => h) (by exact ⟨p0, p1⟩) (fun o hop => ?_) ?_
            rotate_left
            · injection hop with hop
              subst hop
              refine ⟨rfl, fun W hW => ?_⟩
              obtain ⟨s0, s1⟩ := hW
              go_simp
              first
              | rfl
              | rw [if_neg (by omega)]
            try simp only [Act.put, List.setIfInBounds_toArray, List.set_cons_zero, List.set_cons_succ]
            refine wpAnyD_takeAt 4 (some 65) (v := ?_) rfl (by kernel_rfl) (by kernel_rfl) (by kernel_rfl) (by kernel_rfl) (by kernel_rfl) (fun _ _ _ h => h) (by exact ⟨p0, p1⟩) (fun o hop => ?_) ?_
            rotate_left
            · injection hop with hop
              subst hop
              refine ⟨rfl, fun W hW => ?_⟩
              obtain ⟨s0, s1⟩ := hW
              go_simp
              first
              | rfl
              | rw [if_neg (by omega)]
            try simp only [Act.put, List.setIfInBounds_toArray, List.set_cons_zero, List.set_cons_succ]
            refine wpAnyD_takeAt 5 (some 66) (v := ?_) rfl (by kernel_rfl) (by kernel_rfl) (by kernel_rfl) (by kernel_rfl) (by kernel_rfl) (fun _ _ _ h => h) (by exact ⟨p0, p1⟩) (fun o hop => ?_) ?_
            rotate_left
            · injection hop with hop
              subst hop
              refine ⟨rfl, fun W hW => ?_⟩
              obtain ⟨s0, s1⟩ := hW
              go_simp
              first
              | rfl
              | rw [if_neg (by omega)]
            try simp only [Act.put, List.setIfInBounds_toArray, List.set_cons_zero, List.set_cons_succ]
            refine wpAnyT_one (i := 6) (by kernel_rfl) rfl rfl (fun K' hK => ?_)
            go_simp
            refine hK.out _ _ (fun _ => by exact ⟨p0, p1⟩) ?_
            clear hK K'
            refine wpAnyT_one (i := 7) (by kernel_rfl) rfl rfl (fun K' hK => ?_)
            go_simp
            refine hK.out _ _ (fun _ => by exact ⟨p2, p3⟩) ?_
            clear hK K'
            refine wpAnyT_one (i := 8) (by kernel_rfl) rfl rfl (fun K' hK => ?_)
            go_simp
            refine hK.out _ _ (fun _ => by exact ⟨p2, p3⟩) ?_
            clear hK K'
            refine wpAnyT_one (i := 9) (by kernel_rfl) rfl rfl (fun K' hK => ?_)
            go_simp
            refine hK.out _ _ (fun h => absurd rfl h) ?_
            clear hK K'
            refine wpAnyT_done (by kernel_rfl) ?_ _
            have HN : Hid (TW w wp ((w3.setCell ⟨Nx, x, none⟩ (.bool true)).setCell ⟨Nx, y, none⟩ (.bool true)).drew n m (trL lv cs (t + 1) (k + 1)) (opL lv cs st (t + 1) (k + 1)) (nxL n lv cs st (t + 1) (k + 1)) u13 Nx cn) := by
              rw [HN2.out.1, HN2.out.2]
              exact HD2.out.more ((Below.refl _ _).drew)
            obtain ⟨w4, hw4⟩ : ∃ z, z = ((w3.setCell ⟨Nx, x, none⟩ (.bool true)).setCell ⟨Nx, y, none⟩ (.bool true)).drew := ⟨_, rfl⟩
            rw [← hw4] at HN ⊢
            clear hw4 p0 p1 p2 p3 nx0 nx1 nf0 nf1 HD2 HQ3 HQ4 HTW3 HBW3 sk hBN
            go_wp2
            go_roundw
            case rel => exact ⟨k + 1, by go_num, by omega, HN⟩
            case measure => simp [intOf]; omega
          | false =>
            have HN2 : Hid (opL lv cs st (t + 1) (k + 1) = opL lv cs st (t + 1) k ++ [(k : Int)] ∧ nxL n lv cs st (t + 1) (k + 1) = nxL n lv cs st (t + 1) k) := ⟨op_meet HQI.out HSB.out.symm, nx_skip (.inr HSB.out.symm)⟩
            have holn := op_len lv cs st (t + 1) k
            have HZ3 : Hid (wp.heap.size ≤ w3.heap.size) := HTW3.out.b.size
            obtain ⟨oa, oc, hov⟩ := own_slice HTW3.out.o
            subst hov
            go_wp2_with (at_builtin; refine wpList_append_own _ rfl _ _ 22 rfl wp.heap.size 3 i3 (.int .i64 0) 1 8 Try.underlying22 hi3 h30 h31 h32 rfl (by decide) _ _ _ rfl (HTW3.out.o.alloc _) ⟨w3.heap.size, 0, none⟩ 1 1 [.int .i64 (k : Int)] rfl rfl (cell_one_new _ _ _) (one_cell rfl) (by unfold maxLen; omega) (by omega) (by have := HZ3.out; simp; omega) ?_; intro v' w4 hown' hgrow _; refine Still.go ?_)
            unfold Still
            have HN : Hid (TW w wp w4 n m (trL lv cs (t + 1) (k + 1)) (opL lv cs st (t + 1) (k + 1)) (nxL n lv cs st (t + 1) (k + 1)) v' Nx cn) := by
              rw [HN2.out.1, HN2.out.2]
              exact HTW3.out.open (own_snoc hown') hgrow
            clear hown' hgrow holn HTW3 HBW3 HQ3 sk
            go_wp2
            go_roundw
            case rel => exact ⟨k + 1, by go_num, by omega, HN⟩
            case measure => simp [intOf]; omega
      · have hkm : k = cs.length := by rw [← HM.out]; omega
        rw [hkm] at HTW
        have HKM := hide' hkm
        obtain ⟨Gc, hGc⟩ := HGB.out
        have HVOr := hide' (own_but HVO.out HTW.out.b (own_not HVO.out hGc (by decide)))
        have HVRr : Hid (∀ (j : Nat) (x : Value) (l : List Int), vals[j]? = some x → (stepsL lv cs st t)[j]? = some l → wr.ownsRow w.heap.size 3 1 x l.length (ints l)) := fun j x l hx hl => own_but (HVR.out j x l hx hl) HTW.out.b (own_not (HVR.out j x l hx hl) hGc (by decide))
        have HDKr : Hid (wr.ownsRow w.heap.size 4 1 (.slice (some ⟨D, 0, none⟩) n cd) n ((dkL n lv).map Value.bool)) := own_but HDK.out HTW.out.b (by have := HDGN.out; simp [Value.ownBlock]; omega)
        have HBWr : Hid (Below w.heap.size w wr) := But.below HBP.out (Nat.le_refl _) (Nat.le_refl _) HTW.out.b
        have HOr := hide' (own_base HTW.out.o (show w.heap.size ≤ wp.heap.size by have := HWPL.out; omega))
        obtain ⟨oa, oc, hov⟩ := own_slice HTW.out.o
        subst hov
        obtain ⟨ol, hol⟩ : ∃ z, z = (opL lv cs st (t + 1) cs.length).length := ⟨_, rfl⟩
        rw [← hol] at HOr ⊢
        have HOL := hide' hol
        clear hGc hkm hol
        go_wp2_with (at_builtin; refine wpList_append_own _ rfl _ _ 31 rfl w.heap.size 22 i22 (.slice none 0 0) 1 24 Try.underlying31 hi22 h220 h221 h222 rfl (by decide) _ _ _ rfl (HVOr.out.alloc _) ⟨wr.heap.size, 0, none⟩ 1 1 [.slice oa ol oc] rfl rfl (cell_one_new _ _ _) (one_cell rfl) (by unfold maxLen; omega) (by omega) (by have := HBWr.out.size; simp; omega) ?_; intro v' w4 hown' hgrow _; refine Still.go ?_)
        unfold Still
        have HST4 : Hid (StepsAt w4 w.heap.size v' (stepsL lv cs st (t + 1))) := by
          rw [steps_more]
          rw [HOL.out] at HOr hown'
          have h1 := HVOr.out
          have h2 := hown'
          exact StepsAt.more (by rw [steps_len]; exact HVL.out) (by rw [steps_len]; exact h1) HVRr.out HOr.out h2 (by rw [steps_len]) hgrow
        have HVA := hide' (own_below HVOr.out (below_al wr (.cells #[.slice oa ol oc] 22)) (Nat.le_refl _))
        have HDK4 : Hid (w4.ownsRow w.heap.size 4 1 (.slice (some ⟨D, 0, none⟩) n cd) n ((dkL n lv).map Value.bool)) := by
          have h1 := own_below HDKr.out (below_al wr (.cells #[.slice oa ol oc] 22)) (Nat.le_refl _)
          exact own_grown h1 hgrow (own_apart h1 HVA.out (by decide))
        have HNX4 : Hid (w4.ownsRow w.heap.size 4 1 (.slice (some ⟨Nx, 0, none⟩) n cn) n ((nxL n lv cs st (t + 1) cs.length).map Value.bool)) := by
          have h1 := own_below (own_base HTW.out.x (show w.heap.size ≤ wp.heap.size by have := HWPL.out; omega)) (below_al wr (.cells #[.slice oa ol oc] 22)) (Nat.le_refl _)
          exact own_grown h1 hgrow (own_apart h1 HVA.out (by decide))
        have HTR4 : Hid (w4.ownsRow w.heap.size 4 1 (.slice (some ⟨w.heap.size, 0, none⟩) m m) m ((trL lv cs (t + 1) cs.length).map Value.bool)) := by
          have h1 := own_below HTW.out.t (below_al wr (.cells #[.slice oa ol oc] 22)) (Nat.le_refl _)
          exact own_grown h1 hgrow (own_apart h1 HVA.out (by decide))
        have HB4 := hide' (below_app HBWr.out HVOr.out (Nat.le_refl _) HBWr.out.size hgrow)
        have HNXG : Hid (Nx ≠ w.heap.size) := fun e => by have := HTW.out.nx; have := HWPL.out; omega
        have HLN : Hid (lenV v' = t + 1) := own_len hown'
        obtain ⟨va, vc, hv⟩ := own_slice hown'
        subst hv
        have HEQ := hide' (EqualB_any (nxL n lv cs st (t + 1) cs.length) (dkL n lv) n _ _ w4 (rowAt_of_own HNX4.out) (rowAt_of_own HDK4.out) (by omega))
        obtain ⟨r, hr⟩ : ∃ r, r = decide (nxL n lv cs st (t + 1) cs.length = dkL n lv) := ⟨_, rfl⟩
        have HRR := hide' hr
        rw [← hr] at HEQ
        clear hr hown' hgrow HVA HDKr HBWr HOr HVOr HVRr HTW
        go_wp2_with fail
        refine HEQ.out.mono ?_
        rintro e w5 ⟨rfl, hb5⟩
        have HB5 : Hid (Below w.heap.size w w5) := HB4.out.trans (hb5.mono HB4.out.size)
        have HST5 : Hid (StepsAt w5 w.heap.size (.slice va (t + 1) vc) (stepsL lv cs st (t + 1))) := by
          obtain ⟨v1, g1, g2, g3⟩ := HST4.out
          exact ⟨v1, g1, own_below g2 hb5 (Nat.le_refl _), fun j x l hx hl => own_below (g3 j x l hx hl) hb5 (Nat.le_refl _)⟩
        have HDK5 := hide' (own_below HDK4.out hb5 (Nat.le_refl _))
        have HNX5 := hide' (own_below HNX4.out hb5 (Nat.le_refl _))
        have HTR5 := hide' (own_below HTR4.out hb5 (Nat.le_refl _))
        clear hb5 HEQ HST4 HDK4 HNX4 HTR4 HB4
        cases r with
        | true =>
          have HL2 : Hid (Lev n f cs st (t + 1) (t + 1) lv) := HLV.out.done rfl HPL.out (of_decide_eq_true HRR.out.symm)
          go_wp2
          exact HWO.out _ _ ⟨t + 1, lv, _, D, cd, rfl, HL2.out, HST5.out, HDK5.out, HB5.out⟩
        | false =>
          have HNE : Hid (nxL n lv cs st (t + 1) cs.length ≠ dkL n lv) := of_decide_eq_false HRR.out.symm
          have HL2 := hide' (HLV.out.next rfl HPL.out HNE.out)
          go_wp2
          go_step3
          refine ⟨rfl, ⟨t + 1, nlv n lv cs st (t + 1), _, Nx, cn, ⟨_, _, _, _, _, _, _, _, _, _, _, _, _, _, _, _, _, _, _, _, _, _, _, _, _, _, _, _, _, _, _, _, _, _, _, _, _, _, _, _, _, _, _, _, _, _, _, _, _, _, _, _, _, _, _, _, _, _, _, _, _, _, _, _, _, _, _, _, _, _, _, _, _, _, _, _, rfl⟩, rfl, HL2, ?_, ?_, HNXG.out, ?_, HB5⟩, ?_⟩
          · have h1 := HNX5.out
            rw [← dk_nlv] at h1
            exact h1
          · have h1 := HTR5.out
            rw [← tr_again HLV.out HPL.out] at h1
            exact h1
          · have h1 := HST5.out
            rw [← steps_same HLV.out HPL.out] at h1
            exact h1
          · show n - (t + 1) < n - t
            omega
end Go.Proofs.Ytpejnkngmnabfai
