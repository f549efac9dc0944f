/- What releases are worth, and prices out of raw numbers. -/
import Derived.Test.YtmbgjmkndhjilakVd
namespace Go.Proofs.Ytmbgjmkndhjilak
open Go.RowKit Go.Shelf

set_option maxRecDepth 100000 in
set_option maxHeartbeats 4000000 in
theorem hoursFrom_any (raw : List Int) (v : Value) (n of : Nat) (w : World) (hx : RowAt w v raw.length 1 (ints raw)) (hI : ∀ x ∈ raw, I6 x) (hn : n ≤ 8) (hof : 0 < of) (hof2 : of ≤ 3000) :
    Calls Try.prog 10 #[v, .int .i64 (n : Int), .int .i64 (of : Int)] w fun e w' => ∃ (l : List Int) (v' : Value), e = .returned v' ∧ l.length = n ∧ (∀ x ∈ l, 0 ≤ x ∧ x < (of : Int)) ∧ w'.ownsRow w.heap.size 3 1 v' l.length (ints l) ∧ Below w.heap.size w w' := by
  obtain ⟨i3, hi3, h30, h31, h32⟩ := info_parts Try.info3'
  have HX := hide' hx
  have HI : Hid (∀ k, k < raw.length → I6 (raw.getD k 0)) := fun k hk => hI _ (getD_mem hk)
  obtain ⟨ar, cr, rfl⟩ := rowAt_slice hx
  clear hx hI
  go_enter Try.func10, Try.ntmps10
  go_wp2_with fail
  go_loopw [7, 8] (fun tv i wr => ∃ (k : Nat) (l : List Int), i = .int .i64 k ∧ k ≤ n ∧ Hid (l.length = k ∧ ∀ x ∈ l, 0 ≤ x ∧ x < (of : Int)) ∧ Hid (wr.ownsRow w.heap.size 3 1 tv l.length (ints l) ∧ Below w.heap.size w wr)) (fun _ i _ => n - (intOf i).toNat)
  case atStart => exact ⟨0, [], rfl, Nat.zero_le _, ⟨rfl, fun l hl => by cases hl⟩, World.ownsRow_nil _ _ _ _, Below.refl _ w⟩
  case round =>
    obtain ⟨k, l, rfl, hk, HL, HW⟩ := hrel
    by_cases hlt : k < n
    · by_cases hkr : k < raw.length
      · obtain ⟨bt, ot, ct, ex, hct⟩ := ints_cell HX.out k hkr
        cases ex
        obtain ⟨q, hq, hpc⟩ := picked_is (raw.getD k 0) of (HI.out k hkr) hof hof2
        obtain ⟨x, hx⟩ : ∃ x, x = raw.getD k 0 := ⟨_, rfl⟩
        rw [← hx] at hct hpc
        have HPC := hide' hpc
        have hc1 := up_cell HW.out.2 hct
        clear hct hpc hx
        go_wp2_with fail
        refine (HPC.out _).mono ?_
        rintro e zz ⟨rfl, hzz⟩
        obtain rfl := hzz.symm
        go_wp2_with (at_builtin; refine wpList_append_own _ rfl _ _ 23 rfl w.heap.size 3 i3 (.int .i64 0) 1 8 Try.underlying23 hi3 h30 h31 h32 rfl (by decide) _ _ _ rfl (own_below HW.out.1 (below_al _ _) (Nat.le_refl _)) ⟨wr.heap.size, 0, none⟩ 1 1 [.int .i64 (q : Int)] rfl rfl (cell_one_new _ _ _) (one_cell rfl) (by have := HL.out.1; unfold maxLen; omega) (by have := HL.out.1; omega) (Nat.le_trans HW.out.2.size (below_al _ _).size) ?_; intro v' w8 hown' hgrow _; refine Still.go ?_)
        unfold Still
        have HNW : Hid (w8.ownsRow w.heap.size 3 1 v' (l ++ [(q : Int)]).length (ints (l ++ [(q : Int)])) ∧ Below w.heap.size w w8) := ⟨by rw [show ints (l ++ [(q : Int)]) = ints l ++ [.int .i64 (q : Int)] from by simp [ints], List.length_append]; exact hown', (HW.out.2.trans ((below_al _ _).mono HW.out.2.size)).grown hgrow (Nat.le_trans HW.out.2.size (below_al _ _).size) (own_at HW.out.1)⟩
        have HNL : Hid ((l ++ [(q : Int)]).length = k + 1 ∧ ∀ y ∈ l ++ [(q : Int)], 0 ≤ y ∧ y < (of : Int)) := ⟨by rw [List.length_append, HL.out.1]; rfl, fun y hy => by
          rcases List.mem_append.1 hy with h | h
          · exact HL.out.2 y h
          · rw [List.mem_singleton.1 h]; omega⟩
        clear hown' hgrow HW HL
        go_wp2_with fail
        go_roundw
        case rel => exact ⟨k + 1, l ++ [(q : Int)], by go_num, by omega, HNL, HNW⟩
        case measure => simp [intOf]; omega
      · go_wp2_with (at_builtin; refine wpList_append_own _ rfl _ _ 23 rfl w.heap.size 3 i3 (.int .i64 0) 1 8 Try.underlying23 hi3 h30 h31 h32 rfl (by decide) _ _ _ rfl (own_below HW.out.1 (below_al _ _) (Nat.le_refl _)) ⟨wr.heap.size, 0, none⟩ 1 1 [.int .i64 (0 : Int)] rfl rfl (cell_one_new _ _ _) (one_cell rfl) (by have := HL.out.1; unfold maxLen; omega) (by have := HL.out.1; omega) (Nat.le_trans HW.out.2.size (below_al _ _).size) ?_; intro v' w8 hown' hgrow _; refine Still.go ?_)
        unfold Still
        have HNW : Hid (w8.ownsRow w.heap.size 3 1 v' (l ++ [(0 : Int)]).length (ints (l ++ [(0 : Int)])) ∧ Below w.heap.size w w8) := ⟨by rw [show ints (l ++ [(0 : Int)]) = ints l ++ [.int .i64 (0 : Int)] from by simp [ints], List.length_append]; exact hown', (HW.out.2.trans ((below_al _ _).mono HW.out.2.size)).grown hgrow (Nat.le_trans HW.out.2.size (below_al _ _).size) (own_at HW.out.1)⟩
        have HNL : Hid ((l ++ [(0 : Int)]).length = k + 1 ∧ ∀ y ∈ l ++ [(0 : Int)], 0 ≤ y ∧ y < (of : Int)) := ⟨by rw [List.length_append, HL.out.1]; rfl, fun y hy => by
          rcases List.mem_append.1 hy with h | h
          · exact HL.out.2 y h
          · rw [List.mem_singleton.1 h]; omega⟩
        clear hown' hgrow HW HL
        go_wp2_with fail
        go_roundw
        case rel => exact ⟨k + 1, l ++ [(0 : Int)], by go_num, by omega, HNL, HNW⟩
        case measure => simp [intOf]; omega
    · obtain rfl : k = n := by omega
      go_wp2
      go_ret
      exact ⟨l, _, rfl, HL.out.1, HL.out.2, HW.out⟩
set_option maxRecDepth 100000 in
set_option maxHeartbeats 8000000 in
theorem worthOf_any (ls : List LakeM) (hok : ∀ k ∈ ls, LakeOk k) (tr lv : List (List Int)) (pr en : List Int) (al at_ av ap ae : Option Addr) (L H cl ct cv cp ce : Nat) (f0 f1 : Int) (w : World) (hx : RowAt w (.slice al L cl) ls.length 5 (ls.flatMap LakeM.cells)) (hl : ls.length = L) (hL : L ≤ 2) (hH : H ≤ 8) (htr : TabAt w (.slice at_ H ct) tr) (htl : tr.length = H) (htw : ∀ h, h < H → (tr.getD h []).length = L) (htb : ∀ h i, h < H → i < L → 0 ≤ (tr.getD h []).getD i 0 ∧ (tr.getD h []).getD i 0 ≤ 4)
    (hlv : TabAt w (.slice av H cv) lv) (hvl : lv.length = H) (hvw : ∀ h, h < H → (lv.getD h []).length = L) (hpr : RowAt w (.slice ap H cp) H 1 (ints pr)) (hpl : pr.length = H) (hpb : ∀ h, h < H → 0 ≤ pr.getD h 0 ∧ pr.getD h 0 ≤ 1000) (hen : RowAt w (.slice ae L ce) L 1 (ints en)) (hel : en.length = L) (heb : ∀ i, i < L → 0 ≤ en.getD i 0 ∧ en.getD i 0 ≤ 1000)
    (hf : (0 ≤ f0 ∧ f0 ≤ 20) ∧ (0 ≤ f1 ∧ f1 ≤ 20)) (hfi : (∀ h, 0 < L → h + 1 = H → (lv.getD h []).getD 0 0 = f0) ∧ (∀ h, 1 < L → h + 1 = H → (lv.getD h []).getD 1 0 = f1)) (hfs : H = 0 → (0 < L → (lkD ls 0).start = f0) ∧ (1 < L → (lkD ls 1).start = f1)) :
    Calls Try.prog 13 #[.slice al L cl, .slice at_ H ct, .slice av H cv, .slice ap H cp, .slice ae L ce] w fun e w' => e = .returned (.int .i64 (earnT ls L pr tr H + keptK en f0 f1 L)) ∧ Below w.heap.size w w' := by
  have HX := hide' hx
  have HL := hide' hl
  have HOK := hide' hok
  have HTR := hide' htr
  have HTL := hide' htl
  have HTW := hide' htw
  have HTB := hide' htb
  have HLV := hide' hlv
  have HVL := hide' hvl
  have HVW := hide' hvw
  have HPR := hide' hpr
  have HPL := hide' hpl
  have HPB := hide' hpb
  have HEN := hide' hen
  have HEL := hide' hel
  have HEB := hide' heb
  have HFB := hide' hf
  have HFI := hide' hfi
  have HF0 := hide' hfs
  clear hx hl hok htr htl htw htb hlv hvl hvw hpr hpl hpb hen hel heb hf hfi hfs
  go_enter Try.func13, Try.ntmps13
  go_upto_block 0 with fail
  go_cut [11, 12, 13] from 15 to 66 (fun a _ _ wc => ∃ (c : Int) (m : Nat), a = .int .i64 c ∧ Hid (c = earnT ls L pr tr H + (if 0 < H then keptK en f0 f1 L else 0)) ∧ wc = w.drewN m)
  case first =>
    go_wp2_with fail
    go_loopw [11, 12] (fun a i wr => ∃ (h m : Nat) (c : Int), a = .int .i64 c ∧ i = .int .i64 h ∧ h ≤ H ∧ Hid (c = earnT ls L pr tr h + (if h = H ∧ 0 < H then keptK en f0 f1 L else 0)) ∧ Hid (0 ≤ c ∧ c ≤ 8040000 * h) ∧ wr = w.drewN m) (fun _ i _ => H - (intOf i).toNat)
    case atStart => exact ⟨0, 0, 0, rfl, rfl, Nat.zero_le _, by show (0 : Int) = _; rw [if_neg (by omega)]; exact rfl, ⟨by omega, by omega⟩, rfl⟩
    case round =>
      obtain ⟨h, m, c, rfl, rfl, hh, HC0, HCB0, hwr⟩ := hrel
      by_cases hhH : h < H
      · have HC1 : Hid (c = earnT ls L pr tr h) := by have e := HC0.out; rw [if_neg (by omega)] at e; show c = _; omega
        have HCB1 : Hid (0 ≤ c ∧ c ≤ 8040000 * h) := HCB0
        obtain ⟨r0, hr0⟩ : ∃ x, x = (tr.getD h []).getD 0 0 := ⟨_, rfl⟩
        obtain ⟨r1, hr1⟩ : ∃ x, x = (tr.getD h []).getD 1 0 := ⟨_, rfl⟩
        obtain ⟨p, hpp⟩ : ∃ x, x = pr.getD h 0 := ⟨_, rfl⟩
        have HR0 := hide' hr0
        have HR1 := hide' hr1
        have HPP := hide' hpp
        have HEH : Hid (earnT ls L pr tr (h + 1) = earnT ls L pr tr h + earnK ls p r0 r1 L) := by rw [hr0, hr1, hpp]; exact rfl
        clear hr0 hr1 hpp HC0 HCB0
        go_wp2_with fail
        go_loopw [11, 13] (fun a i wx => ∃ (k : Nat) (c : Int) (m : Nat), a = .int .i64 c ∧ i = .int .i64 k ∧ k ≤ L ∧ Hid (c = earnT ls L pr tr h + earnK ls p r0 r1 k + (if h + 1 = H then keptK en f0 f1 k else 0)) ∧ Hid (0 ≤ c ∧ c ≤ 8040000 * h + 4020000 * (k : Nat)) ∧ wx = w.drewN m) (fun _ i _ => L - (intOf i).toNat)
        case atStart => exact ⟨0, c, m, rfl, rfl, Nat.zero_le _, by show c = _; rw [HC1.out]; unfold earnK keptK; simp, ⟨HCB1.out.1, by have := HCB1.out; omega⟩, by first | exact hwr | rfl⟩
        case round =>
          clear HC1 HCB1 hwr
          obtain ⟨k, c, m, rfl, rfl, hk, HC, HCB, hwr⟩ := hrel
          by_cases hlt : k < L
          · have hk2 : k = 0 ∨ k = 1 := by omega
            rcases hk2 with rfl | rfl
            · have HEK : Hid (earnK ls p r0 r1 (0 + 1) = earnK ls p r0 r1 0 + r0 * (lkD ls 0).worth * p) := earn1 ls p r0 r1
              have HKK : Hid (keptK en f0 f1 (0 + 1) = keptK en f0 f1 0 + f0 * en.getD 0 0) := kept1 en f0 f1
              obtain ⟨lb, lo, hle, _, _, _, _, _, c4⟩ := lake_cells HX.out (k := 0) (by rw [HL.out]; exact hlt)
              subst hle
              have hwb := (lkD_ok HOK.out (i := 0) (by rw [HL.out]; exact hlt)).w
              obtain ⟨tb, to_, tc2, tb2, to2, hte, ht1, ht2⟩ := tab_cell2 HTR.out (h := h) (i := 0) (by rw [HTL.out]; exact hhH) (HTW.out h hhH) hlt
              subst hte
              obtain ⟨vb, vo, vc2, vb2, vo2, hve, hv1, hv2⟩ := tab_cell2 HLV.out (h := h) (i := 0) (by rw [HVL.out]; exact hhH) (HVW.out h hhH) hlt
              subst hve
              obtain ⟨pb, po, pc, pe, hpc⟩ := ints_cell2 HPR.out h (by rw [HPL.out]; exact hhH)
              simp only [Value.slice.injEq] at pe
              obtain ⟨rfl, _, rfl⟩ := pe
              obtain ⟨eb, eo, ec, ee, hec⟩ := ints_cell2 HEN.out 0 (by rw [HEL.out]; exact hlt)
              simp only [Value.slice.injEq] at ee
              obtain ⟨rfl, _, rfl⟩ := ee
              have hr0 := HTB.out h 0 hhH hlt
              have hpb := HPB.out h hhH
              have heb := HEB.out 0 hlt
              have hfi : h + 1 = H → (lv.getD h []).getD 0 0 = f0 := HFI.out.1 h hlt
              rw [← HR0.out] at ht2 hr0
              rw [← HPP.out] at hpc hpb
              obtain ⟨wo, hwo⟩ : ∃ x, x = (lkD ls 0).worth := ⟨_, rfl⟩
              obtain ⟨ev, hev⟩ : ∃ x, x = en.getD 0 0 := ⟨_, rfl⟩
              obtain ⟨lx, hlx⟩ : ∃ x, x = (lv.getD h []).getD 0 0 := ⟨_, rfl⟩
              rw [← hwo] at HEK c4 hwb
              rw [← hev] at HKK hec heb
              rw [← hlx] at hv2 hfi
              simp only [Nat.zero_mul, Nat.add_zero] at c4 ht2 hv2 hec
              have m1 := mul_bd (a := r0) (b := wo) (A := 4) (B := 1000) hr0.1 hr0.2 hwb.1 hwb.2
              have m2 := mul_bd (a := r0 * wo) (b := p) (A := 4000) (B := 1000) m1.1 m1.2 hpb.1 hpb.2
              have w1' : IntKind.i64.wrap (r0 * wo) = r0 * wo := wrap_ok (by omega)
              have w2' : IntKind.i64.wrap (r0 * wo * p) = r0 * wo * p := wrap_ok (by omega)
              have w3' : IntKind.i64.wrap (c + r0 * wo * p) = c + r0 * wo * p := wrap_ok (by have := HCB.out; omega)
              have q1 : wr.cell? ⟨tb, to_ + h, none⟩ = some (.slice (some ⟨tb2, to2, none⟩) L tc2) := by rw [hwr]; exact ht1
              have q2 : wr.cell? ⟨tb2, to2, none⟩ = some (.int .i64 r0) := by rw [hwr]; exact ht2
              have q3 : wr.cell? ⟨lb, lo + 4, none⟩ = some (.int .i64 wo) := by rw [hwr]; exact c4
              have q4 : wr.cell? ⟨pb, po + h, none⟩ = some (.int .i64 p) := by rw [hwr]; exact hpc
              have q5 : wr.cell? ⟨eb, eo, none⟩ = some (.int .i64 ev) := by rw [hwr]; exact hec
              have q6 : wr.cell? ⟨vb, vo + h, none⟩ = some (.slice (some ⟨vb2, vo2, none⟩) L vc2) := by rw [hwr]; exact hv1
              have q7 : wr.cell? ⟨vb2, vo2, none⟩ = some (.int .i64 lx) := by rw [hwr]; exact hv2
              have HWR : Hid (∀ q, wr.drewN q = w.drewN (m + q)) := fun q => by rw [hwr]; exact World.drewN_drewN w m q
              clear ht1 ht2 hv1 hv2 hpc hec c4 hwr hwo hev hlx m1
              by_cases hlast : (h : Int) + 1 = H
              · have hfx := hfi (by omega)
                subst hfx
                have hfb := HFB.out.1
                have m3 := mul_bd (a := ev) (b := lx) (A := 1000) (B := 20) heb.1 heb.2 hfb.1 hfb.2
                have w4' : IntKind.i64.wrap (ev * lx) = ev * lx := wrap_ok (by omega)
                have w5' : IntKind.i64.wrap (c + r0 * wo * p + ev * lx) = c + r0 * wo * p + ev * lx := wrap_ok (by have := HCB.out; omega)
                have HNC : Hid (c + r0 * wo * p + ev * lx = earnT ls L pr tr h + earnK ls p r0 r1 (0 + 1) + (if h + 1 = H then keptK en lx f1 (0 + 1) else 0)) := by
                  have e := HC.out
                  rw [if_pos (by omega)] at e ⊢
                  rw [HEK.out, HKK.out, e, Int.mul_comm ev lx]
                  show _ = _
                  omega
                have HNB : Hid (0 ≤ c + r0 * wo * p + ev * lx ∧ c + r0 * wo * p + ev * lx ≤ 8040000 * h + 4020000 * (0 + 1 : Nat)) := by have := HCB.out; constructor <;> omega
                clear m2 m3 hfi
                go_wp2_with fail
                go_quiet (fail)
                go_wp2_with fail
                go_quiet (fail)
                go_wp2_with fail
                go_roundw
                case rel => exact ⟨0 + 1, _, m + _, rfl, by go_num, by omega, HNC, HNB, by first | exact HWR.out _ | (rw [World.drewN_drewN]; exact HWR.out _)⟩
                case measure => simp [intOf]; omega
              · have HNC : Hid (c + r0 * wo * p = earnT ls L pr tr h + earnK ls p r0 r1 (0 + 1) + (if h + 1 = H then keptK en f0 f1 (0 + 1) else 0)) := by
                  have e := HC.out
                  rw [if_neg (by omega)] at e ⊢
                  rw [HEK.out, e]
                  show _ = _
                  omega
                have HNB : Hid (0 ≤ c + r0 * wo * p ∧ c + r0 * wo * p ≤ 8040000 * h + 4020000 * (0 + 1 : Nat)) := by have := HCB.out; constructor <;> omega
                clear m2 hfi
                go_wp2_with fail
                go_quiet (fail)
                go_wp2_with fail
                go_roundw
                case rel => exact ⟨0 + 1, _, m + _, rfl, by go_num, by omega, HNC, HNB, HWR.out _⟩
                case measure => simp [intOf]; omega
            · have HEK : Hid (earnK ls p r0 r1 (1 + 1) = earnK ls p r0 r1 1 + r1 * (lkD ls 1).worth * p) := earn2 ls p r0 r1
              have HKK : Hid (keptK en f0 f1 (1 + 1) = keptK en f0 f1 1 + f1 * en.getD 1 0) := kept2 en f0 f1
              obtain ⟨lb, lo, hle, _, _, _, _, _, c4⟩ := lake_cells HX.out (k := 1) (by rw [HL.out]; exact hlt)
              subst hle
              have hwb := (lkD_ok HOK.out (i := 1) (by rw [HL.out]; exact hlt)).w
              obtain ⟨tb, to_, tc2, tb2, to2, hte, ht1, ht2⟩ := tab_cell2 HTR.out (h := h) (i := 1) (by rw [HTL.out]; exact hhH) (HTW.out h hhH) hlt
              subst hte
              obtain ⟨vb, vo, vc2, vb2, vo2, hve, hv1, hv2⟩ := tab_cell2 HLV.out (h := h) (i := 1) (by rw [HVL.out]; exact hhH) (HVW.out h hhH) hlt
              subst hve
              obtain ⟨pb, po, pc, pe, hpc⟩ := ints_cell2 HPR.out h (by rw [HPL.out]; exact hhH)
              simp only [Value.slice.injEq] at pe
              obtain ⟨rfl, _, rfl⟩ := pe
              obtain ⟨eb, eo, ec, ee, hec⟩ := ints_cell2 HEN.out 1 (by rw [HEL.out]; exact hlt)
              simp only [Value.slice.injEq] at ee
              obtain ⟨rfl, _, rfl⟩ := ee
              have hr1 := HTB.out h 1 hhH hlt
              have hpb := HPB.out h hhH
              have heb := HEB.out 1 hlt
              have hfi : h + 1 = H → (lv.getD h []).getD 1 0 = f1 := HFI.out.2 h hlt
              rw [← HR1.out] at ht2 hr1
              rw [← HPP.out] at hpc hpb
              obtain ⟨wo, hwo⟩ : ∃ x, x = (lkD ls 1).worth := ⟨_, rfl⟩
              obtain ⟨ev, hev⟩ : ∃ x, x = en.getD 1 0 := ⟨_, rfl⟩
              obtain ⟨lx, hlx⟩ : ∃ x, x = (lv.getD h []).getD 1 0 := ⟨_, rfl⟩
              rw [← hwo] at HEK c4 hwb
              rw [← hev] at HKK hec heb
              rw [← hlx] at hv2 hfi
              simp only [Nat.one_mul] at c4
              have m1 := mul_bd (a := r1) (b := wo) (A := 4) (B := 1000) hr1.1 hr1.2 hwb.1 hwb.2
              have m2 := mul_bd (a := r1 * wo) (b := p) (A := 4000) (B := 1000) m1.1 m1.2 hpb.1 hpb.2
              have w1' : IntKind.i64.wrap (r1 * wo) = r1 * wo := wrap_ok (by omega)
              have w2' : IntKind.i64.wrap (r1 * wo * p) = r1 * wo * p := wrap_ok (by omega)
              have w3' : IntKind.i64.wrap (c + r1 * wo * p) = c + r1 * wo * p := wrap_ok (by have := HCB.out; omega)
              have q1 : wr.cell? ⟨tb, to_ + h, none⟩ = some (.slice (some ⟨tb2, to2, none⟩) L tc2) := by rw [hwr]; exact ht1
              have q2 : wr.cell? ⟨tb2, to2 + 1, none⟩ = some (.int .i64 r1) := by rw [hwr]; exact ht2
              have q3 : wr.cell? ⟨lb, lo + 5 + 4, none⟩ = some (.int .i64 wo) := by rw [hwr]; exact c4
              have q4 : wr.cell? ⟨pb, po + h, none⟩ = some (.int .i64 p) := by rw [hwr]; exact hpc
              have q5 : wr.cell? ⟨eb, eo + 1, none⟩ = some (.int .i64 ev) := by rw [hwr]; exact hec
              have q6 : wr.cell? ⟨vb, vo + h, none⟩ = some (.slice (some ⟨vb2, vo2, none⟩) L vc2) := by rw [hwr]; exact hv1
              have q7 : wr.cell? ⟨vb2, vo2 + 1, none⟩ = some (.int .i64 lx) := by rw [hwr]; exact hv2
              have HWR : Hid (∀ q, wr.drewN q = w.drewN (m + q)) := fun q => by rw [hwr]; exact World.drewN_drewN w m q
              clear ht1 ht2 hv1 hv2 hpc hec c4 hwr hwo hev hlx m1
              by_cases hlast : (h : Int) + 1 = H
              · have hfx := hfi (by omega)
                subst hfx
                have hfb := HFB.out.2
                have m3 := mul_bd (a := ev) (b := lx) (A := 1000) (B := 20) heb.1 heb.2 hfb.1 hfb.2
                have w4' : IntKind.i64.wrap (ev * lx) = ev * lx := wrap_ok (by omega)
                have w5' : IntKind.i64.wrap (c + r1 * wo * p + ev * lx) = c + r1 * wo * p + ev * lx := wrap_ok (by have := HCB.out; omega)
                have HNC : Hid (c + r1 * wo * p + ev * lx = earnT ls L pr tr h + earnK ls p r0 r1 (1 + 1) + (if h + 1 = H then keptK en f0 lx (1 + 1) else 0)) := by
                  have e := HC.out
                  rw [if_pos (by omega)] at e ⊢
                  rw [HEK.out, HKK.out, e, Int.mul_comm ev lx]
                  show _ = _
                  omega
                have HNB : Hid (0 ≤ c + r1 * wo * p + ev * lx ∧ c + r1 * wo * p + ev * lx ≤ 8040000 * h + 4020000 * (1 + 1 : Nat)) := by have := HCB.out; constructor <;> omega
                clear m2 m3 hfi
                go_wp2_with fail
                go_quiet (fail)
                go_wp2_with fail
                go_quiet (fail)
                go_wp2_with fail
                go_roundw
                case rel => exact ⟨1 + 1, _, m + _, rfl, by go_num, by omega, HNC, HNB, by first | exact HWR.out _ | (rw [World.drewN_drewN]; exact HWR.out _)⟩
                case measure => simp [intOf]; omega
              · have HNC : Hid (c + r1 * wo * p = earnT ls L pr tr h + earnK ls p r0 r1 (1 + 1) + (if h + 1 = H then keptK en f0 f1 (1 + 1) else 0)) := by
                  have e := HC.out
                  rw [if_neg (by omega)] at e ⊢
                  rw [HEK.out, e]
                  show _ = _
                  omega
                have HNB : Hid (0 ≤ c + r1 * wo * p ∧ c + r1 * wo * p ≤ 8040000 * h + 4020000 * (1 + 1 : Nat)) := by have := HCB.out; constructor <;> omega
                clear m2 hfi
                go_wp2_with fail
                go_quiet (fail)
                go_wp2_with fail
                go_roundw
                case rel => exact ⟨1 + 1, _, m + _, rfl, by go_num, by omega, HNC, HNB, HWR.out _⟩
                case measure => simp [intOf]; omega
          · obtain rfl : k = L := by omega
            have HNC : Hid (c = earnT ls k pr tr (h + 1) + (if h + 1 = H ∧ 0 < H then keptK en f0 f1 k else 0)) := by
              show c = _
              have e := HC.out
              rw [HEH.out, e]
              by_cases hz : h + 1 = H
              · rw [if_pos hz, if_pos ⟨hz, by omega⟩]
              · rw [if_neg hz, if_neg (fun q => hz q.1)]
            have HNB : Hid (0 ≤ c ∧ c ≤ 8040000 * (h + 1 : Nat)) := by have := HCB.out; constructor <;> omega
            have HWR := hide' hwr
            clear HC HCB hwr
            go_wp2_with fail
            go_roundw
            case rel => exact ⟨h + 1, m, c, rfl, by go_num, by omega, HNC, HNB, HWR.out⟩
            case measure => simp [intOf]; omega
      · obtain rfl : h = H := by omega
        have HNC : Hid (c = earnT ls L pr tr h + (if 0 < h then keptK en f0 f1 L else 0)) := by
          show c = _
          have e := HC0.out
          by_cases hz : 0 < h
          · rw [if_pos ⟨rfl, hz⟩] at e; rw [if_pos hz]; exact e
          · rw [if_neg (fun q => hz q.2)] at e; rw [if_neg hz]; exact e
        have HWR := hide' hwr
        clear HC0 HCB0 hwr
        go_wp2_with fail
        go_meet
        case rel => exact ⟨c, m, rfl, HNC, HWR.out⟩
  case rest =>
    obtain ⟨c, m, rfl, HC0, hwc⟩ := hcut
    by_cases hH0 : (H : Int) = 0
    · have HFS := hide' (HF0.out (by omega))
      have HC1 : Hid (c = 0) := by have e := HC0.out; rw [if_neg (by omega), show H = 0 by omega] at e; exact e
      have HET : Hid (earnT ls L pr tr H = 0) := by rw [show H = 0 by omega]; exact rfl
      clear HC0
      go_wp2_with fail
      go_loopw [11, 14] (fun a i wx => ∃ (k : Nat) (c : Int) (m : Nat), a = .int .i64 c ∧ i = .int .i64 k ∧ k ≤ L ∧ Hid (c = keptK en f0 f1 k) ∧ Hid (0 ≤ c ∧ c ≤ 20000 * (k : Nat)) ∧ wx = w.drewN m) (fun _ i _ => L - (intOf i).toNat)
      case atStart => exact ⟨0, c, m, rfl, rfl, Nat.zero_le _, by show c = _; rw [HC1.out]; unfold keptK; simp, ⟨by rw [HC1.out]; omega, by rw [HC1.out]; omega⟩, by first | exact hwc | rfl⟩
      case round =>
        clear HC1 hwc
        obtain ⟨k, c, m, rfl, rfl, hk, HC, HCB, hwr⟩ := hrel
        by_cases hlt : k < L
        · have hk2 : k = 0 ∨ k = 1 := by omega
          rcases hk2 with rfl | rfl
          · have HKK : Hid (keptK en f0 f1 (0 + 1) = keptK en f0 f1 0 + f0 * en.getD 0 0) := kept1 en f0 f1
            obtain ⟨lb, lo, hle, _, _, _, c2, _, _⟩ := lake_cells HX.out (k := 0) (by rw [HL.out]; exact hlt)
            subst hle
            obtain ⟨eb, eo, ec, ee, hec⟩ := ints_cell2 HEN.out 0 (by rw [HEL.out]; exact hlt)
            simp only [Value.slice.injEq] at ee
            obtain ⟨rfl, _, rfl⟩ := ee
            have heb := HEB.out 0 hlt
            have hfs : (lkD ls 0).start = f0 := HFS.out.1 hlt
            have hfb := HFB.out.1
            rw [hfs] at c2
            obtain ⟨ev, hev⟩ : ∃ x, x = en.getD 0 0 := ⟨_, rfl⟩
            rw [← hev] at HKK hec heb
            simp only [Nat.zero_mul, Nat.add_zero] at c2 hec
            have m3 := mul_bd (a := ev) (b := f0) (A := 1000) (B := 20) heb.1 heb.2 hfb.1 hfb.2
            have w4' : IntKind.i64.wrap (ev * f0) = ev * f0 := wrap_ok (by omega)
            have w5' : IntKind.i64.wrap (c + ev * f0) = c + ev * f0 := wrap_ok (by have := HCB.out; omega)
            have HNC : Hid (c + ev * f0 = keptK en f0 f1 (0 + 1)) := by
              have e := HC.out
              rw [HKK.out, e, Int.mul_comm ev f0]
              exact rfl
            have HNB : Hid (0 ≤ c + ev * f0 ∧ c + ev * f0 ≤ 20000 * (0 + 1 : Nat)) := by have := HCB.out; constructor <;> omega
            have q3 : wr.cell? ⟨lb, lo + 2, none⟩ = some (.int .i64 f0) := by rw [hwr]; exact c2
            have q5 : wr.cell? ⟨eb, eo, none⟩ = some (.int .i64 ev) := by rw [hwr]; exact hec
            have HWR : Hid (∀ q, wr.drewN q = w.drewN (m + q)) := fun q => by rw [hwr]; exact World.drewN_drewN w m q
            clear hec c2 hwr hev m3 hfs
            go_wp2_with fail
            go_quiet (fail)
            go_wp2_with fail
            go_roundw
            case rel => exact ⟨0 + 1, _, m + _, rfl, by go_num, by omega, HNC, HNB, HWR.out _⟩
            case measure => simp [intOf]; omega
          · have HKK : Hid (keptK en f0 f1 (1 + 1) = keptK en f0 f1 1 + f1 * en.getD 1 0) := kept2 en f0 f1
            obtain ⟨lb, lo, hle, _, _, _, c2, _, _⟩ := lake_cells HX.out (k := 1) (by rw [HL.out]; exact hlt)
            subst hle
            obtain ⟨eb, eo, ec, ee, hec⟩ := ints_cell2 HEN.out 1 (by rw [HEL.out]; exact hlt)
            simp only [Value.slice.injEq] at ee
            obtain ⟨rfl, _, rfl⟩ := ee
            have heb := HEB.out 1 hlt
            have hfs : (lkD ls 1).start = f1 := HFS.out.2 hlt
            have hfb := HFB.out.2
            rw [hfs] at c2
            obtain ⟨ev, hev⟩ : ∃ x, x = en.getD 1 0 := ⟨_, rfl⟩
            rw [← hev] at HKK hec heb
            simp only [Nat.one_mul] at c2
            have m3 := mul_bd (a := ev) (b := f1) (A := 1000) (B := 20) heb.1 heb.2 hfb.1 hfb.2
            have w4' : IntKind.i64.wrap (ev * f1) = ev * f1 := wrap_ok (by omega)
            have w5' : IntKind.i64.wrap (c + ev * f1) = c + ev * f1 := wrap_ok (by have := HCB.out; omega)
            have HNC : Hid (c + ev * f1 = keptK en f0 f1 (1 + 1)) := by
              have e := HC.out
              rw [HKK.out, e, Int.mul_comm ev f1]
              exact rfl
            have HNB : Hid (0 ≤ c + ev * f1 ∧ c + ev * f1 ≤ 20000 * (1 + 1 : Nat)) := by have := HCB.out; constructor <;> omega
            have q3 : wr.cell? ⟨lb, lo + 5 + 2, none⟩ = some (.int .i64 f1) := by rw [hwr]; exact c2
            have q5 : wr.cell? ⟨eb, eo + 1, none⟩ = some (.int .i64 ev) := by rw [hwr]; exact hec
            have HWR : Hid (∀ q, wr.drewN q = w.drewN (m + q)) := fun q => by rw [hwr]; exact World.drewN_drewN w m q
            clear hec c2 hwr hev m3 hfs
            go_wp2_with fail
            go_quiet (fail)
            go_wp2_with fail
            go_roundw
            case rel => exact ⟨1 + 1, _, m + _, rfl, by go_num, by omega, HNC, HNB, HWR.out _⟩
            case measure => simp [intOf]; omega
        · obtain rfl : k = L := by omega
          have HFB2 : Hid (Below w.heap.size w wr) := by rw [hwr]; exact below_drewN (Below.refl _ w) m
          have HR : Hid (c = earnT ls k pr tr H + keptK en f0 f1 k) := by show c = _; rw [HET.out, HC.out]; omega
          clear hwr
          go_wp2
          go_ret
          exact ⟨ret_int HR.out, HFB2.out⟩
    · have HR : Hid (c = earnT ls L pr tr H + keptK en f0 f1 L) := by have e := HC0.out; rw [if_pos (by omega)] at e; exact e
      have HFB2 : Hid (Below w.heap.size w wc) := by rw [hwc]; exact below_drewN (Below.refl _ w) m
      clear hwc HC0
      go_wp2
      go_ret
      exact ⟨ret_int HR.out, HFB2.out⟩
end Go.Proofs.Ytmbgjmkndhjilak
