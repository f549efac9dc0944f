/- SwingCut. -/
import Derived.Test.YtligmokepafnbajK1
import Derived.Test.YtligmokepafnbajJ4
namespace Go.Proofs.Ytligmokepafnbaj
open Go.RowKit Go.Shelf

theorem drewN_none (W : World) : W.drewN 0 = W := rfl
attribute [local go_sem] run_fadd run_fsub run_fmul run_fquo run_store_float drewN_none

theorem quo_pure {n : Int} (h : -8000 ≤ n ∧ n < 8000) : ∃ q, fdr .quo (floatOfInt .f64 n) 4620693217682128896 = 0 ∧ ∀ w, fres .quo w (floatOfInt .f64 n) 4620693217682128896 = q := by
  obtain ⟨q, hq, _⟩ := eighth_num n h
  have h2 : floatBits .quo .f64 (floatOfInt .f64 n) 4620693217682128896 = some q := hq
  refine ⟨q, ?_, fun w => ?_⟩
  · unfold fdr; rw [h2]; rfl
  · unfold fres; rw [h2]

def GR (W : World) (damp mass dt : Nat) (S : List StM) (f : Option Nat) (xs : List (Nat × Nat)) (j L r : Nat) (gv tv : Value) : Prop :=
  nm r = (runS (nm damp) (nm mass) (nm dt) S f xs j).2 ∧ W.ownsRow 0 4 1 gv L (((runS (nm damp) (nm mass) (nm dt) S f xs j).1.map StM.gone).map Value.bool) ∧ ∃ tl : List Nat, W.ownsRow 0 22 1 tv j (fls tl) ∧ tl.map nm = toldS (nm damp) (nm mass) (nm dt) S f xs j
theorem GR.keep {W W' : World} {damp mass dt : Nat} {S : List StM} {f : Option Nat} {xs : List (Nat × Nat)} {j L r : Nat} {gv tv : Value} (h : GR W damp mass dt S f xs j L r gv tv) (hk : KeepE 25 W W') : GR W' damp mass dt S f xs j L r gv tv := by
  obtain ⟨h1, h2, tl, h3, h4⟩ := h
  exact ⟨h1, own_keep h2 hk (by decide), tl, own_keep h3 hk (by decide), h4⟩
theorem Run_good (f damp mass dt : Nat) (md dr : List Nat) (l : List (Nat × Nat)) (g : List Bool) (n L : Nat) (vm vd vl vg : Value) (w : World) (hm : RowAt w vm n 1 (fls md)) (hd : RowAt w vd n 1 (fls dr)) (hl : RowAt w vl L 2 (l.flatMap sgc)) (hg : RowAt w vg L 1 (g.map Value.bool)) (e1 : md.length = n) (e2 : dr.length = n) (e3 : l.length = L) (e4 : g.length = L) (hn : n ≤ 50) (hL : L ≤ 6) :
    Calls Try.prog 8 #[.agg #[.float .f64 f, vg], .float .f64 damp, .float .f64 mass, .float .f64 dt, vm, vd, vl] w fun e w' => ∃ (r : Nat) (ga : Option Addr) (gc : Nat) (ta : Option Addr) (tc : Nat), e = .returned (.tuple #[.agg #[.float .f64 r, .slice ga L gc], .slice ta n tc, .int .i64 0]) ∧ GR w' damp mass dt (atWorkS l g) (nm f) (md.zip dr) n L r (.slice ga L gc) (.slice ta n tc) ∧ Below w.heap.size w w' := by
  subst e1
  subst e3
  refine (Run_any f damp mass dt md dr l g vm vd vl vg w hm (by rw [e2]; exact hd) hl (by rw [e4]; exact hg)).mono ?_
  rintro e w' ⟨h | ⟨_, r, gv, tv, tl, rfl, h1, h2, h3, h4⟩, hb⟩
  · exact absurd ⟨e2.symm, hn, hL, e4⟩ h.1
  · obtain ⟨ga, gc, rfl⟩ := own_slice h2
    obtain ⟨ta, tc, rfl⟩ := own_slice h3
    exact ⟨r, ga, gc, ta, tc, rfl, ⟨h1, own_mono h2 (Nat.zero_le _), tl, own_mono h3 (Nat.zero_le _), h4⟩, hb⟩
theorem wpList_unguard {P : Program} {ops : Array Oper} {rest : List Oper} {o : Oper} {a : Act} {w : World} {Q : Exit → Act → World → Prop} (hw : Region.wanted o (yielded ops a.tmps) = true) (h : wpList P ops Q ({ o with guard := none } :: rest) a w) : wpList P ops Q (o :: rest) a w := by
  unfold wpList at h ⊢
  rw [if_pos (by simp [Region.wanted])] at h
  rw [if_pos hw]
  exact h
theorem zip_take (a b : List Nat) (k : Nat) : (a.take k).zip (b.take k) = (a.zip b).take k := by rw [List.zip_eq_zipWith, List.zip_eq_zipWith, List.take_zipWith]
theorem zip_drop (a b : List Nat) (k : Nat) : (a.drop k).zip (b.drop k) = (a.zip b).drop k := by rw [List.zip_eq_zipWith, List.zip_eq_zipWith, List.drop_zipWith]
theorem cut_all (a b c f : Option Nat) (S : List StM) (l : List (Nat × Nat)) (hS : S.map StM.pair = l) (md dr : List Nat) (n k : Nat) (hk : k ≤ n) (g : List Bool) (f2 : Option Nat)
    (hg : g = (runS a b c S f ((md.take k).zip (dr.take k)) k).1.map StM.gone) (hf : f2 = (runS a b c S f ((md.take k).zip (dr.take k)) k).2) :
    runS a b c (atWorkS l g) f2 ((md.drop k).zip (dr.drop k)) (n - k) = runS a b c S f (md.zip dr) n ∧
    toldS a b c S f (md.zip dr) n = toldS a b c S f ((md.take k).zip (dr.take k)) k ++ toldS a b c (atWorkS l g) f2 ((md.drop k).zip (dr.drop k)) (n - k) ∧
    ∀ i : Nat, g.getD i false = true → ((runS a b c S f (md.zip dr) n).1.map StM.gone).getD i false = true := by
  have h1 : runS a b c S f ((md.take k).zip (dr.take k)) k = runS a b c S f (md.zip dr) k := by rw [zip_take]; exact run_head a b c S f _ k k (Nat.le_refl _)
  have h2 : toldS a b c S f ((md.take k).zip (dr.take k)) k = toldS a b c S f (md.zip dr) k := by rw [zip_take]; exact told_head a b c S f _ k
  rw [h1] at hg hf
  have h3 : (runS a b c S f (md.zip dr) k).1.map StM.pair = l := (fold_pair _ _ _ _ _ _).trans hS
  have h4 : atWorkS l g = (runS a b c S f (md.zip dr) k).1 := by rw [hg, ← h3]; exact atWork_self _
  have e : n = k + (n - k) := by omega
  have h5 : runS a b c (atWorkS l g) f2 ((md.drop k).zip (dr.drop k)) (n - k) = runS a b c S f (md.zip dr) n := by
    rw [h4, hf, zip_drop, ← run_cut, ← e]
  refine ⟨h5, ?_, fun i hi => ?_⟩
  · rw [h2, h4, hf, zip_drop, ← told_cut, ← e]
  · rw [← h5, h4]
    rw [hg] at hi
    exact kept_run a b c _ _ _ _ i hi
theorem row_one (w : World) (x : Value) (e : TypeId) : RowAt (w.alloc (.cells #[x] e)) (.slice (some ⟨w.heap.size, 0, none⟩) 1 1) 1 1 [x] := by
  refine ⟨rfl, _, _, rfl, fun j u hj => ⟨_, _, rfl, ?_⟩⟩
  have h := cell_news w [x] e j u hj
  rw [add_off] at h
  exact h
theorem row_one' (w : World) (x : Value) (e : TypeId) (N : Nat) (h : w.heap.size = N) : RowAt (w.alloc (.cells #[x] e)) (.slice (some ⟨N, 0, none⟩) 1 1) 1 1 [x] := by
  subst h
  exact row_one w x e
theorem blk_up {W W' : World} {C : Nat} {o : Obj} (h : W.heap[C]? = some o) (hb : Below W.heap.size W W') : W'.heap[C]? = some o := (hb.block C (lt_heap h)).trans h

set_option maxRecDepth 100000 in
set_option maxHeartbeats 4000000 in
theorem SwingCut_any (ra rb : List Int) (ps : List (Int × Int)) (at' f : Int) (va vb u : Value) (w : World) (ha : RowAt w va ra.length 1 (ints ra)) (hb : RowAt w vb rb.length 1 (ints rb)) (hp : RowAt w u ps.length 2 (ps.flatMap prc)) (hI : ∀ p ∈ ps, I6 p.1 ∧ I6 p.2) (hat : I6 at') (hna : ra.length ≤ 2000000) (hnb : rb.length ≤ 2000000) :
    Calls Try.prog 5 #[va, vb, u, .int .i64 at', .int .i64 f] w fun e w' => e = .returned (.bool true) ∧ Below w.heap.size w w' := by
  obtain ⟨i46, hi46, h460, h461, h462⟩ := info_parts Try.info46
  obtain ⟨i22, hi22, h220, h221, h222⟩ := info_parts Try.info22
  obtain ⟨i4, hi4, h40, h41, h42⟩ := info_parts Try.info4
  have HP := hide' hp
  have HII := hide' hI
  have HAT := hide' hat
  have HWA := hide' (wave_any ra va w ha hna)
  have HWB : Hid (∀ w', Below w.heap.size w w' → Calls Try.prog 16 #[vb] w' fun e w'' => ∃ (v' : Value) (m : List Nat), e = .returned v' ∧ w''.ownsRow w'.heap.size 22 1 v' m.length (fls m) ∧ m.length ≤ 50 ∧ (∀ x ∈ m, x < 2 ^ 64 ∧ rng x < 9218868437227405312) ∧ Below w'.heap.size w' w'') := fun w' hbw => wave_any rb vb w' (hb.below hbw (Nat.le_refl _)) hnb
  obtain ⟨aa, ca, rfl⟩ := rowAt_slice ha
  obtain ⟨ab, cb, rfl⟩ := rowAt_slice hb
  obtain ⟨ap, cp, rfl⟩ := rowAt_slice hp
  clear ha hb hp hI hat
  go_enter Try.func5, Try.ntmps5
  go_wp2_with fail
  refine HWA.out.mono ?_
  rintro e w1 ⟨v1, m, rfl, ho1, hm50, _, hb1⟩
  obtain ⟨am, cm, ex1⟩ := own_slice ho1
  subst ex1
  have HO1 := hide' ho1
  have HB1 := hide' hb1
  clear ho1 hb1 HWA
  go_wp2_with fail
  refine (HWB.out w1 HB1.out).mono ?_
  rintro e w2 ⟨v2, d, rfl, ho2, hd50, _, hb2⟩
  obtain ⟨ad, cd, ex2⟩ := own_slice ho2
  subst ex2
  have HO2 := hide' (own_mono ho2 (Nat.zero_le _))
  have HO3 := hide' (own_mono (own_below HO1.out hb2 (Nat.le_refl _)) (Nat.zero_le _))
  have HB2 : Hid (Below w.heap.size w w2) := HB1.out.trans (hb2.mono HB1.out.size)
  have hcm := own_cap HO3.out
  have hcd := own_cap HO2.out
  clear ho2 hb2 HWB HO1 HB1
  have hsm : ∀ (W : World) (n c : Nat) (a : Option Addr) (k : Nat), k ≤ c → (Instr.slice 26 (.slice a n c) none (some (.int .i64 (k : Int))) none).run Try.prog W = .ok (.slice a k c) W := fun W n c a k h => slice_head W a n c k h
  go_upto_if 35 with fail
  go_cut [11] from 35 to 39 (fun p wc => ∃ (n : Nat), p = .slice am n cm ∧ n ≤ m.length ∧ n ≤ d.length ∧ Hid (Below w2.heap.size w2 wc))
  case first =>
    by_cases hMN : (d.length : Int) < (m.length : Int)
    · have hs1 := hsm w2 m.length cm am d.length (by omega)
      go_wp2_with fail
      go_meet
      case rel => exact ⟨d.length, rfl, by omega, by omega, Below.refl _ w2⟩
    · go_wp2_with fail
      go_meet
      case rel => exact ⟨m.length, rfl, by omega, by omega, Below.refl _ w2⟩
  case rest =>
    obtain ⟨n, rfl, hn1, hn2, HBC⟩ := hcut
    have hs2 := hsm wc d.length cd ad n (by omega)
    have HRM : Hid (RowAt wc (.slice am n cm) n 1 (fls (m.take n))) := row_head ((rowAt_of_own HO3.out).below HBC.out (Nat.le_refl _)) n hn1
    have HRD : Hid (RowAt wc (.slice ad n cd) n 1 (fls (d.take n))) := row_head ((rowAt_of_own HO2.out).below HBC.out (Nat.le_refl _)) n hn2
    have HBW : Hid (Below w.heap.size w wc) := HB2.out.trans (HBC.out.mono HB2.out.size)
    have HLM : Hid ((m.take n).length = n ∧ (d.take n).length = n) := ⟨by rw [List.length_take]; omega, by rw [List.length_take]; omega⟩
    have HC : Hid (n ≤ 50 ∧ n ≤ cm ∧ n ≤ cd) := ⟨by omega, by omega, by omega⟩
    obtain ⟨md, hmd⟩ : ∃ x, x = m.take n := ⟨_, rfl⟩
    obtain ⟨dr, hdr⟩ : ∃ x, x = d.take n := ⟨_, rfl⟩
    rw [← hmd] at HRM HLM
    rw [← hdr] at HRD HLM
    clear hmd hdr HBC hcm hcd HO2 HO3
    go_upto_block 0 with fail
    clear hs2 hn1 hn2 hm50 hd50
    go_cut [13] from 44 to 74 (fun p wl => ∃ (l : List (Nat × Nat)) (oa : Option Addr) (oc : Nat), p = .slice oa l.length oc ∧ l.length ≤ 6 ∧ Hid (wl.ownsRow 0 46 2 (.slice oa l.length oc) l.length (l.flatMap sgc) ∧ Below wc.heap.size wc wl))
    case first =>
      go_wp2_with fail
      go_loopw [13, 14] (fun o i wr => ∃ (k : Nat) (l : List (Nat × Nat)), i = .int .i64 k ∧ k ≤ ps.length ∧ k ≤ 6 ∧ Hid (l.length = k ∧ wr.ownsRow wc.heap.size 46 2 o l.length (l.flatMap sgc)) ∧ Hid (Below wc.heap.size wc wr)) (fun _ i _ => ps.length - (intOf i).toNat)
      case atStart => exact ⟨0, [], rfl, Nat.zero_le _, Nat.zero_le _, ⟨rfl, World.ownsRow_nil _ _ _ _⟩, Below.refl _ wc⟩
      case round =>
        obtain ⟨k, l, rfl, hk, hk6, HL, HBE⟩ := hrel
        obtain ⟨oa, oc, hov⟩ := own_slice HL.out.2
        subst hov
        by_cases hlt : k < ps.length ∧ k < 6
        · obtain ⟨hkr, hk2⟩ := hlt
          have HBX : Hid (Below w.heap.size w wr) := HBW.out.trans (HBE.out.mono HBW.out.size)
          obtain ⟨bt, ot, ct', ex, _, hct⟩ := row_elem prc_len HP.out k hkr (by decide)
          cases ex
          have d0 : wr.drew.cell? ⟨bt, ot + k * 2, none⟩ = some (.int .i64 ps[k].1) := up_cell HBX.out.drew (hct 0 _ rfl)
          have d1 : wr.drew.cell? ⟨bt, ot + k * 2 + 1, none⟩ = some (.int .i64 ps[k].2) := up_cell HBX.out.drew (hct 1 _ rfl)
          have HC0 := hide' (hct 0 _ rfl)
          have HC1 := hide' (hct 1 _ rfl)
          obtain ⟨p, hp4, hpc⟩ := picked_is ps[k].1 400 (HII.out _ (List.getElem_mem hkr)).1 (by decide) (by decide)
          obtain ⟨p2, hp3, hpc2⟩ := picked_is ps[k].2 3 (HII.out _ (List.getElem_mem hkr)).2 (by decide) (by decide)
          have HPC := hide' hpc
          have HPC2 := hide' hpc2
          obtain ⟨q, q1, q2⟩ := quo_pure (n := -(p : Int)) (by omega)
          obtain ⟨r, r1, r2⟩ := quo_pure (n := (p2 : Int)) (by omega)
          have q0 : IntKind.i64.wrap (-(p : Int)) = -(p : Int) := Go.IntWalk.i64_in _ (by omega)
          have HLK := hide' HL.out.1
          obtain ⟨x, hx⟩ : ∃ x, x = ps[k].1 := ⟨_, rfl⟩
          obtain ⟨y, hy⟩ : ∃ y, y = ps[k].2 := ⟨_, rfl⟩
          rw [← hx] at d0 HPC
          rw [← hy] at d1 HPC2
          have HC0 : Hid (w.cell? ⟨bt, ot + k * 2, none⟩ = some (.int .i64 x)) := by rw [hx]; exact HC0.out
          have HC1 : Hid (w.cell? ⟨bt, ot + k * 2 + 1, none⟩ = some (.int .i64 y)) := by rw [hy]; exact HC1.out
          clear hct hx hy hpc hpc2 HBX
          go_wp2_with fail
          refine wp_region_tail (fun W => W.cell? ⟨bt, ot + k * 2, none⟩ = some (.int .i64 x) ∧ W.cell? ⟨bt, ot + k * 2 + 1, none⟩ = some (.int .i64 y)) 21 (by kernel_rfl) ?_
          refine wpAnyD_takeAt 0 (some 54) (v := ?_) rfl (by kernel_rfl) (by kernel_rfl) (by kernel_rfl) (by kernel_rfl) (by kernel_rfl) (fun _ _ _ h => h) (by exact ⟨d0, d1⟩) (fun o hop => ?_) ?_
          rotate_left
          · injection hop with hop
            subst hop
            refine ⟨rfl, fun W hW => ?_⟩
            obtain ⟨s0, s1⟩ := hW
            go_simp
            first
            | rfl
            | (constructor <;> rfl)
            | rw [if_neg (by omega)]
          try simp only [Act.put, List.setIfInBounds_toArray, List.set_cons_zero, List.set_cons_succ]
          refine wpAnyD_takeAt 1 (some 55) (v := ?_) rfl (by kernel_rfl) (by kernel_rfl) (by kernel_rfl) (by kernel_rfl) (by kernel_rfl) (fun _ _ _ h => h) (by exact ⟨d0, d1⟩) (fun o hop => ?_) ?_
          rotate_left
          · injection hop with hop
            subst hop
            refine ⟨rfl, fun W hW => ?_⟩
            obtain ⟨s0, s1⟩ := hW
            go_simp
            first
            | rfl
            | (constructor <;> rfl)
            | rw [if_neg (by omega)]
          try simp only [Act.put, List.setIfInBounds_toArray, List.set_cons_zero, List.set_cons_succ]
          refine wpAnyD_takeAt 2 (some 56) (v := ?_) rfl (by kernel_rfl) (by kernel_rfl) (by kernel_rfl) (by kernel_rfl) (by kernel_rfl) (fun _ _ _ h => h) (by exact ⟨d0, d1⟩) (fun o hop => ?_) ?_
          rotate_left
          · injection hop with hop
            subst hop
            refine ⟨rfl, fun W hW => ?_⟩
            obtain ⟨s0, s1⟩ := hW
            go_simp
            first
            | rfl
            | (constructor <;> rfl)
            | rw [if_neg (by omega)]
          try simp only [Act.put, List.setIfInBounds_toArray, List.set_cons_zero, List.set_cons_succ]
          refine wpAnyD_takeAt 3 (some 57) (v := ?_) rfl (by kernel_rfl) (by kernel_rfl) (by kernel_rfl) (by kernel_rfl) (by kernel_rfl) (fun _ _ _ h => h) (by exact ⟨d0, d1⟩) (fun o hop => ?_) ?_
          rotate_left
          · injection hop with hop
            subst hop
            refine ⟨rfl, fun W hW => ?_⟩
            obtain ⟨s0, s1⟩ := hW
            go_simp
            first
            | rfl
            | (constructor <;> rfl)
            | rw [if_neg (by omega)]
          try simp only [Act.put, List.setIfInBounds_toArray, List.set_cons_zero, List.set_cons_succ]
          refine wpAnyD_takeAt 4 (some 58) (v := ?_) rfl (by kernel_rfl) (by kernel_rfl) (by kernel_rfl) (by kernel_rfl) (by kernel_rfl) (fun _ _ _ h => h) (by exact ⟨d0, d1⟩) (fun o hop => ?_) ?_
          rotate_left
          · injection hop with hop
            subst hop
            refine ⟨rfl, fun W hW => ?_⟩
            obtain ⟨s0, s1⟩ := hW
            go_simp
            first
            | rfl
            | (constructor <;> rfl)
            | rw [if_neg (by omega)]
          try simp only [Act.put, List.setIfInBounds_toArray, List.set_cons_zero, List.set_cons_succ]
          refine wpAnyD_takeAt 5 (some 59) (v := ?_) rfl (by kernel_rfl) (by kernel_rfl) (by kernel_rfl) (by kernel_rfl) (by kernel_rfl) (fun _ _ _ h => h) (by exact ⟨d0, d1⟩) (fun o hop => ?_) ?_
          rotate_left
          · injection hop with hop
            subst hop
            refine ⟨rfl, fun W hW => ?_⟩
            obtain ⟨s0, s1⟩ := hW
            go_simp
            first
            | rfl
            | (constructor <;> rfl)
            | rw [if_neg (by omega)]
          try simp only [Act.put, List.setIfInBounds_toArray, List.set_cons_zero, List.set_cons_succ]
          refine wpAnyD_takeAt 10 (some 64) (v := ?_) rfl (by kernel_rfl) (by kernel_rfl) (by kernel_rfl) (by kernel_rfl) (by kernel_rfl) (fun _ _ _ h => h) (by exact ⟨d0, d1⟩) (fun o hop => ?_) ?_
          rotate_left
          · injection hop with hop
            subst hop
            refine ⟨rfl, fun W hW => ?_⟩
            obtain ⟨s0, s1⟩ := hW
            go_simp
            first
            | rfl
            | (constructor <;> rfl)
            | rw [if_neg (by omega)]
          try simp only [Act.put, List.setIfInBounds_toArray, List.set_cons_zero, List.set_cons_succ]
          refine wpAnyD_takeAt 11 (some 65) (v := ?_) rfl (by kernel_rfl) (by kernel_rfl) (by kernel_rfl) (by kernel_rfl) (by kernel_rfl) (fun _ _ _ h => h) (by exact ⟨d0, d1⟩) (fun o hop => ?_) ?_
          rotate_left
          · injection hop with hop
            subst hop
            refine ⟨rfl, fun W hW => ?_⟩
            obtain ⟨s0, s1⟩ := hW
            go_simp
            first
            | rfl
            | (constructor <;> rfl)
            | rw [if_neg (by omega)]
          try simp only [Act.put, List.setIfInBounds_toArray, List.set_cons_zero, List.set_cons_succ]
          refine wpAnyD_takeAt 12 (some 66) (v := ?_) rfl (by kernel_rfl) (by kernel_rfl) (by kernel_rfl) (by kernel_rfl) (by kernel_rfl) (fun _ _ _ h => h) (by exact ⟨d0, d1⟩) (fun o hop => ?_) ?_
          rotate_left
          · injection hop with hop
            subst hop
            refine ⟨rfl, fun W hW => ?_⟩
            obtain ⟨s0, s1⟩ := hW
            go_simp
            first
            | rfl
            | (constructor <;> rfl)
            | rw [if_neg (by omega)]
          try simp only [Act.put, List.setIfInBounds_toArray, List.set_cons_zero, List.set_cons_succ]
          refine wpAnyD_takeAt 13 (some 67) (v := ?_) rfl (by kernel_rfl) (by kernel_rfl) (by kernel_rfl) (by kernel_rfl) (by kernel_rfl) (fun _ _ _ h => h) (by exact ⟨d0, d1⟩) (fun o hop => ?_) ?_
          rotate_left
          · injection hop with hop
            subst hop
            refine ⟨rfl, fun W hW => ?_⟩
            obtain ⟨s0, s1⟩ := hW
            go_simp
            first
            | rfl
            | (constructor <;> rfl)
            | rw [if_neg (by omega)]
          try simp only [Act.put, List.setIfInBounds_toArray, List.set_cons_zero, List.set_cons_succ]
          refine wpAnyD_takeAt 14 (some 68) (v := ?_) rfl (by kernel_rfl) (by kernel_rfl) (by kernel_rfl) (by kernel_rfl) (by kernel_rfl) (fun _ _ _ h => h) (by exact ⟨d0, d1⟩) (fun o hop => ?_) ?_
          rotate_left
          · injection hop with hop
            subst hop
            refine ⟨rfl, fun W hW => ?_⟩
            obtain ⟨s0, s1⟩ := hW
            go_simp
            first
            | rfl
            | (constructor <;> rfl)
            | rw [if_neg (by omega)]
          try simp only [Act.put, List.setIfInBounds_toArray, List.set_cons_zero, List.set_cons_succ]
          refine wpAnyT_one (i := 6) (by kernel_rfl) rfl rfl (fun K' hK => ?_)
          go_simp
          go_at_call 17
          refine (HPC.out _).mono ?_
          rintro e w' ⟨rfl, rfl⟩
          refine hK.out _ _ (fun _ => by exact ⟨d0, d1⟩) ?_
          clear hK K'
          refine wpAnyD_takeAt 7 (some 61) (v := ?_) rfl (by kernel_rfl) (by kernel_rfl) (by kernel_rfl) (by kernel_rfl) (by kernel_rfl) (fun _ _ _ h => h) (by exact ⟨d0, d1⟩) (fun o hop => ?_) ?_
          rotate_left
          · injection hop with hop
            subst hop
            refine ⟨rfl, fun W hW => ?_⟩
            obtain ⟨s0, s1⟩ := hW
            go_simp
            first
            | rfl
            | (constructor <;> rfl)
            | rw [if_neg (by omega)]
          try simp only [Act.put, List.setIfInBounds_toArray, List.set_cons_zero, List.set_cons_succ]
          refine wpAnyD_takeAt 8 (some 62) (v := ?_) rfl (by kernel_rfl) (by kernel_rfl) (by kernel_rfl) (by kernel_rfl) (by kernel_rfl) (fun _ _ _ h => h) (by exact ⟨d0, d1⟩) (fun o hop => ?_) ?_
          rotate_left
          · injection hop with hop
            subst hop
            refine ⟨rfl, fun W hW => ?_⟩
            obtain ⟨s0, s1⟩ := hW
            go_simp
            first
            | rfl
            | (constructor <;> rfl)
            | rw [if_neg (by omega)]
          try simp only [Act.put, List.setIfInBounds_toArray, List.set_cons_zero, List.set_cons_succ]
          refine wpAnyD_takeAt 9 (some 63) (v := ?_) rfl (by kernel_rfl) (by kernel_rfl) (by kernel_rfl) (by kernel_rfl) (by kernel_rfl) (fun _ _ _ h => h) (by exact ⟨d0, d1⟩) (fun o hop => ?_) ?_
          rotate_left
          · injection hop with hop
            subst hop
            refine ⟨rfl, fun W hW => ?_⟩
            obtain ⟨s0, s1⟩ := hW
            go_simp
            first
            | rfl
            | (constructor <;> rfl)
            | rw [if_neg (by omega)]
          try simp only [Act.put, List.setIfInBounds_toArray, List.set_cons_zero, List.set_cons_succ]
          refine wpAnyT_one (i := 15) (by kernel_rfl) rfl rfl (fun K' hK => ?_)
          go_simp
          go_at_call 17
          refine (HPC2.out _).mono ?_
          rintro e w'' ⟨rfl, rfl⟩
          refine hK.out _ _ (fun _ => by exact ⟨d0, d1⟩) ?_
          clear hK K'
          refine wpAnyD_takeAt 16 (some 70) (v := ?_) rfl (by kernel_rfl) (by kernel_rfl) (by kernel_rfl) (by kernel_rfl) (by kernel_rfl) (fun _ _ _ h => h) (by exact ⟨d0, d1⟩) (fun o hop => ?_) ?_
          rotate_left
          · injection hop with hop
            subst hop
            refine ⟨rfl, fun W hW => ?_⟩
            obtain ⟨s0, s1⟩ := hW
            go_simp
            first
            | rfl
            | (constructor <;> rfl)
            | rw [if_neg (by omega)]
          try simp only [Act.put, List.setIfInBounds_toArray, List.set_cons_zero, List.set_cons_succ]
          refine wpAnyD_takeAt 17 (some 71) (v := ?_) rfl (by kernel_rfl) (by kernel_rfl) (by kernel_rfl) (by kernel_rfl) (by kernel_rfl) (fun _ _ _ h => h) (by exact ⟨d0, d1⟩) (fun o hop => ?_) ?_
          rotate_left
          · injection hop with hop
            subst hop
            refine ⟨rfl, fun W hW => ?_⟩
            obtain ⟨s0, s1⟩ := hW
            go_simp
            first
            | rfl
            | (constructor <;> rfl)
            | rw [if_neg (by omega)]
          try simp only [Act.put, List.setIfInBounds_toArray, List.set_cons_zero, List.set_cons_succ]
          refine wpAnyD_takeAt 18 (some 72) (v := ?_) rfl (by kernel_rfl) (by kernel_rfl) (by kernel_rfl) (by kernel_rfl) (by kernel_rfl) (fun _ _ _ h => h) (by exact ⟨d0, d1⟩) (fun o hop => ?_) ?_
          rotate_left
          · injection hop with hop
            subst hop
            refine ⟨rfl, fun W hW => ?_⟩
            obtain ⟨s0, s1⟩ := hW
            go_simp
            first
            | rfl
            | (constructor <;> rfl)
            | rw [if_neg (by omega)]
          try simp only [Act.put, List.setIfInBounds_toArray, List.set_cons_zero, List.set_cons_succ]
          refine wpAnyT_one (i := 19) (by kernel_rfl) rfl rfl (fun K' hK => ?_)
          go_simp
          refine hK.out _ _ (fun _ => by exact ⟨later d0 (.cells #[.float .f64 q, .float .f64 r] 46), later d1 (.cells #[.float .f64 q, .float .f64 r] 46)⟩) ?_
          clear hK K'
          refine wpAnyT_letter (fun W => Below wr.heap.size wr W ∧ ∀ j u, (sgc (q, r))[j]? = some u → W.cell? ((⟨wr.heap.size, 0, none⟩ : Addr).add j) = some u) ⟨(below_al wr _).drew, cell_news wr (sgc (q, r)) 46⟩ ?_
          rintro wl ⟨hbl, hnews⟩
          refine wpAnyT_one (i := 20) (by kernel_rfl) rfl rfl (fun K' hK => ?_)
          refine step_append_own rfl _ _ 27 rfl wc.heap.size 46 i46 _ 2 16 Try.underlying27 hi46 h460 h461 h462 rfl (by decide) _ _ _ rfl (own_below HL.out.2 hbl (Nat.le_refl _)) ⟨wr.heap.size, 0, none⟩ 1 1 (sgc (q, r)) rfl rfl hnews (sg_one _) (by have := HLK.out; unfold maxLen; omega) (by have := HLK.out; omega) (Nat.le_trans HBE.out.size hbl.size) ?_
          intro v' w8 hown' hgrow
          have HB8 : Hid (Below wc.heap.size wc w8) := (HBE.out.trans (hbl.mono HBE.out.size)).grown hgrow (Nat.le_trans HBE.out.size hbl.size) (own_at HL.out.2)
          have hbw8 := HBW.out.trans (HB8.out.mono HBW.out.size)
          have HL2 : Hid ((l ++ [(q, r)]).length = k + 1 ∧ w8.ownsRow wc.heap.size 46 2 v' (l ++ [(q, r)]).length ((l ++ [(q, r)]).flatMap sgc)) := by
            refine ⟨by rw [List.length_append, HLK.out]; rfl, ?_⟩
            rw [flat_snoc] at hown'
            rw [List.length_append]
            exact hown'
          refine hK.out _ _ (fun _ => by exact ⟨up_cell hbw8 HC0.out, up_cell hbw8 HC1.out⟩) ?_
          clear hK K' hown' hgrow hnews hbl HL HBE hbw8 d0 d1
          try simp only [Act.put, List.setIfInBounds_toArray]
          refine wpAnyT_one (i := 21) (by kernel_rfl) rfl rfl (fun K' hK => ?_)
          go_simp
          refine hK.out _ _ (fun h => absurd rfl h) ?_
          clear hK K'
          refine wpAnyT_done (by kernel_rfl) ?_ _
          go_wp2
          go_roundw
          case rel => exact ⟨k + 1, _, by go_num, by omega, by omega, HL2, HB8⟩
          case measure => simp [intOf]; omega
        · have HE : Hid (wr.ownsRow 0 46 2 (.slice oa l.length oc) l.length (l.flatMap sgc) ∧ Below wc.heap.size wc wr) := ⟨own_mono HL.out.2 (Nat.zero_le _), HBE.out⟩
          have hl6 : l.length ≤ 6 := by have := HL.out.1; omega
          clear HL
          by_cases h20 : k < ps.length
          all_goals
            go_wp2_with fail
            go_meet
            case rel => exact ⟨l, oa, oc, rfl, hl6, HE⟩
    case rest =>
      obtain ⟨l, oa, oc, rfl, hl6, HLO⟩ := hcut
      have ht : -8000 ≤ f.tmod 400 ∧ f.tmod 400 < 8000 := by
        have h1 := Int.tmod_lt_of_pos f (b := 400) (by decide)
        have h3 := Int.tmod_lt_of_pos (-f) (b := 400) (by decide)
        rw [Int.neg_tmod] at h3
        omega
      obtain ⟨F, F1, F2⟩ := quo_pure ht
      clear ht
      go_wp2_with (at_make; refine wpList_make_full _ rfl _ _ 23 rfl wc.heap.size 4 i4 (.bool false) 1 Try.underlying23 hi4 h40 h41 .i64 .i64 _ _ l.length rfl rfl rfl rfl (by rw [h42]; omega) (by unfold maxLen; omega) (Nat.le_refl _) ?_; intro w3 hown3 hgr3; refine Still.go ?_)
      unfold Still
      have HG3 : Hid (w3.ownsRow wc.heap.size 4 1 (.slice (some ⟨wc.heap.size, 0, none⟩) l.length l.length) l.length ((List.replicate l.length false).map Value.bool)) := by
        have h1 := hown3
        rw [made_bool] at h1
        rw [List.map_replicate]
        exact h1
      have hb3 : Below wc.heap.size wc w3 := (Below.refl _ wc).grown hgr3 (Nat.le_refl _) (fun k e => by cases e)
      clear hown3 hgr3
      go_upto_region 11 with fail
      have HF4 : Hid ((w3.alloc (.cells #[.float .f64 F, .slice (some ⟨wc.heap.size, 0, none⟩) l.length l.length] 25)).heap[w3.heap.size]? = some (.cells #[.float .f64 F, .slice (some ⟨wc.heap.size, 0, none⟩) l.length l.length] 25 (0, 0)) ∧ Below wc.heap.size wc (w3.alloc (.cells #[.float .f64 F, .slice (some ⟨wc.heap.size, 0, none⟩) l.length l.length] 25)) ∧ RowAt (w3.alloc (.cells #[.float .f64 F, .slice (some ⟨wc.heap.size, 0, none⟩) l.length l.length] 25)) (.slice (some ⟨wc.heap.size, 0, none⟩) l.length l.length) l.length 1 ((List.replicate l.length false).map Value.bool)) := ⟨alloc_new _ _, hb3.trans ((below_al w3 _).mono hb3.size), (rowAt_of_own HG3.out).below (below_al w3 _) (Nat.le_refl _)⟩
      obtain ⟨w4, hw4⟩ : ∃ x, x = w3.alloc (.cells #[.float .f64 F, .slice (some ⟨wc.heap.size, 0, none⟩) l.length l.length] 25) := ⟨_, rfl⟩
      rw [← hw4] at HF4 ⊢
      obtain ⟨C, hCq⟩ : ∃ x, x = w3.heap.size := ⟨_, rfl⟩
      rw [← hCq] at HF4 ⊢
      have HB4 := hide' HF4.out.2.1
      obtain ⟨G, hGq⟩ : ∃ x, x = wc.heap.size := ⟨_, rfl⟩
      have HF5 : Hid (w4.heap[C]? = some (.cells #[.float .f64 F, .slice (some ⟨G, 0, none⟩) l.length l.length] 25 (0, 0)) ∧ RowAt w4 (.slice (some ⟨G, 0, none⟩) l.length l.length) l.length 1 ((List.replicate l.length false).map Value.bool)) := by rw [hGq]; exact ⟨HF4.out.1, HF4.out.2.2⟩
      obtain ⟨L, hLq⟩ : ∃ x, x = l.length := ⟨_, rfl⟩
      have HLL := hide' hLq.symm
      have F4 : Hid (RowAt w4 (.slice am n cm) n 1 (fls md) ∧ RowAt w4 (.slice ad n cd) n 1 (fls dr) ∧ RowAt w4 (.slice oa l.length oc) l.length 2 (l.flatMap sgc) ∧ RowAt w4 (.slice (some ⟨G, 0, none⟩) l.length l.length) l.length 1 ((List.replicate l.length false).map Value.bool) ∧ w4.heap[C]? = some (.cells #[.float .f64 F, .slice (some ⟨G, 0, none⟩) l.length l.length] 25 (0, 0)) ∧ Below w.heap.size w w4) := by
        have hq := HLO.out.2.trans (HB4.out.mono HLO.out.2.size)
        exact ⟨HRM.out.below hq (Nat.le_refl _), HRD.out.below hq (Nat.le_refl _), (rowAt_of_own HLO.out.1).below HB4.out (Nat.le_refl _), HF5.out.2, HF5.out.1, HBW.out.trans (hq.mono HBW.out.size)⟩
      rw [← hLq] at F4 hl6
      have x0 : w4.cell? ⟨C, 0, none⟩ = some (.float .f64 F) := (cells_at F4.out.2.2.2.2.1 0).trans rfl
      have x1 : w4.cell? ⟨C, 1, none⟩ = some (.slice (some ⟨G, 0, none⟩) L L) := (cells_at F4.out.2.2.2.2.1 1).trans rfl
      simp only [← hLq, ← hGq]
      obtain ⟨k, hk1, hpk⟩ := picked_is at' (n + 1) HAT.out (by omega) (by have := HC.out.1; omega)
      rw [Int.natCast_add] at hpk
      have hwk : IntKind.i64.wrap ((n : Int) + 1) = (n : Int) + 1 := Go.IntWalk.i64_in _ (by have := HC.out.1; omega)
      have hk : k ≤ n := by omega
      have HPK := hide' hpk
      clear hb3 HG3 HF4 HF5 HB4 hw4 hCq hLq hGq hpk HRM HRD HLO
      go_wp2_with fail
      refine (HPK.out _).mono ?_
      rintro e w5 ⟨rfl, rfl⟩
      have HRW : Hid (Calls Try.prog 8 #[.agg #[.float .f64 F, .slice (some ⟨G, 0, none⟩) L L], .float .f64 4609434218613702656, .float .f64 4619567317775286272, .float .f64 4593671619917905920, .slice am n cm, .slice ad n cd, .slice oa L oc] w5 fun e w' => ∃ (r : Nat) (ga : Option Addr) (gc : Nat) (ta : Option Addr) (tc : Nat), e = .returned (.tuple #[.agg #[.float .f64 r, .slice ga L gc], .slice ta n tc, .int .i64 0]) ∧ GR w' 4609434218613702656 4619567317775286272 4593671619917905920 (atWorkS l (List.replicate L false)) (nm F) (md.zip dr) n L r (.slice ga L gc) (.slice ta n tc) ∧ Below w5.heap.size w5 w') := Run_good F 4609434218613702656 4619567317775286272 4593671619917905920 md dr l (List.replicate L false) n L _ _ _ _ w5 F4.out.1 F4.out.2.1 F4.out.2.2.1 F4.out.2.2.2.1 HLM.out.1 HLM.out.2 HLL.out List.length_replicate HC.out.1 hl6
      go_wp2_with fail
      refine HRW.out.mono ?_
      rintro e w6 ⟨rA, gaA, gcA, taA, tcA, rfl, hgrA, hb6⟩
      go_upto_region 13 with fail
      have HBA := below_al w6 (.cells #[.float .f64 rA, .slice gaA L gcA] 25)
      have HNA := alloc_new w6 (.cells #[.float .f64 rA, .slice gaA L gcA] 25)
      obtain ⟨w7, hw7⟩ : ∃ x, x = w6.alloc (.cells #[.float .f64 rA, .slice gaA L gcA] 25) := ⟨_, rfl⟩
      obtain ⟨A, hAq⟩ : ∃ x, x = w6.heap.size := ⟨_, rfl⟩
      rw [← hw7] at HBA HNA ⊢
      have hq7 : Below w5.heap.size w5 w7 := hb6.trans (HBA.mono hb6.size)
      have F0 : Hid (RowAt w7 (.slice am n cm) n 1 (fls md) ∧ RowAt w7 (.slice ad n cd) n 1 (fls dr) ∧ RowAt w7 (.slice oa L oc) L 2 (l.flatMap sgc) ∧ RowAt w7 (.slice (some ⟨G, 0, none⟩) L L) L 1 ((List.replicate L false).map Value.bool) ∧ w7.heap[C]? = some (.cells #[.float .f64 F, .slice (some ⟨G, 0, none⟩) L L] 25 (0, 0)) ∧ Below w.heap.size w w7 ∧ w7.heap[A]? = some (.cells #[.float .f64 rA, .slice gaA L gcA] 25 (0, 0)) ∧ GR w7 4609434218613702656 4619567317775286272 4593671619917905920 (atWorkS l (List.replicate L false)) (nm F) (md.zip dr) n L rA (.slice gaA L gcA) (.slice taA n tcA)) :=
        ⟨F4.out.1.below hq7 (Nat.le_refl _), F4.out.2.1.below hq7 (Nat.le_refl _), F4.out.2.2.1.below hq7 (Nat.le_refl _), F4.out.2.2.2.1.below hq7 (Nat.le_refl _), blk_up F4.out.2.2.2.2.1 hq7, F4.out.2.2.2.2.2.trans (hq7.mono F4.out.2.2.2.2.2.size), by rw [hAq]; exact HNA, hgrA.keep (KeepE.below HBA (Nat.le_refl _))⟩
      rw [← hAq]
      clear HBA HNA hw7 hAq hq7 hgrA hb6 x0 x1 F4 HRW HPK hwk
      have hsm2 := fun (W : World) => hsm W n cm am k (by have := HC.out; omega)
      have hsd2 := fun (W : World) => hsm W n cd ad k (by have := HC.out; omega)
      go_cut [20, 21, 22] from 97 to 109 (fun p x e wd => ∃ (D r : Nat) (ga : Option Addr) (gc : Nat) (ta : Option Addr) (tc : Nat), p = .pointer (some ⟨D, 0, none⟩) ∧ x = .slice ta k tc ∧ e = .int .i64 0 ∧ Hid (Below w7.heap.size w7 wd ∧ wd.heap[D]? = some (.cells #[.float .f64 r, .slice ga L gc] 25 (0, 0)) ∧ GR wd 4609434218613702656 4619567317775286272 4593671619917905920 (atWorkS l (List.replicate L false)) (nm F) ((md.take k).zip (dr.take k)) k L r (.slice ga L gc) (.slice ta k tc)))
      case first =>
        have k0 : Hid (w7.cell? ⟨C, 0, none⟩ = some (.float .f64 F)) := (cells_at F0.out.2.2.2.2.1 0).trans rfl
        have k1 : Hid (w7.cell? ⟨C, 1, none⟩ = some (.slice (some ⟨G, 0, none⟩) L L)) := (cells_at F0.out.2.2.2.2.1 1).trans rfl
        have hbz : Below w7.heap.size w7 w7.drew := (Below.refl _ w7).drew
        refine wp_region_tail (fun W => W.cell? ⟨C, 0, none⟩ = some (.float .f64 F) ∧ W.cell? ⟨C, 1, none⟩ = some (.slice (some ⟨G, 0, none⟩) L L)) 16 (by kernel_rfl) ?_
        refine wpAnyD_takeAt 0 (some 98) (v := ?_) rfl (by kernel_rfl) (by kernel_rfl) (by kernel_rfl) (by kernel_rfl) (by kernel_rfl) (fun _ _ _ h => h) (by exact ⟨up_cell hbz k0.out, up_cell hbz k1.out⟩) (fun o hop => ?_) ?_
        rotate_left
        · injection hop with hop
          subst hop
          refine ⟨rfl, fun W hW => ?_⟩
          obtain ⟨s0, s1⟩ := hW
          go_simp
          first
          | rfl
          | (constructor <;> rfl)
          | rw [if_neg (by omega)]
        try simp only [Act.put, List.setIfInBounds_toArray, List.set_cons_zero, List.set_cons_succ]
        refine wpAnyD_takeAt 1 (some 99) (v := ?_) rfl (by kernel_rfl) (by kernel_rfl) (by kernel_rfl) (by kernel_rfl) (by kernel_rfl) (fun _ _ _ h => h) (by exact ⟨up_cell hbz k0.out, up_cell hbz k1.out⟩) (fun o hop => ?_) ?_
        rotate_left
        · injection hop with hop
          subst hop
          refine ⟨rfl, fun W hW => ?_⟩
          obtain ⟨s0, s1⟩ := hW
          go_simp
          first
          | rfl
          | (constructor <;> rfl)
          | rw [if_neg (by omega)]
        try simp only [Act.put, List.setIfInBounds_toArray, List.set_cons_zero, List.set_cons_succ]
        refine wpAnyD_takeAt 2 (some 100) (v := ?_) rfl (by kernel_rfl) (by kernel_rfl) (by kernel_rfl) (by kernel_rfl) (by kernel_rfl) (fun _ _ _ h => h) (by exact ⟨up_cell hbz k0.out, up_cell hbz k1.out⟩) (fun o hop => ?_) ?_
        rotate_left
        · injection hop with hop
          subst hop
          refine ⟨rfl, fun W hW => ?_⟩
          obtain ⟨s0, s1⟩ := hW
          go_simp
          first
          | rfl
          | (constructor <;> rfl)
          | rw [if_neg (by omega)]
        try simp only [Act.put, List.setIfInBounds_toArray, List.set_cons_zero, List.set_cons_succ]
        refine wpAnyD_takeAt 3 (some 101) (v := ?_) rfl (by kernel_rfl) (by kernel_rfl) (by kernel_rfl) (by kernel_rfl) (by kernel_rfl) (fun _ _ _ h => h) (by exact ⟨up_cell hbz k0.out, up_cell hbz k1.out⟩) (fun o hop => ?_) ?_
        rotate_left
        · injection hop with hop
          subst hop
          refine ⟨rfl, fun W hW => ?_⟩
          obtain ⟨s0, s1⟩ := hW
          go_simp
          first
          | rfl
          | (constructor <;> rfl)
          | rw [if_neg (by omega)]
        try simp only [Act.put, List.setIfInBounds_toArray, List.set_cons_zero, List.set_cons_succ]
        refine wpAnyD_takeAt 4 (some 102) (v := ?_) rfl (by kernel_rfl) (by kernel_rfl) (by kernel_rfl) (by kernel_rfl) (by kernel_rfl) (fun _ _ _ h => h) (by exact ⟨up_cell hbz k0.out, up_cell hbz k1.out⟩) (fun o hop => ?_) ?_
        rotate_left
        · injection hop with hop
          subst hop
          refine ⟨rfl, fun W hW => ?_⟩
          obtain ⟨s0, s1⟩ := hW
          go_simp
          first
          | rfl
          | (constructor <;> rfl)
          | rw [if_neg (by omega)]
        try simp only [Act.put, List.setIfInBounds_toArray, List.set_cons_zero, List.set_cons_succ]
        refine wpAnyD_takeAt 5 (some 103) (v := ?_) rfl (by kernel_rfl) (by kernel_rfl) (by kernel_rfl) (by kernel_rfl) (by kernel_rfl) (fun _ _ _ h => h) (by exact ⟨up_cell hbz k0.out, up_cell hbz k1.out⟩) (fun o hop => ?_) ?_
        rotate_left
        · injection hop with hop
          subst hop
          refine ⟨rfl, fun W hW => ?_⟩
          obtain ⟨s0, s1⟩ := hW
          go_simp
          first
          | rfl
          | (constructor <;> rfl)
          | rw [if_neg (by omega)]
        try simp only [Act.put, List.setIfInBounds_toArray, List.set_cons_zero, List.set_cons_succ]
        refine wpAnyD_takeAt 6 (some 104) (v := ?_) rfl (by kernel_rfl) (by kernel_rfl) (by kernel_rfl) (by kernel_rfl) (by kernel_rfl) (fun _ _ _ h => h) (by exact ⟨up_cell hbz k0.out, up_cell hbz k1.out⟩) (fun o hop => ?_) ?_
        rotate_left
        · injection hop with hop
          subst hop
          refine ⟨rfl, fun W hW => ?_⟩
          obtain ⟨s0, s1⟩ := hW
          go_simp
          first
          | rfl
          | (constructor <;> rfl)
          | rw [if_neg (by omega)]
        try simp only [Act.put, List.setIfInBounds_toArray, List.set_cons_zero, List.set_cons_succ]
        refine wpAnyD_takeAt 7 (some 105) (v := ?_) rfl (by kernel_rfl) (by kernel_rfl) (by kernel_rfl) (by kernel_rfl) (by kernel_rfl) (fun _ _ _ h => h) (by exact ⟨up_cell hbz k0.out, up_cell hbz k1.out⟩) (fun o hop => ?_) ?_
        rotate_left
        · injection hop with hop
          subst hop
          refine ⟨rfl, fun W hW => ?_⟩
          obtain ⟨s0, s1⟩ := hW
          go_simp
          first
          | rfl
          | (constructor <;> rfl)
          | rw [if_neg (by omega)]
        try simp only [Act.put, List.setIfInBounds_toArray, List.set_cons_zero, List.set_cons_succ]
        refine wpAnyT_letter (fun W => Below w7.heap.size w7 W) hbz ?_
        clear hbz
        rintro z0 hbz
        refine wpAnyT_two (i := 8) (j := 13) (by kernel_rfl) rfl rfl rfl rfl (fun K' hK => ?_) (fun K' hK => ?_)
        · go_simp
          go_at_call 8
          refine (Run_good F 4609434218613702656 4619567317775286272 4593671619917905920 (md.take k) (dr.take k) l (List.replicate L false) k L (.slice am k cm) (.slice ad k cd) (.slice oa L oc) (.slice (some ⟨G, 0, none⟩) L L) z0 ((row_head F0.out.1 k hk).below hbz (Nat.le_refl _)) ((row_head F0.out.2.1 k hk).below hbz (Nat.le_refl _)) (F0.out.2.2.1.below hbz (Nat.le_refl _)) (F0.out.2.2.2.1.below hbz (Nat.le_refl _)) (by rw [List.length_take, HLM.out.1]; omega) (by rw [List.length_take, HLM.out.2]; omega) HLL.out List.length_replicate (by have := HC.out.1; omega) hl6).mono ?_
          rintro e z1 ⟨r, ga, gc, ta, tc, rfl, hgr, hb2⟩
          replace hbz := hbz.trans (hb2.mono hbz.size)
          clear hb2
          refine hK.out _ _ (fun _ => by exact ⟨up_cell hbz k0.out, up_cell hbz k1.out⟩) ?_
          clear hK K'
          refine wpAnyD_takeAt 9 (some 97) (v := ?_) rfl (by kernel_rfl) (by kernel_rfl) (by kernel_rfl) (by kernel_rfl) (by kernel_rfl) (fun _ _ _ h => h) (by exact ⟨up_cell hbz k0.out, up_cell hbz k1.out⟩) (fun o hop => ?_) ?_
          rotate_left
          · injection hop with hop
            subst hop
            refine ⟨rfl, fun W hW => ?_⟩
            obtain ⟨s0, s1⟩ := hW
            go_simp
            first
            | rfl
            | (constructor <;> rfl)
            | rw [if_neg (by omega)]
          try simp only [Act.put, List.setIfInBounds_toArray, List.set_cons_zero, List.set_cons_succ]
          refine wpAnyD_takeAt 10 (some 107) (v := ?_) rfl (by kernel_rfl) (by kernel_rfl) (by kernel_rfl) (by kernel_rfl) (by kernel_rfl) (fun _ _ _ h => h) (by exact ⟨up_cell hbz k0.out, up_cell hbz k1.out⟩) (fun o hop => ?_) ?_
          rotate_left
          · injection hop with hop
            subst hop
            refine ⟨rfl, fun W hW => ?_⟩
            obtain ⟨s0, s1⟩ := hW
            go_simp
            first
            | rfl
            | (constructor <;> rfl)
            | rw [if_neg (by omega)]
          try simp only [Act.put, List.setIfInBounds_toArray, List.set_cons_zero, List.set_cons_succ]
          refine wpAnyD_takeAt 11 (some 108) (v := ?_) rfl (by kernel_rfl) (by kernel_rfl) (by kernel_rfl) (by kernel_rfl) (by kernel_rfl) (fun _ _ _ h => h) (by exact ⟨up_cell hbz k0.out, up_cell hbz k1.out⟩) (fun o hop => ?_) ?_
          rotate_left
          · injection hop with hop
            subst hop
            refine ⟨rfl, fun W hW => ?_⟩
            obtain ⟨s0, s1⟩ := hW
            go_simp
            first
            | rfl
            | (constructor <;> rfl)
            | rw [if_neg (by omega)]
          try simp only [Act.put, List.setIfInBounds_toArray, List.set_cons_zero, List.set_cons_succ]
          refine wpAnyD_takeAt 12 (some 109) (v := ?_) rfl (by kernel_rfl) (by kernel_rfl) (by kernel_rfl) (by kernel_rfl) (by kernel_rfl) (fun _ _ _ h => h) (by exact ⟨up_cell hbz k0.out, up_cell hbz k1.out⟩) (fun o hop => ?_) ?_
          rotate_left
          · injection hop with hop
            subst hop
            refine ⟨rfl, fun W hW => ?_⟩
            obtain ⟨s0, s1⟩ := hW
            go_simp
            first
            | rfl
            | (constructor <;> rfl)
            | rw [if_neg (by omega)]
          try simp only [Act.put, List.setIfInBounds_toArray, List.set_cons_zero, List.set_cons_succ]
          refine wpAnyT_one (i := 13) (by kernel_rfl) rfl rfl (fun K' hK => ?_)
          go_simp
          refine hK.out _ _ (fun _ => by exact ⟨up_cell (hbz.trans ((below_al _ _).mono hbz.size)) k0.out, up_cell (hbz.trans ((below_al _ _).mono hbz.size)) k1.out⟩) ?_
          clear hK K'
          obtain ⟨D, hD⟩ : ∃ x, x = z1.heap.size := ⟨_, rfl⟩
          rw [← hD]
          refine wpAnyT_letter (fun W => Below w7.heap.size w7 W ∧ W.heap[D]? = some (.cells zero2 25 (0, 0)) ∧ w7.heap.size ≤ D ∧ GR W 4609434218613702656 4619567317775286272 4593671619917905920 (atWorkS l (List.replicate L false)) (nm F) ((md.take k).zip (dr.take k)) k L r (.slice ga L gc) (.slice ta k tc)) ⟨hbz.trans ((below_al _ _).mono hbz.size), (by rw [hD]; exact alloc_new _ _), (by rw [hD]; exact hbz.size), hgr.keep (KeepE.alloc _ _ _)⟩ ?_
          clear hbz hgr hD
          rintro z2 ⟨hbz, hzd, hsd, hgr⟩
          have y0 : z2.cell? ⟨D, 0, none⟩ = some (.float .f64 0) := (cells_at hzd 0).trans rfl
          have y1 : z2.cell? ⟨D, 1, none⟩ = some (.slice none 0 0) := (cells_at hzd 1).trans rfl
          have t0 := frozen_no hzd 0
          have t1 := frozen_no hzd 1
          refine wpAnyT_one (i := 14) (by kernel_rfl) rfl rfl (fun K' hK => ?_)
          go_simp
          have hfin : Below w7.heap.size w7 ((z2.setCell ⟨D, 0, none⟩ (.float .f64 r)).setCell ⟨D, 1, none⟩ (.slice ga L gc)) ∧ ((z2.setCell ⟨D, 0, none⟩ (.float .f64 r)).setCell ⟨D, 1, none⟩ (.slice ga L gc)).heap[D]? = some (.cells #[.float .f64 r, .slice ga L gc] 25 (0, 0)) ∧ GR ((z2.setCell ⟨D, 0, none⟩ (.float .f64 r)).setCell ⟨D, 1, none⟩ (.slice ga L gc)) 4609434218613702656 4619567317775286272 4593671619917905920 (atWorkS l (List.replicate L false)) (nm F) ((md.take k).zip (dr.take k)) k L r (.slice ga L gc) (.slice ta k tc) := ⟨(hbz.setCell (p := ⟨D, 0, none⟩) hsd _).setCell (p := ⟨D, 1, none⟩) hsd _, (set_any (set_any hzd 0 _) 1 _).trans (congrArg (fun c => some (Obj.cells c 25 (0, 0))) (set2 _ _ _ _)), hgr.keep ((keep_set hzd 0 _).trans (keep_set (set_any hzd 0 _) 1 _))⟩
          refine hK.out _ _ (fun _ => by exact ⟨up_cell hfin.1 k0.out, up_cell hfin.1 k1.out⟩) ?_
          clear hK K' y0 y1 t0 t1
          refine wpAnyT_letter (fun W => Below w7.heap.size w7 W ∧ W.heap[D]? = some (.cells #[.float .f64 r, .slice ga L gc] 25 (0, 0)) ∧ GR W 4609434218613702656 4619567317775286272 4593671619917905920 (atWorkS l (List.replicate L false)) (nm F) ((md.take k).zip (dr.take k)) k L r (.slice ga L gc) (.slice ta k tc)) hfin ?_
          clear hfin hbz hzd hgr hsd
          rintro zf hfin
          refine wpAnyT_one (i := 15) (by kernel_rfl) rfl rfl (fun K' hK => ?_)
          go_simp
          refine hK.out _ _ (fun _ => by exact ⟨up_cell hfin.1 k0.out, up_cell hfin.1 k1.out⟩) ?_
          clear hK K'
          refine wpAnyT_one (i := 16) (by kernel_rfl) rfl rfl (fun K' hK => ?_)
          go_simp
          refine hK.out _ _ (fun h => absurd rfl h) ?_
          clear hK K'
          refine wpAnyT_done (by kernel_rfl) ?_ _
          have HFIN := hide' hfin
          clear hfin
          go_wp2_with fail
          go_meet
          case rel => exact ⟨D, r, ga, gc, ta, tc, rfl, rfl, rfl, HFIN⟩
        · go_simp
          refine hK.out _ _ (fun _ => by exact ⟨up_cell (hbz.trans ((below_al _ _).mono hbz.size)) k0.out, up_cell (hbz.trans ((below_al _ _).mono hbz.size)) k1.out⟩) ?_
          clear hK K'
          obtain ⟨D, hD⟩ : ∃ x, x = z0.heap.size := ⟨_, rfl⟩
          rw [← hD]
          refine wpAnyT_letter (fun W => Below w7.heap.size w7 W ∧ W.heap[D]? = some (.cells zero2 25 (0, 0)) ∧ w7.heap.size ≤ D) ⟨hbz.trans ((below_al _ _).mono hbz.size), (by rw [hD]; exact alloc_new _ _), (by rw [hD]; exact hbz.size)⟩ ?_
          clear hbz  hD
          rintro z3 ⟨hbz, hzd, hsd⟩
          refine wpAnyT_one (i := 8) (by kernel_rfl) rfl rfl (fun K' hK => ?_)
          go_simp
          go_at_call 8
          refine (Run_good F 4609434218613702656 4619567317775286272 4593671619917905920 (md.take k) (dr.take k) l (List.replicate L false) k L (.slice am k cm) (.slice ad k cd) (.slice oa L oc) (.slice (some ⟨G, 0, none⟩) L L) z3 ((row_head F0.out.1 k hk).below hbz (Nat.le_refl _)) ((row_head F0.out.2.1 k hk).below hbz (Nat.le_refl _)) (F0.out.2.2.1.below hbz (Nat.le_refl _)) (F0.out.2.2.2.1.below hbz (Nat.le_refl _)) (by rw [List.length_take, HLM.out.1]; omega) (by rw [List.length_take, HLM.out.2]; omega) HLL.out List.length_replicate (by have := HC.out.1; omega) hl6).mono ?_
          rintro e z4 ⟨r, ga, gc, ta, tc, rfl, hgr, hb2⟩
          replace hzd := blk_up hzd hb2
          replace hbz := hbz.trans (hb2.mono hbz.size)
          clear hb2
          refine hK.out _ _ (fun _ => by exact ⟨up_cell hbz k0.out, up_cell hbz k1.out⟩) ?_
          clear hK K'
          refine wpAnyD_takeAt 9 (some 97) (v := ?_) rfl (by kernel_rfl) (by kernel_rfl) (by kernel_rfl) (by kernel_rfl) (by kernel_rfl) (fun _ _ _ h => h) (by exact ⟨up_cell hbz k0.out, up_cell hbz k1.out⟩) (fun o hop => ?_) ?_
          rotate_left
          · injection hop with hop
            subst hop
            refine ⟨rfl, fun W hW => ?_⟩
            obtain ⟨s0, s1⟩ := hW
            go_simp
            first
            | rfl
            | (constructor <;> rfl)
            | rw [if_neg (by omega)]
          try simp only [Act.put, List.setIfInBounds_toArray, List.set_cons_zero, List.set_cons_succ]
          refine wpAnyD_takeAt 10 (some 107) (v := ?_) rfl (by kernel_rfl) (by kernel_rfl) (by kernel_rfl) (by kernel_rfl) (by kernel_rfl) (fun _ _ _ h => h) (by exact ⟨up_cell hbz k0.out, up_cell hbz k1.out⟩) (fun o hop => ?_) ?_
          rotate_left
          · injection hop with hop
            subst hop
            refine ⟨rfl, fun W hW => ?_⟩
            obtain ⟨s0, s1⟩ := hW
            go_simp
            first
            | rfl
            | (constructor <;> rfl)
            | rw [if_neg (by omega)]
          try simp only [Act.put, List.setIfInBounds_toArray, List.set_cons_zero, List.set_cons_succ]
          refine wpAnyD_takeAt 11 (some 108) (v := ?_) rfl (by kernel_rfl) (by kernel_rfl) (by kernel_rfl) (by kernel_rfl) (by kernel_rfl) (fun _ _ _ h => h) (by exact ⟨up_cell hbz k0.out, up_cell hbz k1.out⟩) (fun o hop => ?_) ?_
          rotate_left
          · injection hop with hop
            subst hop
            refine ⟨rfl, fun W hW => ?_⟩
            obtain ⟨s0, s1⟩ := hW
            go_simp
            first
            | rfl
            | (constructor <;> rfl)
            | rw [if_neg (by omega)]
          try simp only [Act.put, List.setIfInBounds_toArray, List.set_cons_zero, List.set_cons_succ]
          refine wpAnyD_takeAt 12 (some 109) (v := ?_) rfl (by kernel_rfl) (by kernel_rfl) (by kernel_rfl) (by kernel_rfl) (by kernel_rfl) (fun _ _ _ h => h) (by exact ⟨up_cell hbz k0.out, up_cell hbz k1.out⟩) (fun o hop => ?_) ?_
          rotate_left
          · injection hop with hop
            subst hop
            refine ⟨rfl, fun W hW => ?_⟩
            obtain ⟨s0, s1⟩ := hW
            go_simp
            first
            | rfl
            | (constructor <;> rfl)
            | rw [if_neg (by omega)]
          try simp only [Act.put, List.setIfInBounds_toArray, List.set_cons_zero, List.set_cons_succ]
          have y0 : z4.cell? ⟨D, 0, none⟩ = some (.float .f64 0) := (cells_at hzd 0).trans rfl
          have y1 : z4.cell? ⟨D, 1, none⟩ = some (.slice none 0 0) := (cells_at hzd 1).trans rfl
          have t0 := frozen_no hzd 0
          have t1 := frozen_no hzd 1
          refine wpAnyT_one (i := 14) (by kernel_rfl) rfl rfl (fun K' hK => ?_)
          go_simp
          have hfin : Below w7.heap.size w7 ((z4.setCell ⟨D, 0, none⟩ (.float .f64 r)).setCell ⟨D, 1, none⟩ (.slice ga L gc)) ∧ ((z4.setCell ⟨D, 0, none⟩ (.float .f64 r)).setCell ⟨D, 1, none⟩ (.slice ga L gc)).heap[D]? = some (.cells #[.float .f64 r, .slice ga L gc] 25 (0, 0)) ∧ GR ((z4.setCell ⟨D, 0, none⟩ (.float .f64 r)).setCell ⟨D, 1, none⟩ (.slice ga L gc)) 4609434218613702656 4619567317775286272 4593671619917905920 (atWorkS l (List.replicate L false)) (nm F) ((md.take k).zip (dr.take k)) k L r (.slice ga L gc) (.slice ta k tc) := ⟨(hbz.setCell (p := ⟨D, 0, none⟩) hsd _).setCell (p := ⟨D, 1, none⟩) hsd _, (set_any (set_any hzd 0 _) 1 _).trans (congrArg (fun c => some (Obj.cells c 25 (0, 0))) (set2 _ _ _ _)), hgr.keep ((keep_set hzd 0 _).trans (keep_set (set_any hzd 0 _) 1 _))⟩
          refine hK.out _ _ (fun _ => by exact ⟨up_cell hfin.1 k0.out, up_cell hfin.1 k1.out⟩) ?_
          clear hK K' y0 y1 t0 t1
          refine wpAnyT_letter (fun W => Below w7.heap.size w7 W ∧ W.heap[D]? = some (.cells #[.float .f64 r, .slice ga L gc] 25 (0, 0)) ∧ GR W 4609434218613702656 4619567317775286272 4593671619917905920 (atWorkS l (List.replicate L false)) (nm F) ((md.take k).zip (dr.take k)) k L r (.slice ga L gc) (.slice ta k tc)) hfin ?_
          clear hfin hbz hzd hgr hsd
          rintro zf hfin
          refine wpAnyT_one (i := 15) (by kernel_rfl) rfl rfl (fun K' hK => ?_)
          go_simp
          refine hK.out _ _ (fun _ => by exact ⟨up_cell hfin.1 k0.out, up_cell hfin.1 k1.out⟩) ?_
          clear hK K'
          refine wpAnyT_one (i := 16) (by kernel_rfl) rfl rfl (fun K' hK => ?_)
          go_simp
          refine hK.out _ _ (fun h => absurd rfl h) ?_
          clear hK K'
          refine wpAnyT_done (by kernel_rfl) ?_ _
          have HFIN := hide' hfin
          clear hfin
          go_wp2_with fail
          go_meet
          case rel => exact ⟨D, r, ga, gc, ta, tc, rfl, rfl, rfl, HFIN⟩
      case rest =>
        obtain ⟨D1, rB, gaB, gcB, taB, tcB, rfl, rfl, rfl, HD⟩ := hcut
        obtain ⟨gB, hgB⟩ : ∃ x, x = (runS (nm 4609434218613702656) (nm 4619567317775286272) (nm 4593671619917905920) (atWorkS l (List.replicate L false)) (nm F) ((md.take k).zip (dr.take k)) k).1.map StM.gone := ⟨_, rfl⟩
        have HGB := hide' hgB
        have FD : Hid (RowAt wc (.slice am n cm) n 1 (fls md) ∧ RowAt wc (.slice ad n cd) n 1 (fls dr) ∧ RowAt wc (.slice oa L oc) L 2 (l.flatMap sgc) ∧ RowAt wc (.slice gaB L gcB) L 1 (gB.map Value.bool) ∧ wc.heap[D1]? = some (.cells #[.float .f64 rB, .slice gaB L gcB] 25 (0, 0))) :=
          ⟨F0.out.1.below HD.out.1 (Nat.le_refl _), F0.out.2.1.below HD.out.1 (Nat.le_refl _), F0.out.2.2.1.below HD.out.1 (Nat.le_refl _), by rw [hgB]; exact rowAt_of_own HD.out.2.2.2.1, HD.out.2.1⟩
        obtain ⟨amR, hamR⟩ : ∃ x, x = (if cm = k then am else am.map (·.add (k * 1))) := ⟨_, rfl⟩
        obtain ⟨adR, hadR⟩ : ∃ x, x = (if cd = k then ad else ad.map (·.add (k * 1))) := ⟨_, rfl⟩
        have FR : Hid (RowAt wc (.slice amR (n - k) (cm - k)) (n - k) 1 (fls (md.drop k)) ∧ RowAt wc (.slice adR (n - k) (cd - k)) (n - k) 1 (fls (dr.drop k))) := ⟨by rw [hamR]; exact row_rest FD.out.1 k hk HC.out.2.1, by rw [hadR]; exact row_rest FD.out.2.1 k hk HC.out.2.2⟩
        have hsm3 : ∀ W : World, (Instr.slice 26 (.slice am n cm) (some (.int .i64 (k : Int))) none none).run Try.prog W = .ok (.slice amR (n - k) (cm - k)) W := fun W => by rw [hamR]; exact slice_rest W am n cm k hk
        have hsd3 : ∀ W : World, (Instr.slice 26 (.slice ad n cd) (some (.int .i64 (k : Int))) none none).run Try.prog W = .ok (.slice adR (n - k) (cd - k)) W := fun W => by rw [hadR]; exact slice_rest W ad n cd k hk
        have HLG : Hid (gB.length = L) := by have h := FD.out.2.2.2.1.1; rw [List.length_map, Nat.mul_one] at h; exact h
        have HNK : Hid (n - k ≤ 50) := by have := HC.out.1; show _ ≤ _; omega
        clear hsm2 hsd2 hamR hadR hgB
        go_upto_region 14 with fail
        go_cut [23, 24, 25] from 110 to 122 (fun p x e we => ∃ (D r : Nat) (ga : Option Addr) (gc : Nat) (ta : Option Addr) (tc : Nat), p = .pointer (some ⟨D, 0, none⟩) ∧ x = .slice ta (n - k) tc ∧ e = .int .i64 0 ∧ Hid (Below wc.heap.size wc we ∧ we.heap[D]? = some (.cells #[.float .f64 r, .slice ga L gc] 25 (0, 0)) ∧ GR we 4609434218613702656 4619567317775286272 4593671619917905920 (atWorkS l gB) (nm rB) ((md.drop k).zip (dr.drop k)) (n - k) L r (.slice ga L gc) (.slice ta (n - k) tc)))
        case first =>
          have k0 : Hid (wc.cell? ⟨D1, 0, none⟩ = some (.float .f64 rB)) := (cells_at FD.out.2.2.2.2 0).trans rfl
          have k1 : Hid (wc.cell? ⟨D1, 1, none⟩ = some (.slice gaB L gcB)) := (cells_at FD.out.2.2.2.2 1).trans rfl
          have hbz : Below wc.heap.size wc wc.drew := (Below.refl _ wc).drew
          refine wp_region_tail (fun W => W.cell? ⟨D1, 0, none⟩ = some (.float .f64 rB) ∧ W.cell? ⟨D1, 1, none⟩ = some (.slice gaB L gcB)) 16 (by kernel_rfl) ?_
          refine wpAnyD_takeAt 0 (some 111) (v := ?_) rfl (by kernel_rfl) (by kernel_rfl) (by kernel_rfl) (by kernel_rfl) (by kernel_rfl) (fun _ _ _ h => h) (by exact ⟨up_cell hbz k0.out, up_cell hbz k1.out⟩) (fun o hop => ?_) ?_
          rotate_left
          · injection hop with hop
            subst hop
            refine ⟨rfl, fun W hW => ?_⟩
            obtain ⟨s0, s1⟩ := hW
            go_simp
            first
            | rfl
            | (constructor <;> rfl)
            | rw [if_neg (by omega)]
          try simp only [Act.put, List.setIfInBounds_toArray, List.set_cons_zero, List.set_cons_succ]
          refine wpAnyD_takeAt 1 (some 112) (v := ?_) rfl (by kernel_rfl) (by kernel_rfl) (by kernel_rfl) (by kernel_rfl) (by kernel_rfl) (fun _ _ _ h => h) (by exact ⟨up_cell hbz k0.out, up_cell hbz k1.out⟩) (fun o hop => ?_) ?_
          rotate_left
          · injection hop with hop
            subst hop
            refine ⟨rfl, fun W hW => ?_⟩
            obtain ⟨s0, s1⟩ := hW
            go_simp
            first
            | rfl
            | (constructor <;> rfl)
            | rw [if_neg (by omega)]
          try simp only [Act.put, List.setIfInBounds_toArray, List.set_cons_zero, List.set_cons_succ]
          refine wpAnyD_takeAt 2 (some 113) (v := ?_) rfl (by kernel_rfl) (by kernel_rfl) (by kernel_rfl) (by kernel_rfl) (by kernel_rfl) (fun _ _ _ h => h) (by exact ⟨up_cell hbz k0.out, up_cell hbz k1.out⟩) (fun o hop => ?_) ?_
          rotate_left
          · injection hop with hop
            subst hop
            refine ⟨rfl, fun W hW => ?_⟩
            obtain ⟨s0, s1⟩ := hW
            go_simp
            first
            | rfl
            | (constructor <;> rfl)
            | rw [if_neg (by omega)]
          try simp only [Act.put, List.setIfInBounds_toArray, List.set_cons_zero, List.set_cons_succ]
          refine wpAnyD_takeAt 3 (some 114) (v := ?_) rfl (by kernel_rfl) (by kernel_rfl) (by kernel_rfl) (by kernel_rfl) (by kernel_rfl) (fun _ _ _ h => h) (by exact ⟨up_cell hbz k0.out, up_cell hbz k1.out⟩) (fun o hop => ?_) ?_
          rotate_left
          · injection hop with hop
            subst hop
            refine ⟨rfl, fun W hW => ?_⟩
            obtain ⟨s0, s1⟩ := hW
            go_simp
            first
            | rfl
            | (constructor <;> rfl)
            | rw [if_neg (by omega)]
          try simp only [Act.put, List.setIfInBounds_toArray, List.set_cons_zero, List.set_cons_succ]
          refine wpAnyD_takeAt 4 (some 115) (v := ?_) rfl (by kernel_rfl) (by kernel_rfl) (by kernel_rfl) (by kernel_rfl) (by kernel_rfl) (fun _ _ _ h => h) (by exact ⟨up_cell hbz k0.out, up_cell hbz k1.out⟩) (fun o hop => ?_) ?_
          rotate_left
          · injection hop with hop
            subst hop
            refine ⟨rfl, fun W hW => ?_⟩
            obtain ⟨s0, s1⟩ := hW
            go_simp
            first
            | rfl
            | (constructor <;> rfl)
            | rw [if_neg (by omega)]
          try simp only [Act.put, List.setIfInBounds_toArray, List.set_cons_zero, List.set_cons_succ]
          refine wpAnyD_takeAt 5 (some 116) (v := ?_) rfl (by kernel_rfl) (by kernel_rfl) (by kernel_rfl) (by kernel_rfl) (by kernel_rfl) (fun _ _ _ h => h) (by exact ⟨up_cell hbz k0.out, up_cell hbz k1.out⟩) (fun o hop => ?_) ?_
          rotate_left
          · injection hop with hop
            subst hop
            refine ⟨rfl, fun W hW => ?_⟩
            obtain ⟨s0, s1⟩ := hW
            go_simp
            first
            | rfl
            | (constructor <;> rfl)
            | rw [if_neg (by omega)]
          try simp only [Act.put, List.setIfInBounds_toArray, List.set_cons_zero, List.set_cons_succ]
          refine wpAnyD_takeAt 6 (some 117) (v := ?_) rfl (by kernel_rfl) (by kernel_rfl) (by kernel_rfl) (by kernel_rfl) (by kernel_rfl) (fun _ _ _ h => h) (by exact ⟨up_cell hbz k0.out, up_cell hbz k1.out⟩) (fun o hop => ?_) ?_
          rotate_left
          · injection hop with hop
            subst hop
            refine ⟨rfl, fun W hW => ?_⟩
            obtain ⟨s0, s1⟩ := hW
            go_simp
            first
            | rfl
            | (constructor <;> rfl)
            | rw [if_neg (by omega)]
          try simp only [Act.put, List.setIfInBounds_toArray, List.set_cons_zero, List.set_cons_succ]
          refine wpAnyD_takeAt 7 (some 118) (v := ?_) rfl (by kernel_rfl) (by kernel_rfl) (by kernel_rfl) (by kernel_rfl) (by kernel_rfl) (fun _ _ _ h => h) (by exact ⟨up_cell hbz k0.out, up_cell hbz k1.out⟩) (fun o hop => ?_) ?_
          rotate_left
          · injection hop with hop
            subst hop
            refine ⟨rfl, fun W hW => ?_⟩
            obtain ⟨s0, s1⟩ := hW
            go_simp
            first
            | rfl
            | (constructor <;> rfl)
            | rw [if_neg (by omega)]
          try simp only [Act.put, List.setIfInBounds_toArray, List.set_cons_zero, List.set_cons_succ]
          refine wpAnyT_letter (fun W => Below wc.heap.size wc W) hbz ?_
          clear hbz
          rintro z0 hbz
          refine wpAnyT_two (i := 8) (j := 13) (by kernel_rfl) rfl rfl rfl rfl (fun K' hK => ?_) (fun K' hK => ?_)
          · go_simp
            go_at_call 8
            refine (Run_good rB 4609434218613702656 4619567317775286272 4593671619917905920 (md.drop k) (dr.drop k) l gB (n - k) L (.slice amR (n - k) (cm - k)) (.slice adR (n - k) (cd - k)) (.slice oa L oc) (.slice gaB L gcB) z0 (FR.out.1.below hbz (Nat.le_refl _)) (FR.out.2.below hbz (Nat.le_refl _)) (FD.out.2.2.1.below hbz (Nat.le_refl _)) (FD.out.2.2.2.1.below hbz (Nat.le_refl _)) (by rw [List.length_drop, HLM.out.1]) (by rw [List.length_drop, HLM.out.2]) HLL.out HLG.out HNK.out hl6).mono ?_
            rintro e z5 ⟨r, ga, gc, ta, tc, rfl, hgr, hb2⟩
            replace hbz := hbz.trans (hb2.mono hbz.size)
            clear hb2
            refine hK.out _ _ (fun _ => by exact ⟨up_cell hbz k0.out, up_cell hbz k1.out⟩) ?_
            clear hK K'
            refine wpAnyD_takeAt 9 (some 110) (v := ?_) rfl (by kernel_rfl) (by kernel_rfl) (by kernel_rfl) (by kernel_rfl) (by kernel_rfl) (fun _ _ _ h => h) (by exact ⟨up_cell hbz k0.out, up_cell hbz k1.out⟩) (fun o hop => ?_) ?_
            rotate_left
            · injection hop with hop
              subst hop
              refine ⟨rfl, fun W hW => ?_⟩
              obtain ⟨s0, s1⟩ := hW
              go_simp
              first
              | rfl
              | (constructor <;> rfl)
              | rw [if_neg (by omega)]
            try simp only [Act.put, List.setIfInBounds_toArray, List.set_cons_zero, List.set_cons_succ]
            refine wpAnyD_takeAt 10 (some 120) (v := ?_) rfl (by kernel_rfl) (by kernel_rfl) (by kernel_rfl) (by kernel_rfl) (by kernel_rfl) (fun _ _ _ h => h) (by exact ⟨up_cell hbz k0.out, up_cell hbz k1.out⟩) (fun o hop => ?_) ?_
            rotate_left
            · injection hop with hop
              subst hop
              refine ⟨rfl, fun W hW => ?_⟩
              obtain ⟨s0, s1⟩ := hW
              go_simp
              first
              | rfl
              | (constructor <;> rfl)
              | rw [if_neg (by omega)]
            try simp only [Act.put, List.setIfInBounds_toArray, List.set_cons_zero, List.set_cons_succ]
            refine wpAnyD_takeAt 11 (some 121) (v := ?_) rfl (by kernel_rfl) (by kernel_rfl) (by kernel_rfl) (by kernel_rfl) (by kernel_rfl) (fun _ _ _ h => h) (by exact ⟨up_cell hbz k0.out, up_cell hbz k1.out⟩) (fun o hop => ?_) ?_
            rotate_left
            · injection hop with hop
              subst hop
              refine ⟨rfl, fun W hW => ?_⟩
              obtain ⟨s0, s1⟩ := hW
              go_simp
              first
              | rfl
              | (constructor <;> rfl)
              | rw [if_neg (by omega)]
            try simp only [Act.put, List.setIfInBounds_toArray, List.set_cons_zero, List.set_cons_succ]
            refine wpAnyD_takeAt 12 (some 122) (v := ?_) rfl (by kernel_rfl) (by kernel_rfl) (by kernel_rfl) (by kernel_rfl) (by kernel_rfl) (fun _ _ _ h => h) (by exact ⟨up_cell hbz k0.out, up_cell hbz k1.out⟩) (fun o hop => ?_) ?_
            rotate_left
            · injection hop with hop
              subst hop
              refine ⟨rfl, fun W hW => ?_⟩
              obtain ⟨s0, s1⟩ := hW
              go_simp
              first
              | rfl
              | (constructor <;> rfl)
              | rw [if_neg (by omega)]
            try simp only [Act.put, List.setIfInBounds_toArray, List.set_cons_zero, List.set_cons_succ]
            refine wpAnyT_one (i := 13) (by kernel_rfl) rfl rfl (fun K' hK => ?_)
            go_simp
            refine hK.out _ _ (fun _ => by exact ⟨up_cell (hbz.trans ((below_al _ _).mono hbz.size)) k0.out, up_cell (hbz.trans ((below_al _ _).mono hbz.size)) k1.out⟩) ?_
            clear hK K'
            obtain ⟨D, hD⟩ : ∃ x, x = z5.heap.size := ⟨_, rfl⟩
            rw [← hD]
            refine wpAnyT_letter (fun W => Below wc.heap.size wc W ∧ W.heap[D]? = some (.cells zero2 25 (0, 0)) ∧ wc.heap.size ≤ D ∧ GR W 4609434218613702656 4619567317775286272 4593671619917905920 (atWorkS l gB) (nm rB) ((md.drop k).zip (dr.drop k)) (n - k) L r (.slice ga L gc) (.slice ta (n - k) tc)) ⟨hbz.trans ((below_al _ _).mono hbz.size), (by rw [hD]; exact alloc_new _ _), (by rw [hD]; exact hbz.size), hgr.keep (KeepE.alloc _ _ _)⟩ ?_
            clear hbz hgr hD
            rintro z6 ⟨hbz, hzd, hsd, hgr⟩
            have y0 : z6.cell? ⟨D, 0, none⟩ = some (.float .f64 0) := (cells_at hzd 0).trans rfl
            have y1 : z6.cell? ⟨D, 1, none⟩ = some (.slice none 0 0) := (cells_at hzd 1).trans rfl
            have t0 := frozen_no hzd 0
            have t1 := frozen_no hzd 1
            refine wpAnyT_one (i := 14) (by kernel_rfl) rfl rfl (fun K' hK => ?_)
            go_simp
            have hfin : Below wc.heap.size wc ((z6.setCell ⟨D, 0, none⟩ (.float .f64 r)).setCell ⟨D, 1, none⟩ (.slice ga L gc)) ∧ ((z6.setCell ⟨D, 0, none⟩ (.float .f64 r)).setCell ⟨D, 1, none⟩ (.slice ga L gc)).heap[D]? = some (.cells #[.float .f64 r, .slice ga L gc] 25 (0, 0)) ∧ GR ((z6.setCell ⟨D, 0, none⟩ (.float .f64 r)).setCell ⟨D, 1, none⟩ (.slice ga L gc)) 4609434218613702656 4619567317775286272 4593671619917905920 (atWorkS l gB) (nm rB) ((md.drop k).zip (dr.drop k)) (n - k) L r (.slice ga L gc) (.slice ta (n - k) tc) := ⟨(hbz.setCell (p := ⟨D, 0, none⟩) hsd _).setCell (p := ⟨D, 1, none⟩) hsd _, (set_any (set_any hzd 0 _) 1 _).trans (congrArg (fun c => some (Obj.cells c 25 (0, 0))) (set2 _ _ _ _)), hgr.keep ((keep_set hzd 0 _).trans (keep_set (set_any hzd 0 _) 1 _))⟩
            refine hK.out _ _ (fun _ => by exact ⟨up_cell hfin.1 k0.out, up_cell hfin.1 k1.out⟩) ?_
            clear hK K' y0 y1 t0 t1
            refine wpAnyT_letter (fun W => Below wc.heap.size wc W ∧ W.heap[D]? = some (.cells #[.float .f64 r, .slice ga L gc] 25 (0, 0)) ∧ GR W 4609434218613702656 4619567317775286272 4593671619917905920 (atWorkS l gB) (nm rB) ((md.drop k).zip (dr.drop k)) (n - k) L r (.slice ga L gc) (.slice ta (n - k) tc)) hfin ?_
            clear hfin hbz hzd hgr hsd
            rintro zf hfin
            refine wpAnyT_one (i := 15) (by kernel_rfl) rfl rfl (fun K' hK => ?_)
            go_simp
            refine hK.out _ _ (fun _ => by exact ⟨up_cell hfin.1 k0.out, up_cell hfin.1 k1.out⟩) ?_
            clear hK K'
            refine wpAnyT_one (i := 16) (by kernel_rfl) rfl rfl (fun K' hK => ?_)
            go_simp
            refine hK.out _ _ (fun h => absurd rfl h) ?_
            clear hK K'
            refine wpAnyT_done (by kernel_rfl) ?_ _
            have HFIN := hide' hfin
            clear hfin
            go_wp2_with fail
            go_meet
            case rel => exact ⟨D, r, ga, gc, ta, tc, rfl, rfl, rfl, HFIN⟩
          · go_simp
            refine hK.out _ _ (fun _ => by exact ⟨up_cell (hbz.trans ((below_al _ _).mono hbz.size)) k0.out, up_cell (hbz.trans ((below_al _ _).mono hbz.size)) k1.out⟩) ?_
            clear hK K'
            obtain ⟨D, hD⟩ : ∃ x, x = z0.heap.size := ⟨_, rfl⟩
            rw [← hD]
            refine wpAnyT_letter (fun W => Below wc.heap.size wc W ∧ W.heap[D]? = some (.cells zero2 25 (0, 0)) ∧ wc.heap.size ≤ D) ⟨hbz.trans ((below_al _ _).mono hbz.size), (by rw [hD]; exact alloc_new _ _), (by rw [hD]; exact hbz.size)⟩ ?_
            clear hbz  hD
            rintro z7 ⟨hbz, hzd, hsd⟩
            refine wpAnyT_one (i := 8) (by kernel_rfl) rfl rfl (fun K' hK => ?_)
            go_simp
            go_at_call 8
            refine (Run_good rB 4609434218613702656 4619567317775286272 4593671619917905920 (md.drop k) (dr.drop k) l gB (n - k) L (.slice amR (n - k) (cm - k)) (.slice adR (n - k) (cd - k)) (.slice oa L oc) (.slice gaB L gcB) z7 (FR.out.1.below hbz (Nat.le_refl _)) (FR.out.2.below hbz (Nat.le_refl _)) (FD.out.2.2.1.below hbz (Nat.le_refl _)) (FD.out.2.2.2.1.below hbz (Nat.le_refl _)) (by rw [List.length_drop, HLM.out.1]) (by rw [List.length_drop, HLM.out.2]) HLL.out HLG.out HNK.out hl6).mono ?_
            rintro e z8 ⟨r, ga, gc, ta, tc, rfl, hgr, hb2⟩
            replace hzd := blk_up hzd hb2
            replace hbz := hbz.trans (hb2.mono hbz.size)
            clear hb2
            refine hK.out _ _ (fun _ => by exact ⟨up_cell hbz k0.out, up_cell hbz k1.out⟩) ?_
            clear hK K'
            refine wpAnyD_takeAt 9 (some 110) (v := ?_) rfl (by kernel_rfl) (by kernel_rfl) (by kernel_rfl) (by kernel_rfl) (by kernel_rfl) (fun _ _ _ h => h) (by exact ⟨up_cell hbz k0.out, up_cell hbz k1.out⟩) (fun o hop => ?_) ?_
            rotate_left
            · injection hop with hop
              subst hop
              refine ⟨rfl, fun W hW => ?_⟩
              obtain ⟨s0, s1⟩ := hW
              go_simp
              first
              | rfl
              | (constructor <;> rfl)
              | rw [if_neg (by omega)]
            try simp only [Act.put, List.setIfInBounds_toArray, List.set_cons_zero, List.set_cons_succ]
            refine wpAnyD_takeAt 10 (some 120) (v := ?_) rfl (by kernel_rfl) (by kernel_rfl) (by kernel_rfl) (by kernel_rfl) (by kernel_rfl) (fun _ _ _ h => h) (by exact ⟨up_cell hbz k0.out, up_cell hbz k1.out⟩) (fun o hop => ?_) ?_
            rotate_left
            · injection hop with hop
              subst hop
              refine ⟨rfl, fun W hW => ?_⟩
              obtain ⟨s0, s1⟩ := hW
              go_simp
              first
              | rfl
              | (constructor <;> rfl)
              | rw [if_neg (by omega)]
            try simp only [Act.put, List.setIfInBounds_toArray, List.set_cons_zero, List.set_cons_succ]
            refine wpAnyD_takeAt 11 (some 121) (v := ?_) rfl (by kernel_rfl) (by kernel_rfl) (by kernel_rfl) (by kernel_rfl) (by kernel_rfl) (fun _ _ _ h => h) (by exact ⟨up_cell hbz k0.out, up_cell hbz k1.out⟩) (fun o hop => ?_) ?_
            rotate_left
            · injection hop with hop
              subst hop
              refine ⟨rfl, fun W hW => ?_⟩
              obtain ⟨s0, s1⟩ := hW
              go_simp
              first
              | rfl
              | (constructor <;> rfl)
              | rw [if_neg (by omega)]
            try simp only [Act.put, List.setIfInBounds_toArray, List.set_cons_zero, List.set_cons_succ]
            refine wpAnyD_takeAt 12 (some 122) (v := ?_) rfl (by kernel_rfl) (by kernel_rfl) (by kernel_rfl) (by kernel_rfl) (by kernel_rfl) (fun _ _ _ h => h) (by exact ⟨up_cell hbz k0.out, up_cell hbz k1.out⟩) (fun o hop => ?_) ?_
            rotate_left
            · injection hop with hop
              subst hop
              refine ⟨rfl, fun W hW => ?_⟩
              obtain ⟨s0, s1⟩ := hW
              go_simp
              first
              | rfl
              | (constructor <;> rfl)
              | rw [if_neg (by omega)]
            try simp only [Act.put, List.setIfInBounds_toArray, List.set_cons_zero, List.set_cons_succ]
            have y0 : z8.cell? ⟨D, 0, none⟩ = some (.float .f64 0) := (cells_at hzd 0).trans rfl
            have y1 : z8.cell? ⟨D, 1, none⟩ = some (.slice none 0 0) := (cells_at hzd 1).trans rfl
            have t0 := frozen_no hzd 0
            have t1 := frozen_no hzd 1
            refine wpAnyT_one (i := 14) (by kernel_rfl) rfl rfl (fun K' hK => ?_)
            go_simp
            have hfin : Below wc.heap.size wc ((z8.setCell ⟨D, 0, none⟩ (.float .f64 r)).setCell ⟨D, 1, none⟩ (.slice ga L gc)) ∧ ((z8.setCell ⟨D, 0, none⟩ (.float .f64 r)).setCell ⟨D, 1, none⟩ (.slice ga L gc)).heap[D]? = some (.cells #[.float .f64 r, .slice ga L gc] 25 (0, 0)) ∧ GR ((z8.setCell ⟨D, 0, none⟩ (.float .f64 r)).setCell ⟨D, 1, none⟩ (.slice ga L gc)) 4609434218613702656 4619567317775286272 4593671619917905920 (atWorkS l gB) (nm rB) ((md.drop k).zip (dr.drop k)) (n - k) L r (.slice ga L gc) (.slice ta (n - k) tc) := ⟨(hbz.setCell (p := ⟨D, 0, none⟩) hsd _).setCell (p := ⟨D, 1, none⟩) hsd _, (set_any (set_any hzd 0 _) 1 _).trans (congrArg (fun c => some (Obj.cells c 25 (0, 0))) (set2 _ _ _ _)), hgr.keep ((keep_set hzd 0 _).trans (keep_set (set_any hzd 0 _) 1 _))⟩
            refine hK.out _ _ (fun _ => by exact ⟨up_cell hfin.1 k0.out, up_cell hfin.1 k1.out⟩) ?_
            clear hK K' y0 y1 t0 t1
            refine wpAnyT_letter (fun W => Below wc.heap.size wc W ∧ W.heap[D]? = some (.cells #[.float .f64 r, .slice ga L gc] 25 (0, 0)) ∧ GR W 4609434218613702656 4619567317775286272 4593671619917905920 (atWorkS l gB) (nm rB) ((md.drop k).zip (dr.drop k)) (n - k) L r (.slice ga L gc) (.slice ta (n - k) tc)) hfin ?_
            clear hfin hbz hzd hgr hsd
            rintro zf hfin
            refine wpAnyT_one (i := 15) (by kernel_rfl) rfl rfl (fun K' hK => ?_)
            go_simp
            refine hK.out _ _ (fun _ => by exact ⟨up_cell hfin.1 k0.out, up_cell hfin.1 k1.out⟩) ?_
            clear hK K'
            refine wpAnyT_one (i := 16) (by kernel_rfl) rfl rfl (fun K' hK => ?_)
            go_simp
            refine hK.out _ _ (fun h => absurd rfl h) ?_
            clear hK K'
            refine wpAnyT_done (by kernel_rfl) ?_ _
            have HFIN := hide' hfin
            clear hfin
            go_wp2_with fail
            go_meet
            case rel => exact ⟨D, r, ga, gc, ta, tc, rfl, rfl, rfl, HFIN⟩
        case rest =>
          obtain ⟨D2, rC, gaC, gcC, taC, tcC, rfl, rfl, rfl, HE⟩ := hcut
          obtain ⟨cu1, cu2, cu3⟩ := cut_all (nm 4609434218613702656) (nm 4619567317775286272) (nm 4593671619917905920) (nm F) (atWorkS l (List.replicate L false)) l (atWork_pair l _ (by rw [List.length_replicate, HLL.out])) md dr n k hk gB (nm rB) HGB.out HD.out.2.2.1
          obtain ⟨gA, hgA⟩ : ∃ x, x = (runS (nm 4609434218613702656) (nm 4619567317775286272) (nm 4593671619917905920) (atWorkS l (List.replicate L false)) (nm F) (md.zip dr) n).1.map StM.gone := ⟨_, rfl⟩
          have HBE := HD.out.1.trans (HE.out.1.mono HD.out.1.size)
          obtain ⟨a1, a2, tlA, a3, a4⟩ := F0.out.2.2.2.2.2.2.2.keep (KeepE.below HBE (Nat.le_refl _))
          obtain ⟨b1, b2, tlB, b3, b4⟩ := HD.out.2.2.keep (KeepE.below HE.out.1 (Nat.le_refl _))
          obtain ⟨c1, c2, tlC, c3, c4⟩ := HE.out.2.2
          rw [cu1] at c1 c2
          rw [← HGB.out] at b2
          rw [← hgA] at a2 c2 cu3
          rw [cu2, ← b4, ← c4, ← List.map_append] at a4
          have HFE : Hid (wc.heap[A]? = some (.cells #[.float .f64 rA, .slice gaA L gcA] 25 (0, 0)) ∧ wc.heap[D1]? = some (.cells #[.float .f64 rB, .slice gaB L gcB] 25 (0, 0)) ∧ wc.heap[D2]? = some (.cells #[.float .f64 rC, .slice gaC L gcC] 25 (0, 0)) ∧ RowAt wc (.slice gaA L gcA) L 1 (gA.map Value.bool) ∧ RowAt wc (.slice gaB L gcB) L 1 (gB.map Value.bool) ∧ RowAt wc (.slice gaC L gcC) L 1 (gA.map Value.bool) ∧ Below w.heap.size w wc) := ⟨blk_up F0.out.2.2.2.2.2.2.1 HBE, blk_up HD.out.2.1 HE.out.1, HE.out.2.1, rowAt_of_own a2, rowAt_of_own b2, rowAt_of_own c2, F0.out.2.2.2.2.2.1.trans (HBE.mono F0.out.2.2.2.2.2.1.size)⟩
          have HRB := hide' (rowAt_of_own b3)
          have HRC := hide' (rowAt_of_own c3)
          have HRA := hide' (rowAt_of_own a3)
          have HA4 := hide' a4
          have HNM : Hid (nm rA = nm rC) := a1.trans c1.symm
          have HKP := hide' cu3
          have F50 := HC.out.1
          clear cu1 cu2 cu3 a1 a2 a3 a4 b1 b2 b3 b4 c1 c2 c3 c4 hgA HGB HD HE F0 FD FR hsm3 hsd3 HBE HLG HNK hsm F1 F2
          go_wp2_with (at_builtin; refine wpList_unguard (by first | rfl | go_simp) ?_; refine wpList_append_any _ rfl _ _ 26 rfl wc.heap.size 22 i22 (.float .f64 0) 1 8 Try.underlying26 hi22 h220 h221 h222 rfl (by decide) _ _ _ rfl (World.ownsRow_nil _ _ _ _) _ _ _ rfl HRB.out (fls_one tlB) (by unfold maxLen; omega) (by omega) (Nat.le_refl _) ?_; intro v1 wd hown1 hgrow1; refine Still.go ?_)
          unfold Still
          have hbd : Below wc.heap.size wc wd := (Below.refl _ wc).grown hgrow1 (Nat.le_refl _) (fun k e => by cases e)
          rw [Nat.zero_add, List.nil_append] at hown1
          have HBD := hide' hbd
          have HO1 := hide' hown1
          have HRC2 := hide' (HRC.out.below hbd (Nat.le_refl _))
          clear hbd hown1 hgrow1 HRB HRC
          go_wp2_with (at_builtin; refine wpList_unguard (by first | rfl | go_simp) ?_; refine wpList_append_any _ rfl _ _ 26 rfl wc.heap.size 22 i22 (.float .f64 0) 1 8 Try.underlying26 hi22 h220 h221 h222 rfl (by decide) _ _ _ rfl HO1.out _ _ _ rfl HRC2.out (fls_one tlC) (by unfold maxLen; omega) (by omega) HBD.out.size ?_; intro v2 we hown2 hgrow2; refine Still.go ?_)
          unfold Still
          have hbe : Below wc.heap.size wc we := HBD.out.grown hgrow2 HBD.out.size (own_at HO1.out)
          have hrow2 : RowAt we v2 n 1 (fls (tlB ++ tlC)) := by
            have h := rowAt_of_own hown2
            rw [Nat.add_sub_cancel' hk] at h
            unfold fls
            rw [List.map_append]
            exact h
          have HSA := hide' (same_any tlA (tlB ++ tlC) n (.slice taA n tcA) v2 we (HRA.out.below hbe (Nat.le_refl _)) hrow2 HA4.out (by omega))
          have HBX := hide' hbe
          clear hrow2 hown2 hgrow2 hbe HBD HO1 HRC2 HRA HA4
          go_wp2_with fail
          refine HSA.out.mono ?_
          rintro e wf ⟨rfl, hbf⟩
          have HFF : Hid (wf.heap[A]? = some (.cells #[.float .f64 rA, .slice gaA L gcA] 25 (0, 0)) ∧ wf.heap[D1]? = some (.cells #[.float .f64 rB, .slice gaB L gcB] 25 (0, 0)) ∧ wf.heap[D2]? = some (.cells #[.float .f64 rC, .slice gaC L gcC] 25 (0, 0)) ∧ RowAt wf (.slice gaA L gcA) L 1 (gA.map Value.bool) ∧ RowAt wf (.slice gaB L gcB) L 1 (gB.map Value.bool) ∧ RowAt wf (.slice gaC L gcC) L 1 (gA.map Value.bool) ∧ Below w.heap.size w wf) := by
            have hb := HBX.out.trans (hbf.mono HBX.out.size)
            obtain ⟨e1, e2, e3, e4, e5, e6, e7⟩ := HFE.out
            exact ⟨blk_up e1 hb, blk_up e2 hb, blk_up e3 hb, e4.below hb (Nat.le_refl _), e5.below hb (Nat.le_refl _), e6.below hb (Nat.le_refl _), e7.trans (hb.mono e7.size)⟩
          have x0 : wf.cell? ⟨A, 0, none⟩ = some (.float .f64 rA) := (cells_at HFF.out.1 0).trans rfl
          have x2 : ∀ o, (wf.alloc o).cell? ⟨D2, 0, none⟩ = some (.float .f64 rC) := fun o => up_cell (below_al wf o) ((cells_at HFF.out.2.2.1 0).trans rfl)
          clear hbf HBX HFE HSA
          go_wp2_with fail
          refine (same_any [rA] [rC] 1 _ _ _ ((row_one wf (.float .f64 rA) 22).below (below_al _ _) (Nat.le_refl _)) (row_one' _ (.float .f64 rC) 22 _ (by simp)) (by show [nm rA] = [nm rC]; rw [HNM.out]) (by omega)).mono ?_
          rintro e wg ⟨rfl, hbg⟩
          have HGG : Hid (wg.heap[A]? = some (.cells #[.float .f64 rA, .slice gaA L gcA] 25 (0, 0)) ∧ wg.heap[D1]? = some (.cells #[.float .f64 rB, .slice gaB L gcB] 25 (0, 0)) ∧ wg.heap[D2]? = some (.cells #[.float .f64 rC, .slice gaC L gcC] 25 (0, 0)) ∧ RowAt wg (.slice gaA L gcA) L 1 (gA.map Value.bool) ∧ RowAt wg (.slice gaB L gcB) L 1 (gB.map Value.bool) ∧ RowAt wg (.slice gaC L gcC) L 1 (gA.map Value.bool) ∧ Below w.heap.size w wg) := by
            have h1 := below_al wf (.cells #[.float .f64 rA] 22)
            have h2 := h1.trans ((below_al (wf.alloc (.cells #[.float .f64 rA] 22)) (.cells #[.float .f64 rC] 22)).mono h1.size)
            have hb := h2.trans (hbg.mono h2.size)
            obtain ⟨e1, e2, e3, e4, e5, e6, e7⟩ := HFF.out
            exact ⟨blk_up e1 hb, blk_up e2 hb, blk_up e3 hb, e4.below hb (Nat.le_refl _), e5.below hb (Nat.le_refl _), e6.below hb (Nat.le_refl _), e7.trans (hb.mono e7.size)⟩
          clear hbg HFF HNM x0 x2
          have x1 : wg.cell? ⟨A, 1, none⟩ = some (.slice gaA L gcA) := (cells_at HGG.out.1 1).trans rfl
          have x2 : wg.cell? ⟨D1, 1, none⟩ = some (.slice gaB L gcB) := (cells_at HGG.out.2.1 1).trans rfl
          have x3 : wg.cell? ⟨D2, 1, none⟩ = some (.slice gaC L gcC) := (cells_at HGG.out.2.2.1 1).trans rfl
          go_upto_block 2 with fail
          clear x1 x2 x3
          go_wp2_with fail
          go_loopw [26] (fun i wr => ∃ (j : Nat), i = .int .i64 j ∧ j ≤ L ∧ Hid (Below wg.heap.size wg wr)) (fun i _ => L - (intOf i).toNat)
          case atStart => exact ⟨0, rfl, Nat.zero_le _, Below.refl _ wg⟩
          case round =>
            obtain ⟨j, rfl, hj, HBR⟩ := hrel
            by_cases hlt : j < L
            · have x1 : wr.cell? ⟨A, 1, none⟩ = some (.slice gaA L gcA) := up_cell HBR.out ((cells_at HGG.out.1 1).trans rfl)
              have x2 : wr.cell? ⟨D1, 1, none⟩ = some (.slice gaB L gcB) := up_cell HBR.out ((cells_at HGG.out.2.1 1).trans rfl)
              have x3 : wr.cell? ⟨D2, 1, none⟩ = some (.slice gaC L gcC) := up_cell HBR.out ((cells_at HGG.out.2.2.1 1).trans rfl)
              obtain ⟨bA, oA, cA, exA, hcA⟩ := bool_cell2 HGG.out.2.2.2.1 j hlt
              obtain ⟨bB, oB, cB, exB, hcB⟩ := bool_cell2 HGG.out.2.2.2.2.1 j hlt
              obtain ⟨bC, oC, cC, exC, hcC⟩ := bool_cell2 HGG.out.2.2.2.2.2.1 j hlt
              rw [exA] at x1
              rw [exB] at x2
              rw [exC] at x3
              have d1 := up_cell HBR.out hcA
              have d2 := up_cell HBR.out hcB
              have d3 := up_cell HBR.out hcC
              have hyx := HKP.out j
              obtain ⟨x, hx⟩ : ∃ x, x = gA.getD j false := ⟨_, rfl⟩
              obtain ⟨y, hy⟩ : ∃ y, y = gB.getD j false := ⟨_, rfl⟩
              rw [← hx] at d1 d3 hyx
              rw [← hy] at d2 hyx
              have HBD : Hid (∀ m, Below wg.heap.size wg (wr.drewN m)) := fun m => below_drewN HBR.out m
              clear hx hy exA exB exC hcA hcB hcC HBR
              cases x <;> cases y
              case false.true => exact absurd (hyx rfl) (by decide)
              all_goals
                clear hyx
                go_wp2_with fail
                go_quiet (fail)
                go_wp2
                go_roundw
                case rel => exact ⟨j + 1, by go_num, by omega, HBD.out _⟩
                case measure => simp [intOf]; omega
            · go_wp2
              go_ret
              exact ⟨rfl, HGG.out.2.2.2.2.2.2.trans (HBR.out.mono HGG.out.2.2.2.2.2.2.size)⟩
end Go.Proofs.Ytligmokepafnbaj
