/- The best schedule, in the document's answer. -/
import Derived.Test.YtlbeecjkfakkpagCh
namespace Go.Proofs.Ytlbeecjkfakkpag
open Go.RowKit Go.Shelf

def BoxAt (W : World) (P : Nat) (a : Value) (c : Int) (b : Value) : Prop := W.cell? ⟨P, 0, none⟩ = some a ∧ W.cell? ⟨P, 1, none⟩ = some (.int .i64 c) ∧ W.cell? ⟨P, 2, none⟩ = some b
theorem BoxAt.of {W : World} {P : Nat} {a b : Value} {c : Int} (h : W.heap[P]? = some (.cells #[a, .int .i64 c, b] 76 (0, 0))) : BoxAt W P a c b := by
  refine ⟨?_, ?_, ?_⟩ <;> simp [World.cell?, h]
theorem box_set3 {W : World} {P : Nat} {a0 b0 c0 : Value} (h : W.heap[P]? = some (.cells #[a0, b0, c0] 76 (0, 0))) (a : Value) (c : Int) (b : Value) (W' : World) (hW : W' = ((W.setCell ⟨P, 0, none⟩ a).setCell ⟨P, 1, none⟩ (.int .i64 c)).setCell ⟨P, 2, none⟩ b) :
    W'.heap[P]? = some (.cells #[a, .int .i64 c, b] 76 (0, 0)) ∧ KeepE 76 W W' ∧ ∀ X, X ≤ P → Below X W W' := by
  have g1 := set_any h 0 a
  have g2 := set_any g1 1 (.int .i64 c)
  have g3 := set_any g2 2 b
  refine ⟨by rw [hW, g3]; rfl, by rw [hW]; exact (KeepE.set h _ _).trans ((KeepE.set g1 _ _).trans (KeepE.set g2 _ _)), fun X hX => ?_⟩
  rw [hW]
  exact ((Only.set P _ _ W).below hX).trans (((Only.set P _ _ _).below hX).trans ((Only.set P _ _ _).below hX))
theorem rows_one {w : World} {vs : List Value} {l : List (List Bool)} (h : RowsO w vs l) : ∀ u ∈ vs, u.oneCell' = true := by
  intro u hu
  obtain ⟨i, hi, rfl⟩ := List.getElem_of_mem hu
  obtain ⟨x, hx, ho⟩ := h.2 i _ (List.getElem?_eq_getElem (by rw [← h.1]; exact hi))
  rw [List.getElem?_eq_getElem hi] at hx
  cases hx
  obtain ⟨a, c, e⟩ := own_slice ho
  rw [e]; rfl
theorem one_news {w : World} {P : Nat} {u : Value} (h : w.cell? ⟨P, 0, none⟩ = some u) : ∀ j v, [u][j]? = some v → w.cell? ((⟨P, 0, none⟩ : Addr).add j) = some v := fun j v hj => by
  cases j with
  | zero => cases hj; rw [add_zero_off]; exact h
  | succ j => cases hj
theorem signs_more {X W : World} {a : Option Addr} {k n c : Nat} {vs : List Value} {l : List (List Bool)} {r : List Bool} {v : Value} (hv : RowsO X vs l) (hr : BoolsO X v r) (hl : l.length = k) (hk : KeepE 76 X W) (ho : W.ownsRow n 23 1 (.slice a (k + 1) c) (k + 1) (vs ++ [v])) : SignsO W (.slice a (k + 1) c) (l ++ [r]) :=
  ⟨vs ++ [v], by rw [List.length_append, List.length_singleton, hl]; exact own_base ho (Nat.zero_le _), (hv.keep hk (by decide)).snoc (own_keep hr hk (by decide))⟩
set_option maxRecDepth 100000 in
set_option maxHeartbeats 8000000 in
theorem Cheapest_any (us : List UnitM) (need spare : List Int) (lv nv sv : Value) (w : World) (hx : UnitsAt w lv us) (hn : RowAt w nv need.length 1 (ints need)) (hs : RowAt w sv spare.length 1 (ints spare)) :
    Calls Try.prog 18 #[lv, nv, sv] w (BestOut us need spare w) := by
  obtain ⟨i5, hi5, hs0, hs1, hs2⟩ := info_parts Try.info23
  have HC := hide' (scheduleMay_any us need spare lv nv sv w hx hn hs)
  have HG := hide' hx
  have HN := hide' hn
  have HS := hide' hs
  obtain ⟨ag, cg, rfl⟩ := rowAt_slice hx
  obtain ⟨an, cn, rfl⟩ := rowAt_slice hn
  obtain ⟨as', cs, rfl⟩ := rowAt_slice hs
  clear hx hn hs
  go_enter Try.func18, Try.ntmps18
  go_wp2_with fail
  refine HC.out.mono ?_
  rintro e w1 ⟨rfl, hb1⟩
  have HB1 := hide' hb1
  clear hb1 HC
  by_cases hz : schedC us need spare = 0
  · have HZ := hide' hz
    obtain ⟨hsz, hmay, hrn, hrs⟩ := schedC_zero hz
    have h4 := hsz.1
    have h8 := hsz.2.1
    have HLS := hide' hsz.2.2
    have HM := hide' hmay
    have HRN := hide' hrn
    have HRS := hide' hrs
    have HST := hide' (staysOf_any us (.slice ag us.length cg) w1 (HG.out.below HB1.out (Nat.le_refl _)) h4)
    rw [hz]
    clear hz hsz hmay hrn hrs
    go_wp2_with fail
    refine HST.out.mono ?_
    rintro e w2 ⟨tv, rfl, hown, hb2⟩
    obtain ⟨at', ct, rfl⟩ := own_slice hown
    obtain ⟨W3, hW3⟩ : ∃ x, x = w2.alloc (.cells #[.slice at' us.length ct, .int .i64 0, .slice none 0 0] 76) := ⟨_, rfl⟩
    have HB3 : Hid (Below w2.heap.size w2 W3) := by rw [hW3]; exact (Below.refl _ w2).alloc (Nat.le_refl _) _
    have HNOW0 : Hid (StepsO W3 0 (.slice (some ⟨w2.heap.size, 0, none⟩) 1 1) [(.slice at' us.length ct, 0, .slice none 0 0)] (dpK us need spare 0)) := by
      refine ⟨rfl, by rw [hW3]; exact own_new w2 [.slice at' us.length ct, .int .i64 0, .slice none 0 0] 76 1 3 0 rfl (by unfold maxLen; omega) (Nat.zero_le _), fun i s hs => ?_⟩
      cases i with
      | zero =>
        cases hs
        refine ⟨_, rfl, ⟨rfl, ?_, ⟨[], World.ownsRow_nil _ _ _ _, rfl, fun i b h => by cases h⟩⟩⟩
        have h1 := own_below (own_base hown (Nat.zero_le _)) HB3.out (Nat.le_refl _)
        rw [IntsO, (staysL_spec us).1]
        exact h1
      | succ i => cases hs
    have HBE3 : Hid (Below w.heap.size w W3) := (HB1.out.trans (hb2.mono HB1.out.size)).trans (HB3.out.mono (Nat.le_trans HB1.out.size hb2.size))
    have HW3 := hide' hW3
    clear hown hb2 HST hW3 HB3 HB1
    go_wp2_with fail
    rw [← HW3.out]
    refine (setsOf_any us.length W3 h4).mono ?_
    rintro e w3 ⟨sv, rfl, hsets, hb3⟩
    have HSE := hide' hsets
    obtain ⟨ase, cse, rfl⟩ := hsets.at'.slice
    have HNOW := hide' (HNOW0.out.below hb3 (Nat.le_refl _))
    have HBE := hide' (HBE3.out.trans (hb3.mono HBE3.out.size))
    have hl16 : (setsL us.length).length ≤ 16 := sets16 h4
    have HLM : Hid (∀ r ∈ setsL us.length, r.length = us.length) := fun r hr => (setsL_mem _ r).1 hr
    obtain ⟨L, hL⟩ : ∃ L, L = setsL us.length := ⟨_, rfl⟩
    have HL := hide' hL
    rw [← hL] at HSE hl16 HLM ⊢
    clear hsets hb3 HNOW0 HBE3 HW3 hL
    go_wp2_with fail
    go_loopw [10, 12] (fun nv hv W => ∃ (h : Nat) (xs : List SV), hv = .int .i64 h ∧ h ≤ need.length ∧ Hid (StepsO W 0 nv xs (dpK us need spare h)) ∧ Hid (SignsO W (.slice ase L.length cse) L) ∧ Hid (Below w.heap.size w W)) (fun _ hv _ => need.length - (intOf hv).toNat)
    case atStart => exact ⟨0, _, rfl, Nat.zero_le _, HNOW, HSE, HBE⟩
    case round =>
      clear HNOW HSE HBE
      obtain ⟨h, xs, rfl, hh, HNOW, HSE, HBE⟩ := hrel
      by_cases hlt : h < need.length
      · have HWAY := hide' ((dpK_inv HM.out h4 (need := need) (spare := spare) h).1)
        have hNl : (dpK us need spare h).length ≤ 4294967296 := Nat.le_trans (dpK_len h4 need spare h) (pow16 (by omega))
        have HDP : Hid (dpK us need spare (h + 1) = hourF us (need.getD h 0) (spare.getD h 0) L (dpK us need spare h) []) := by show _ = _; rw [HL.out]; rfl
        have HAI : Hid (∀ (N' : List StepM), (∀ x ∈ N', Way us need spare h x) → ∀ s ∈ hourF us (need.getD h 0) (spare.getD h 0) L N' [], Way us need spare (h + 1) s) := fun N' hN' => by
          have := (hourF_inv HM.out h4 N' [] hN' (fun s hs => absurd hs List.not_mem_nil)).1
          rw [← HL.out] at this
          exact this
        obtain ⟨N, hN⟩ : ∃ N, N = dpK us need spare h := ⟨_, rfl⟩
        rw [← hN] at HNOW HWAY hNl HDP
        obtain ⟨ad, cd, rfl⟩ := own_slice HNOW.out.own
        obtain ⟨bd, od, cd', exd, hcd⟩ := ints_cell2 HN.out h hlt
        cases exd
        obtain ⟨bp, op, cp', exp, hcp⟩ := ints_cell2 HS.out h (by rw [HLS.out]; exact hlt)
        cases exp
        have hnk := HRN.out h hlt
        have hsk := HRS.out h (by rw [HLS.out]; exact hlt)
        obtain ⟨nk, hnk'⟩ : ∃ x, x = need.getD h 0 := ⟨_, rfl⟩
        obtain ⟨sk, hsk'⟩ : ∃ x, x = spare.getD h 0 := ⟨_, rfl⟩
        rw [← hnk'] at hcd hnk HDP HAI
        rw [← hsk'] at hcp hsk HDP HAI
        have HRI : Hid (∀ (x : StepM), Way us need spare h x → ∀ (rs : List (List Bool)) (acc : List StepM), (∀ r ∈ rs, r.length = us.length) → (∀ s ∈ acc, Way us need spare (h + 1) s) → ∀ s ∈ rowF us nk sk x rs acc, Way us need spare (h + 1) s) := fun x hx rs acc hr ha => by
          rw [hnk', hsk']
          exact (rowF_inv HM.out h4 hx rs acc hr ha).1
        have HEW : Hid (∀ (x s : StepM) (r : List Bool), Way us need spare h x → r.length = us.length → extend us nk sk x r = some s → Way us need spare (h + 1) s) := fun x s r hx hr he => by
          rw [hnk', hsk'] at he
          exact extend_way hx hr he
        have HCD := hide' hcd
        have HCP := hide' hcp
        have hls : h < spare.length := by rw [HLS.out]; exact hlt
        obtain ⟨wh, hwh⟩ : ∃ x, x = wr := ⟨_, rfl⟩
        rw [← hwh] at HNOW HSE HBE
        clear hN hcd hcp hnk' hsk'
        go_wp2_with fail
        go_loopw [13, 14] (fun xv kv W => ∃ (k : Nat) (xs2 : List SV), kv = .int .i64 k ∧ k ≤ N.length ∧ Hid (StepsO W wh.heap.size xv xs2 (hourF us nk sk L (N.take k) [])) ∧ Hid (Below wh.heap.size wh W)) (fun _ kv _ => N.length - (intOf kv).toNat)
        case atStart => exact ⟨0, [], rfl, Nat.zero_le _, ⟨rfl, World.ownsRow_nil _ _ _ _, fun i s hs => by cases hs⟩, by rw [← hwh]; exact Below.refl _ _⟩
        case round =>
          clear hwh
          obtain ⟨k, xs2, rfl, hk, HNX, HBW⟩ := hrel
          by_cases hkl : k < N.length
          · have HHS := hide' (hourF_snoc us nk sk L N [] k hkl)
            have hal : (hourF us nk sk L (N.take k) []).length ≤ 16 * k := by
              have := hourF_len us nk sk L hl16 (N.take k) []
              rw [List.length_take, List.length_nil] at this
              omega
            have HAW := hide' (HAI.out (N.take k) (fun x hx => HWAY.out x (List.mem_of_mem_take hx)))
            obtain ⟨x, hxk⟩ : ∃ x, x = N[k] := ⟨_, rfl⟩
            have HXK : Hid (N[k]? = some x) := by show _ = _; rw [hxk]; exact List.getElem?_eq_getElem hkl
            rw [← hxk] at HHS
            have HXW : Hid (Way us need spare h x) := HWAY.out x (List.mem_of_getElem? HXK.out)
            obtain ⟨xv, hxv, hxo⟩ := HNOW.out.each k x HXK.out
            have HXS := hide' (HXW.out.shape HM.out h4)
            have hxb := HXW.out.bound HM.out h4
            obtain ⟨aa, ca, ab, cb, rfl, hxa, hxs⟩ := hxo.parts HXS.out
            obtain ⟨bn, on', cn', exn, hbn, hct⟩ := row_elem (f := SV.cells) (fun _ => rfl) (rowAt_of_own HNOW.out.own) k (by rw [HNOW.out.len]; exact hkl) (by decide)
            cases exn
            have hxe : xs[k]'(by rw [HNOW.out.len]; exact hkl) = (.slice aa us.length ca, x.cost, .slice ab h cb) := by
              have h := hxv
              rw [List.getElem?_eq_getElem (by rw [HNOW.out.len]; exact hkl)] at h
              exact Option.some.inj h
            rw [hxe] at hct
            have HN0 := hide' (hct 0 _ rfl)
            have HN1 := hide' (hct 1 _ rfl)
            have HN2 := hide' (hct 2 _ rfl)
            rw [Nat.add_zero] at HN0
            have HXA := hide' hxa
            have HXO := hide' hxo
            obtain ⟨xc, hxc⟩ : ∃ c, c = x.cost := ⟨_, rfl⟩
            have HXC := hide' hxc
            simp only [← hxc] at HN1
            rw [← hxc] at hxb
            obtain ⟨acc0, hacc0⟩ : ∃ l, l = hourF us nk sk L (N.take k) [] := ⟨_, rfl⟩
            rw [← hacc0] at HHS hal HAW HNX
            clear hacc0 hxk hxv hxo hxa hxs hbn hct hxe hxc
            go_wp2_with fail
            go_loopw [13, 15] (fun nx jv W => ∃ (j : Nat) (xs3 : List SV), jv = .int .i64 j ∧ j ≤ L.length ∧ Hid (StepsO W wh.heap.size nx xs3 (rowF us nk sk x (L.take j) acc0)) ∧ Hid (Below wh.heap.size wh W)) (fun _ jv _ => L.length - (intOf jv).toNat)
            case atStart => exact ⟨0, xs2, rfl, Nat.zero_le _, HNX, HBW⟩
            case round =>
              clear HNX HBW
              obtain ⟨j, xs3, rfl, hj, HNX, HBW⟩ := hrel
              by_cases hjl : j < L.length
              · have HRS2 := hide' (rowF_snoc us nk sk x L acc0 j hjl)
                have hac : (rowF us nk sk x (L.take j) acc0).length ≤ 1000000000000 := by
                  have := rowF_len us nk sk x (L.take j) acc0
                  rw [List.length_take] at this
                  omega
                have HACW := hide' (HRI.out x HXW.out (L.take j) acc0 (fun r hr => HLM.out r (List.mem_of_mem_take hr)) HAW.out)
                obtain ⟨bs, os', cs', a', c', exs, hcs, hrs⟩ := HSE.out.at'.cell j hjl
                cases exs
                obtain ⟨vsL, hownL, hrowsL⟩ := HSE.out
                obtain ⟨r, hr⟩ : ∃ r, r = L[j] := ⟨_, rfl⟩
                rw [← hr] at hcs hrs HRS2
                have HRL : Hid (r.length = us.length) := HLM.out r (by rw [hr]; exact List.getElem_mem hjl)
                rw [HRL.out] at hcs hrs
                have HRB : Hid (BoolsO wh (.slice a' us.length c') r) := by
                  obtain ⟨y, hy, hyo⟩ := hrowsL.2 j r (by rw [hr]; exact List.getElem?_eq_getElem hjl)
                  have hcell := (rowAt_of_own hownL).cells j y hy
                  obtain ⟨b', o', e', hc'⟩ := hcell
                  cases e'
                  rw [hcs] at hc'
                  cases hc'
                  exact hyo
                have HROW := hide' hrs
                have HCS := hide' hcs
                obtain ⟨acc, hacc⟩ : ∃ l, l = rowF us nk sk x (L.take j) acc0 := ⟨_, rfl⟩
                rw [← hacc] at HRS2 hac HACW HNX
                have up : ∀ (b j : Nat) (u : Value), wh.cell? ⟨b, j, none⟩ = some u → wr.cell? ⟨b, j, none⟩ = some u := fun b j u h => (HBW.out.cell (World.block_lt_of_cell? wh _ h)).trans h
                have d0 := up _ _ _ HN0.out
                have d3 := up _ _ _ HCS.out
                have HBQ : Hid (Below w.heap.size w wr) := HBE.out.trans (HBW.out.mono HBE.out.size)
                have HNO := hide' (nextOf_any us x.stay r (.slice ag us.length cg) (.slice aa us.length ca) (.slice a' us.length c') wr.drew (HG.out.below HBQ.out.drew (Nat.le_refl _)) (HXA.out.below HBW.out.drew (Nat.le_refl _)) HXS.out.len HXS.out.bound (HROW.out.below HBW.out.drew (Nat.le_refl _)) HRL.out h4 HM.out)
                clear hacc hr hcs hrs hownL hrowsL up
                go_wp2_with fail
                refine wp_region_tail (fun W => W.cell? ⟨bn, on' + k * 3, none⟩ = some (.slice aa us.length ca) ∧ W.cell? ⟨bs, os' + j, none⟩ = some (.slice a' us.length c')) 17 (by kernel_rfl) ?_
                refine wpAnyD_takeAt 0 (some 56) (v := ?_) rfl (by kernel_rfl) (by kernel_rfl) (by kernel_rfl) (by kernel_rfl) (by kernel_rfl) (fun _ _ _ h => h) (by exact ⟨d0, d3⟩) (fun o hop => ?_) ?_
                rotate_left
                · injection hop with hop
                  subst hop
                  refine ⟨rfl, fun W hW => ?_⟩
                  obtain ⟨s0, s1⟩ := hW
                  go_simp
                  first
                  | rfl
                  | rw [if_neg (by omega)]
                try simp only [Act.put, List.setIfInBounds_toArray, List.set_cons_zero, List.set_cons_succ]
                refine wpAnyD_takeAt 1 (some 57) (v := ?_) rfl (by kernel_rfl) (by kernel_rfl) (by kernel_rfl) (by kernel_rfl) (by kernel_rfl) (fun _ _ _ h => h) (by exact ⟨d0, d3⟩) (fun o hop => ?_) ?_
                rotate_left
                · injection hop with hop
                  subst hop
                  refine ⟨rfl, fun W hW => ?_⟩
                  obtain ⟨s0, s1⟩ := hW
                  go_simp
                  first
                  | rfl
                  | rw [if_neg (by omega)]
                try simp only [Act.put, List.setIfInBounds_toArray, List.set_cons_zero, List.set_cons_succ]
                refine wpAnyD_takeAt 2 (some 58) (v := ?_) rfl (by kernel_rfl) (by kernel_rfl) (by kernel_rfl) (by kernel_rfl) (by kernel_rfl) (fun _ _ _ h => h) (by exact ⟨d0, d3⟩) (fun o hop => ?_) ?_
                rotate_left
                · injection hop with hop
                  subst hop
                  refine ⟨rfl, fun W hW => ?_⟩
                  obtain ⟨s0, s1⟩ := hW
                  go_simp
                  first
                  | rfl
                  | rw [if_neg (by omega)]
                try simp only [Act.put, List.setIfInBounds_toArray, List.set_cons_zero, List.set_cons_succ]
                refine wpAnyD_takeAt 3 (some 59) (v := ?_) rfl (by kernel_rfl) (by kernel_rfl) (by kernel_rfl) (by kernel_rfl) (by kernel_rfl) (fun _ _ _ h => h) (by exact ⟨d0, d3⟩) (fun o hop => ?_) ?_
                rotate_left
                · injection hop with hop
                  subst hop
                  refine ⟨rfl, fun W hW => ?_⟩
                  obtain ⟨s0, s1⟩ := hW
                  go_simp
                  first
                  | rfl
                  | rw [if_neg (by omega)]
                try simp only [Act.put, List.setIfInBounds_toArray, List.set_cons_zero, List.set_cons_succ]
                refine wpAnyD_takeAt 4 (some 60) (v := ?_) rfl (by kernel_rfl) (by kernel_rfl) (by kernel_rfl) (by kernel_rfl) (by kernel_rfl) (fun _ _ _ h => h) (by exact ⟨d0, d3⟩) (fun o hop => ?_) ?_
                rotate_left
                · injection hop with hop
                  subst hop
                  refine ⟨rfl, fun W hW => ?_⟩
                  obtain ⟨s0, s1⟩ := hW
                  go_simp
                  first
                  | rfl
                  | rw [if_neg (by omega)]
                try simp only [Act.put, List.setIfInBounds_toArray, List.set_cons_zero, List.set_cons_succ]
                refine wpAnyD_takeAt 5 (some 61) (v := ?_) rfl (by kernel_rfl) (by kernel_rfl) (by kernel_rfl) (by kernel_rfl) (by kernel_rfl) (fun _ _ _ h => h) (by exact ⟨d0, d3⟩) (fun o hop => ?_) ?_
                rotate_left
                · injection hop with hop
                  subst hop
                  refine ⟨rfl, fun W hW => ?_⟩
                  obtain ⟨s0, s1⟩ := hW
                  go_simp
                  first
                  | rfl
                  | rw [if_neg (by omega)]
                try simp only [Act.put, List.setIfInBounds_toArray, List.set_cons_zero, List.set_cons_succ]
                refine wpAnyD_takeAt 6 (some 62) (v := ?_) rfl (by kernel_rfl) (by kernel_rfl) (by kernel_rfl) (by kernel_rfl) (by kernel_rfl) (fun _ _ _ h => h) (by exact ⟨d0, d3⟩) (fun o hop => ?_) ?_
                rotate_left
                · injection hop with hop
                  subst hop
                  refine ⟨rfl, fun W hW => ?_⟩
                  obtain ⟨s0, s1⟩ := hW
                  go_simp
                  first
                  | rfl
                  | rw [if_neg (by omega)]
                try simp only [Act.put, List.setIfInBounds_toArray, List.set_cons_zero, List.set_cons_succ]
                refine wpAnyD_takeAt 7 (some 63) (v := ?_) rfl (by kernel_rfl) (by kernel_rfl) (by kernel_rfl) (by kernel_rfl) (by kernel_rfl) (fun _ _ _ h => h) (by exact ⟨d0, d3⟩) (fun o hop => ?_) ?_
                rotate_left
                · injection hop with hop
                  subst hop
                  refine ⟨rfl, fun W hW => ?_⟩
                  obtain ⟨s0, s1⟩ := hW
                  go_simp
                  first
                  | rfl
                  | rw [if_neg (by omega)]
                try simp only [Act.put, List.setIfInBounds_toArray, List.set_cons_zero, List.set_cons_succ]
                refine wpAnyD_takeAt 8 (some 64) (v := ?_) rfl (by kernel_rfl) (by kernel_rfl) (by kernel_rfl) (by kernel_rfl) (by kernel_rfl) (fun _ _ _ h => h) (by exact ⟨d0, d3⟩) (fun o hop => ?_) ?_
                rotate_left
                · injection hop with hop
                  subst hop
                  refine ⟨rfl, fun W hW => ?_⟩
                  obtain ⟨s0, s1⟩ := hW
                  go_simp
                  first
                  | rfl
                  | rw [if_neg (by omega)]
                try simp only [Act.put, List.setIfInBounds_toArray, List.set_cons_zero, List.set_cons_succ]
                refine wpAnyD_takeAt 9 (some 65) (v := ?_) rfl (by kernel_rfl) (by kernel_rfl) (by kernel_rfl) (by kernel_rfl) (by kernel_rfl) (fun _ _ _ h => h) (by exact ⟨d0, d3⟩) (fun o hop => ?_) ?_
                rotate_left
                · injection hop with hop
                  subst hop
                  refine ⟨rfl, fun W hW => ?_⟩
                  obtain ⟨s0, s1⟩ := hW
                  go_simp
                  first
                  | rfl
                  | rw [if_neg (by omega)]
                try simp only [Act.put, List.setIfInBounds_toArray, List.set_cons_zero, List.set_cons_succ]
                refine wpAnyT_one (i := 10) (by kernel_rfl) rfl rfl (fun K' hK => ?_)
                go_simp
                go_at_call 38
                refine HNO.out.mono ?_
                intro e w4 hres
                obtain ⟨a4, n4, c4, s4, b4, rfl, hb4, hcase⟩ : ∃ (a4 : Option Addr) (n4 c4 : Nat) (s4 : Int) (b4 : Bool), e = .returned (.tuple #[.slice a4 n4 c4, .int .i64 s4, .bool b4]) ∧ Below wr.drew.heap.size wr.drew w4 ∧ ((b4 = true ∧ n4 = us.length ∧ ∃ l, nextL us x.stay r = some (l, s4) ∧ IntsO w4 (.slice a4 n4 c4) l) ∨ (b4 = false ∧ nextL us x.stay r = none)) := by
                  rcases hres with ⟨l, s, v, hnl, rfl, hown, hb⟩ | ⟨hnl, rfl, hb⟩
                  · obtain ⟨a4, c4, rfl⟩ := own_slice hown
                    have hll := (nextK_spec HM.out us.length (Nat.le_refl _) l s hnl).1
                    exact ⟨a4, _, c4, s, true, rfl, hb, .inl ⟨rfl, hll, l, hnl, own_base hown (Nat.zero_le _)⟩⟩
                  · exact ⟨none, 0, 0, 0, false, rfl, hb, .inr ⟨rfl, hnl⟩⟩
                have HCA := hide' hcase
                have HB4 : Hid (Below wr.heap.size wr w4) := (Below.refl _ wr).drew.trans hb4
                have e0 := (HB4.out.cell (World.block_lt_of_cell? wr _ d0)).trans d0
                have e3 := (HB4.out.cell (World.block_lt_of_cell? wr _ d3)).trans d3
                clear hres hcase hb4 d0 d3 HNO
                refine hK.out _ _ (fun _ => by exact ⟨e0, e3⟩) ?_
                clear hK K'
                refine wpAnyT_one (i := 11) (by kernel_rfl) rfl rfl (fun K' hK => ?_)
                go_simp
                refine hK.out _ _ (fun _ => by exact ⟨e0, e3⟩) ?_
                clear hK K'
                refine wpAnyD_takeAt 12 (some 67) (v := ?_) rfl (by kernel_rfl) (by kernel_rfl) (by kernel_rfl) (by kernel_rfl) (by kernel_rfl) (fun _ _ _ h => h) (by exact ⟨e0, e3⟩) (fun o hop => ?_) ?_
                rotate_left
                · injection hop with hop
                  subst hop
                  refine ⟨rfl, fun W hW => ?_⟩
                  obtain ⟨s0, s1⟩ := hW
                  go_simp
                  first
                  | rfl
                  | rw [if_neg (by omega)]
                try simp only [Act.put, List.setIfInBounds_toArray, List.set_cons_zero, List.set_cons_succ]
                refine wpAnyD_takeAt 13 (some 68) (v := ?_) rfl (by kernel_rfl) (by kernel_rfl) (by kernel_rfl) (by kernel_rfl) (by kernel_rfl) (fun _ _ _ h => h) (by exact ⟨e0, e3⟩) (fun o hop => ?_) ?_
                rotate_left
                · injection hop with hop
                  subst hop
                  refine ⟨rfl, fun W hW => ?_⟩
                  obtain ⟨s0, s1⟩ := hW
                  go_simp
                  first
                  | rfl
                  | rw [if_neg (by omega)]
                try simp only [Act.put, List.setIfInBounds_toArray, List.set_cons_zero, List.set_cons_succ]
                refine wpAnyD_takeAt 14 (some 69) (v := ?_) rfl (by kernel_rfl) (by kernel_rfl) (by kernel_rfl) (by kernel_rfl) (by kernel_rfl) (fun _ _ _ h => h) (by exact ⟨e0, e3⟩) (fun o hop => ?_) ?_
                rotate_left
                · injection hop with hop
                  subst hop
                  refine ⟨rfl, fun W hW => ?_⟩
                  obtain ⟨s0, s1⟩ := hW
                  go_simp
                  first
                  | rfl
                  | rw [if_neg (by omega)]
                try simp only [Act.put, List.setIfInBounds_toArray, List.set_cons_zero, List.set_cons_succ]
                refine wpAnyT_one (i := 15) (by kernel_rfl) rfl rfl (fun K' hK => ?_)
                go_simp
                refine hK.out _ _ (fun _ => by exact ⟨e0, e3⟩) ?_
                clear hK K'
                refine wpAnyT_one (i := 16) (by kernel_rfl) rfl rfl (fun K' hK => ?_)
                go_simp
                refine hK.out _ _ (fun _ => by exact ⟨e0, e3⟩) ?_
                clear hK K'
                refine wpAnyT_one (i := 17) (by kernel_rfl) rfl rfl (fun K' hK => ?_)
                go_simp
                refine hK.out _ _ (fun h => absurd rfl h) ?_
                clear hK K'
                refine wpAnyT_done (by kernel_rfl) ?_ _
                cases b4 with
                | false =>
                  have HE : Hid (StepsO w4 wh.heap.size u13 xs3 (rowF us nk sk x (L.take (j + 1)) acc0)) := by
                    have hnl : nextL us x.stay r = none := by rcases HCA.out with ⟨h, _⟩ | ⟨_, h⟩; cases h; exact h
                    show StepsO _ _ _ _ _
                    rw [HRS2.out, putO_none (extend_next hnl)]
                    exact HNX.out.below HB4.out (Nat.le_refl _)
                  have HBW2 := hide' (HBW.out.trans (HB4.out.mono HBW.out.size))
                  clear e0 e3
                  go_wp2
                  go_roundw
                  case rel => exact ⟨j + 1, xs3, by go_num, by omega, HE, HBW2⟩
                  case measure => simp [intOf]; omega
                | true =>
                  obtain ⟨rfl, hnl⟩ : n4 = us.length ∧ ∃ l, nextL us x.stay r = some (l, s4) ∧ IntsO w4 (.slice a4 n4 c4) l := by rcases HCA.out with ⟨_, h⟩ | ⟨h, _⟩; exact h; cases h
                  obtain ⟨l, hnl, hil⟩ := hnl
                  have HNL := hide' hnl
                  have HIL := hide' hil
                  have hns := nextK_spec HM.out us.length (Nat.le_refl _) l s4 hnl
                  have hq0 := hns.2.2.1
                  have hq1 : s4 ≤ 4000000 := by have := hns.2.2.2; omega
                  have HBW4 := hide' (HBW.out.trans (HB4.out.mono HBW.out.size))
                  have HBQ4 : Hid (Below w.heap.size w w4) := HBE.out.trans (HBW4.out.mono HBE.out.size)
                  have g1 := (HBQ4.out.cell (World.block_lt_of_cell? w _ HCD.out)).trans HCD.out
                  have g2 := (HBQ4.out.cell (World.block_lt_of_cell? w _ HCP.out)).trans HCP.out
                  clear HCA hnl hil hns e0
                  go_wp2_with fail
                  refine wp_region_tail (fun W => W.cell? ⟨bs, os' + j, none⟩ = some (.slice a' us.length c') ∧ W.cell? ⟨bd, od + h, none⟩ = some (.int .i64 nk) ∧ W.cell? ⟨bp, op + h, none⟩ = some (.int .i64 sk)) 18 (by kernel_rfl) ?_
                  refine wpAnyD_takeAt 0 (some 73) (v := ?_) rfl (by kernel_rfl) (by kernel_rfl) (by kernel_rfl) (by kernel_rfl) (by kernel_rfl) (fun _ _ _ h => h) (by exact ⟨e3, g1, g2⟩) (fun o hop => ?_) ?_
                  rotate_left
                  · injection hop with hop
                    subst hop
                    refine ⟨rfl, fun W hW => ?_⟩
                    obtain ⟨s0, s1, s2⟩ := hW
                    go_simp
                    first
                    | rfl
                    | rw [if_neg (by omega)]
                  try simp only [Act.put, List.setIfInBounds_toArray, List.set_cons_zero, List.set_cons_succ]
                  refine wpAnyD_takeAt 1 (some 74) (v := ?_) rfl (by kernel_rfl) (by kernel_rfl) (by kernel_rfl) (by kernel_rfl) (by kernel_rfl) (fun _ _ _ h => h) (by exact ⟨e3, g1, g2⟩) (fun o hop => ?_) ?_
                  rotate_left
                  · injection hop with hop
                    subst hop
                    refine ⟨rfl, fun W hW => ?_⟩
                    obtain ⟨s0, s1, s2⟩ := hW
                    go_simp
                    first
                    | rfl
                    | rw [if_neg (by omega)]
                  try simp only [Act.put, List.setIfInBounds_toArray, List.set_cons_zero, List.set_cons_succ]
                  refine wpAnyD_takeAt 2 (some 75) (v := ?_) rfl (by kernel_rfl) (by kernel_rfl) (by kernel_rfl) (by kernel_rfl) (by kernel_rfl) (fun _ _ _ h => h) (by exact ⟨e3, g1, g2⟩) (fun o hop => ?_) ?_
                  rotate_left
                  · injection hop with hop
                    subst hop
                    refine ⟨rfl, fun W hW => ?_⟩
                    obtain ⟨s0, s1, s2⟩ := hW
                    go_simp
                    first
                    | rfl
                    | rw [if_neg (by omega)]
                  try simp only [Act.put, List.setIfInBounds_toArray, List.set_cons_zero, List.set_cons_succ]
                  refine wpAnyD_takeAt 3 (some 76) (v := ?_) rfl (by kernel_rfl) (by kernel_rfl) (by kernel_rfl) (by kernel_rfl) (by kernel_rfl) (fun _ _ _ h => h) (by exact ⟨e3, g1, g2⟩) (fun o hop => ?_) ?_
                  rotate_left
                  · injection hop with hop
                    subst hop
                    refine ⟨rfl, fun W hW => ?_⟩
                    obtain ⟨s0, s1, s2⟩ := hW
                    go_simp
                    first
                    | rfl
                    | rw [if_neg (by omega)]
                  try simp only [Act.put, List.setIfInBounds_toArray, List.set_cons_zero, List.set_cons_succ]
                  refine wpAnyD_takeAt 4 (some 77) (v := ?_) rfl (by kernel_rfl) (by kernel_rfl) (by kernel_rfl) (by kernel_rfl) (by kernel_rfl) (fun _ _ _ h => h) (by exact ⟨e3, g1, g2⟩) (fun o hop => ?_) ?_
                  rotate_left
                  · injection hop with hop
                    subst hop
                    refine ⟨rfl, fun W hW => ?_⟩
                    obtain ⟨s0, s1, s2⟩ := hW
                    go_simp
                    first
                    | rfl
                    | rw [if_neg (by omega)]
                  try simp only [Act.put, List.setIfInBounds_toArray, List.set_cons_zero, List.set_cons_succ]
                  refine wpAnyD_takeAt 5 (some 78) (v := ?_) rfl (by kernel_rfl) (by kernel_rfl) (by kernel_rfl) (by kernel_rfl) (by kernel_rfl) (fun _ _ _ h => h) (by exact ⟨e3, g1, g2⟩) (fun o hop => ?_) ?_
                  rotate_left
                  · injection hop with hop
                    subst hop
                    refine ⟨rfl, fun W hW => ?_⟩
                    obtain ⟨s0, s1, s2⟩ := hW
                    go_simp
                    first
                    | rfl
                    | rw [if_neg (by omega)]
                  try simp only [Act.put, List.setIfInBounds_toArray, List.set_cons_zero, List.set_cons_succ]
                  refine wpAnyD_takeAt 6 (some 79) (v := ?_) rfl (by kernel_rfl) (by kernel_rfl) (by kernel_rfl) (by kernel_rfl) (by kernel_rfl) (fun _ _ _ h => h) (by exact ⟨e3, g1, g2⟩) (fun o hop => ?_) ?_
                  rotate_left
                  · injection hop with hop
                    subst hop
                    refine ⟨rfl, fun W hW => ?_⟩
                    obtain ⟨s0, s1, s2⟩ := hW
                    go_simp
                    first
                    | rfl
                    | rw [if_neg (by omega)]
                  try simp only [Act.put, List.setIfInBounds_toArray, List.set_cons_zero, List.set_cons_succ]
                  refine wpAnyD_takeAt 7 (some 80) (v := ?_) rfl (by kernel_rfl) (by kernel_rfl) (by kernel_rfl) (by kernel_rfl) (by kernel_rfl) (fun _ _ _ h => h) (by exact ⟨e3, g1, g2⟩) (fun o hop => ?_) ?_
                  rotate_left
                  · injection hop with hop
                    subst hop
                    refine ⟨rfl, fun W hW => ?_⟩
                    obtain ⟨s0, s1, s2⟩ := hW
                    go_simp
                    first
                    | rfl
                    | rw [if_neg (by omega)]
                  try simp only [Act.put, List.setIfInBounds_toArray, List.set_cons_zero, List.set_cons_succ]
                  refine wpAnyD_takeAt 8 (some 81) (v := ?_) rfl (by kernel_rfl) (by kernel_rfl) (by kernel_rfl) (by kernel_rfl) (by kernel_rfl) (fun _ _ _ h => h) (by exact ⟨e3, g1, g2⟩) (fun o hop => ?_) ?_
                  rotate_left
                  · injection hop with hop
                    subst hop
                    refine ⟨rfl, fun W hW => ?_⟩
                    obtain ⟨s0, s1, s2⟩ := hW
                    go_simp
                    first
                    | rfl
                    | rw [if_neg (by omega)]
                  try simp only [Act.put, List.setIfInBounds_toArray, List.set_cons_zero, List.set_cons_succ]
                  refine wpAnyD_takeAt 9 (some 82) (v := ?_) rfl (by kernel_rfl) (by kernel_rfl) (by kernel_rfl) (by kernel_rfl) (by kernel_rfl) (fun _ _ _ h => h) (by exact ⟨e3, g1, g2⟩) (fun o hop => ?_) ?_
                  rotate_left
                  · injection hop with hop
                    subst hop
                    refine ⟨rfl, fun W hW => ?_⟩
                    obtain ⟨s0, s1, s2⟩ := hW
                    go_simp
                    first
                    | rfl
                    | rw [if_neg (by omega)]
                  try simp only [Act.put, List.setIfInBounds_toArray, List.set_cons_zero, List.set_cons_succ]
                  refine wpAnyD_takeAt 10 (some 83) (v := ?_) rfl (by kernel_rfl) (by kernel_rfl) (by kernel_rfl) (by kernel_rfl) (by kernel_rfl) (fun _ _ _ h => h) (by exact ⟨e3, g1, g2⟩) (fun o hop => ?_) ?_
                  rotate_left
                  · injection hop with hop
                    subst hop
                    refine ⟨rfl, fun W hW => ?_⟩
                    obtain ⟨s0, s1, s2⟩ := hW
                    go_simp
                    first
                    | rfl
                    | rw [if_neg (by omega)]
                  try simp only [Act.put, List.setIfInBounds_toArray, List.set_cons_zero, List.set_cons_succ]
                  refine wpAnyD_takeAt 11 (some 84) (v := ?_) rfl (by kernel_rfl) (by kernel_rfl) (by kernel_rfl) (by kernel_rfl) (by kernel_rfl) (fun _ _ _ h => h) (by exact ⟨e3, g1, g2⟩) (fun o hop => ?_) ?_
                  rotate_left
                  · injection hop with hop
                    subst hop
                    refine ⟨rfl, fun W hW => ?_⟩
                    obtain ⟨s0, s1, s2⟩ := hW
                    go_simp
                    first
                    | rfl
                    | rw [if_neg (by omega)]
                  try simp only [Act.put, List.setIfInBounds_toArray, List.set_cons_zero, List.set_cons_succ]
                  refine wpAnyD_takeAt 12 (some 85) (v := ?_) rfl (by kernel_rfl) (by kernel_rfl) (by kernel_rfl) (by kernel_rfl) (by kernel_rfl) (fun _ _ _ h => h) (by exact ⟨e3, g1, g2⟩) (fun o hop => ?_) ?_
                  rotate_left
                  · injection hop with hop
                    subst hop
                    refine ⟨rfl, fun W hW => ?_⟩
                    obtain ⟨s0, s1, s2⟩ := hW
                    go_simp
                    first
                    | rfl
                    | rw [if_neg (by omega)]
                  try simp only [Act.put, List.setIfInBounds_toArray, List.set_cons_zero, List.set_cons_succ]
                  refine wpAnyT_one (i := 13) (by kernel_rfl) rfl rfl (fun K' hK => ?_)
                  go_simp
                  go_at_call 39
                  refine (hourOf_any us r nk sk (.slice ag us.length cg) (.slice a' us.length c') w4.drew (HG.out.below HBQ4.out.drew (Nat.le_refl _)) (HROW.out.below HBW4.out.drew (Nat.le_refl _)) HRL.out h4 HM.out hnk.1 hnk.2 hsk.1 hsk.2).mono ?_
                  rintro e w5 ⟨hres, hb5⟩
                  obtain ⟨x5, b5, rfl, hxb5⟩ : ∃ (x : Int) (b : Bool), e = .returned (.tuple #[.int .i64 x, .bool b]) ∧ ((b = true ∧ hourC us r nk sk = some x) ∨ (b = false ∧ hourC us r nk sk = none)) := by
                    rcases hres with ⟨c, hc, rfl⟩ | ⟨hno, x, rfl⟩
                    · exact ⟨c, true, rfl, .inl ⟨rfl, hourC_some HM.out hc⟩⟩
                    · exact ⟨x, false, rfl, .inr ⟨rfl, hourC_none HM.out hno⟩⟩
                  have HXB := hide' hxb5
                  have HB5 : Hid (Below w4.heap.size w4 w5) := (Below.refl _ w4).drew.trans hb5
                  have HBW5 := hide' (HBW4.out.trans (HB5.out.mono HBW4.out.size))
                  have HBR5 := hide' (HB4.out.trans (HB5.out.mono HB4.out.size))
                  have f3 := (HB5.out.cell (World.block_lt_of_cell? w4 _ e3)).trans e3
                  have f1 := (HB5.out.cell (World.block_lt_of_cell? w4 _ g1)).trans g1
                  have f2 := (HB5.out.cell (World.block_lt_of_cell? w4 _ g2)).trans g2
                  clear hres hxb5 hb5 e3 g1 g2
                  refine hK.out _ _ (fun _ => by exact ⟨f3, f1, f2⟩) ?_
                  clear hK K'
                  refine wpAnyT_one (i := 14) (by kernel_rfl) rfl rfl (fun K' hK => ?_)
                  go_simp
                  refine hK.out _ _ (fun _ => by exact ⟨f3, f1, f2⟩) ?_
                  clear hK K'
                  refine wpAnyD_takeAt 15 (some 87) (v := ?_) rfl (by kernel_rfl) (by kernel_rfl) (by kernel_rfl) (by kernel_rfl) (by kernel_rfl) (fun _ _ _ h => h) (by exact ⟨f3, f1, f2⟩) (fun o hop => ?_) ?_
                  rotate_left
                  · injection hop with hop
                    subst hop
                    refine ⟨rfl, fun W hW => ?_⟩
                    obtain ⟨s0, s1, s2⟩ := hW
                    go_simp
                    first
                    | rfl
                    | rw [if_neg (by omega)]
                  try simp only [Act.put, List.setIfInBounds_toArray, List.set_cons_zero, List.set_cons_succ]
                  refine wpAnyD_takeAt 16 (some 88) (v := ?_) rfl (by kernel_rfl) (by kernel_rfl) (by kernel_rfl) (by kernel_rfl) (by kernel_rfl) (fun _ _ _ h => h) (by exact ⟨f3, f1, f2⟩) (fun o hop => ?_) ?_
                  rotate_left
                  · injection hop with hop
                    subst hop
                    refine ⟨rfl, fun W hW => ?_⟩
                    obtain ⟨s0, s1, s2⟩ := hW
                    go_simp
                    first
                    | rfl
                    | rw [if_neg (by omega)]
                  try simp only [Act.put, List.setIfInBounds_toArray, List.set_cons_zero, List.set_cons_succ]
                  refine wpAnyT_one (i := 17) (by kernel_rfl) rfl rfl (fun K' hK => ?_)
                  go_simp
                  refine hK.out _ _ (fun _ => by exact ⟨f3, f1, f2⟩) ?_
                  clear hK K'
                  refine wpAnyT_one (i := 18) (by kernel_rfl) rfl rfl (fun K' hK => ?_)
                  go_simp
                  refine hK.out _ _ (fun h => absurd rfl h) ?_
                  clear hK K'
                  refine wpAnyT_done (by kernel_rfl) ?_ _
                  clear f1 f2
                  cases b5 with
                  | false =>
                    have HE : Hid (StepsO w5 wh.heap.size u13 xs3 (rowF us nk sk x (L.take (j + 1)) acc0)) := by
                      have hnh : hourC us r nk sk = none := by rcases HXB.out with ⟨h, _⟩ | ⟨_, h⟩; cases h; exact h
                      show StepsO _ _ _ _ _
                      rw [HRS2.out, putO_none (extend_hour HNL.out hnh)]
                      exact HNX.out.below HBR5.out (Nat.le_refl _)
                    clear f3
                    go_wp2
                    go_roundw
                    case rel => exact ⟨j + 1, xs3, by go_num, by omega, HE, HBW5⟩
                    case measure => simp [intOf]; omega
                  | true =>
                    have HX5 : Hid (hourC us r nk sk = some x5) := by rcases HXB.out with ⟨_, h⟩ | ⟨h, _⟩; exact h; cases h
                    have hx5 := hour_bound HM.out h4 HX5.out
                    have HEX := hide' (extend_some HNL.out HX5.out)
                    have HSW := hide' (HEW.out _ _ _ HXW.out HRL.out HEX.out)
                    have HSH := hide' (HSW.out.shape HM.out h4)
                    have d1 := (HBW5.out.cell (World.block_lt_of_cell? wh _ HN1.out)).trans HN1.out
                    have d2 := (HBW5.out.cell (World.block_lt_of_cell? wh _ HN2.out)).trans HN2.out
                    have hh8 : h < 8 := by omega
                    have hw1 : IntKind.i64.wrap (xc + s4) = xc + s4 := Go.IntWalk.i64_in _ (by omega)
                    have hw2 : IntKind.i64.wrap (xc + s4 + x5) = xc + s4 + x5 := Go.IntWalk.i64_in _ (by omega)
                    obtain ⟨vsx, hox, hrx⟩ := (HXO.out.keep (KeepE.below HBW5.out (Nat.le_refl _))).on
                    rw [HXS.out.hours] at hox
                    have HOX := hide' hox
                    have HRX := hide' hrx
                    have HRB5 : Hid (BoolsO w5 (.slice a' us.length c') r) := own_keep HRB.out (KeepE.below (e := 76) HBW5.out (Nat.le_refl _)) (by decide)
                    have HSP : Hid (∀ W, Below w5.heap.size w5 W → (W.cell? ⟨bn, on' + k * 3 + 1, none⟩ = some (.int .i64 xc) ∧ W.cell? ⟨bn, on' + k * 3 + 2, none⟩ = some (.slice ab h cb) ∧ W.cell? ⟨bs, os' + j, none⟩ = some (.slice a' us.length c'))) := fun W hW => ⟨(hW.cell (World.block_lt_of_cell? w5 _ d1)).trans d1, (hW.cell (World.block_lt_of_cell? w5 _ d2)).trans d2, (hW.cell (World.block_lt_of_cell? w5 _ f3)).trans f3⟩
                    clear HXB hox hrx
                    go_upto_region 20 with fail
                    go_cut [20] from 49 to 116 (fun p20 wc => ∃ (Pb : Nat) (a2 : Option Addr) (c2 : Nat), p20 = .pointer (some ⟨Pb, 0, none⟩) ∧ Hid (BoxAt wc Pb (.slice a4 us.length c4) (xc + s4 + x5) (.slice a2 (h + 1) c2)) ∧ Hid (SignsO wc (.slice a2 (h + 1) c2) (x.on ++ [r])) ∧ Hid (Below w5.heap.size w5 wc))
                    case first =>
                      go_wp2_with fail
                      refine wp_region_tail (fun W => W.cell? ⟨bn, on' + k * 3 + 1, none⟩ = some (.int .i64 xc) ∧ W.cell? ⟨bn, on' + k * 3 + 2, none⟩ = some (.slice ab h cb) ∧ W.cell? ⟨bs, os' + j, none⟩ = some (.slice a' us.length c')) 24 (by kernel_rfl) ?_
                      obtain ⟨X0, hX0⟩ : ∃ x, x = w5.drew := ⟨_, rfl⟩
                      rw [← hX0]
                      have HB0 : Hid (Below w5.heap.size w5 X0) := by rw [hX0]; exact (Below.refl _ w5).drew
                      obtain ⟨k1, k2, k3⟩ := HSP.out X0 HB0.out
                      clear hX0 d1 d2 f3
                      refine wpAnyD_takeAt 0 (some 91) (v := ?_) rfl (by kernel_rfl) (by kernel_rfl) (by kernel_rfl) (by kernel_rfl) (by kernel_rfl) (fun _ _ _ h => h) (by exact ⟨k1, k2, k3⟩) (fun o hop => ?_) ?_
                      rotate_left
                      · injection hop with hop
                        subst hop
                        refine ⟨rfl, fun W hW => ?_⟩
                        obtain ⟨s0, s1, s2⟩ := hW
                        go_simp
                        first
                        | rfl
                        | rw [if_neg (by omega)]
                      try simp only [Act.put, List.setIfInBounds_toArray, List.set_cons_zero, List.set_cons_succ]
                      refine wpAnyD_takeAt 1 (some 92) (v := ?_) rfl (by kernel_rfl) (by kernel_rfl) (by kernel_rfl) (by kernel_rfl) (by kernel_rfl) (fun _ _ _ h => h) (by exact ⟨k1, k2, k3⟩) (fun o hop => ?_) ?_
                      rotate_left
                      · injection hop with hop
                        subst hop
                        refine ⟨rfl, fun W hW => ?_⟩
                        obtain ⟨s0, s1, s2⟩ := hW
                        go_simp
                        first
                        | rfl
                        | rw [if_neg (by omega)]
                      try simp only [Act.put, List.setIfInBounds_toArray, List.set_cons_zero, List.set_cons_succ]
                      refine wpAnyD_takeAt 2 (some 93) (v := ?_) rfl (by kernel_rfl) (by kernel_rfl) (by kernel_rfl) (by kernel_rfl) (by kernel_rfl) (fun _ _ _ h => h) (by exact ⟨k1, k2, k3⟩) (fun o hop => ?_) ?_
                      rotate_left
                      · injection hop with hop
                        subst hop
                        refine ⟨rfl, fun W hW => ?_⟩
                        obtain ⟨s0, s1, s2⟩ := hW
                        go_simp
                        first
                        | rfl
                        | rw [if_neg (by omega)]
                      try simp only [Act.put, List.setIfInBounds_toArray, List.set_cons_zero, List.set_cons_succ]
                      refine wpAnyD_takeAt 3 (some 94) (v := ?_) rfl (by kernel_rfl) (by kernel_rfl) (by kernel_rfl) (by kernel_rfl) (by kernel_rfl) (fun _ _ _ h => h) (by exact ⟨k1, k2, k3⟩) (fun o hop => ?_) ?_
                      rotate_left
                      · injection hop with hop
                        subst hop
                        refine ⟨rfl, fun W hW => ?_⟩
                        obtain ⟨s0, s1, s2⟩ := hW
                        go_simp
                        first
                        | rfl
                        | rw [if_neg (by omega)]
                      try simp only [Act.put, List.setIfInBounds_toArray, List.set_cons_zero, List.set_cons_succ]
                      refine wpAnyD_takeAt 4 (some 95) (v := ?_) rfl (by kernel_rfl) (by kernel_rfl) (by kernel_rfl) (by kernel_rfl) (by kernel_rfl) (fun _ _ _ h => h) (by exact ⟨k1, k2, k3⟩) (fun o hop => ?_) ?_
                      rotate_left
                      · injection hop with hop
                        subst hop
                        refine ⟨rfl, fun W hW => ?_⟩
                        obtain ⟨s0, s1, s2⟩ := hW
                        go_simp
                        first
                        | rfl
                        | rw [if_neg (by omega)]
                      try simp only [Act.put, List.setIfInBounds_toArray, List.set_cons_zero, List.set_cons_succ]
                      refine wpAnyD_takeAt 5 (some 96) (v := ?_) rfl (by kernel_rfl) (by kernel_rfl) (by kernel_rfl) (by kernel_rfl) (by kernel_rfl) (fun _ _ _ h => h) (by exact ⟨k1, k2, k3⟩) (fun o hop => ?_) ?_
                      rotate_left
                      · injection hop with hop
                        subst hop
                        refine ⟨rfl, fun W hW => ?_⟩
                        obtain ⟨s0, s1, s2⟩ := hW
                        go_simp
                        first
                        | rfl
                        | rw [if_neg (by omega)]
                      try simp only [Act.put, List.setIfInBounds_toArray, List.set_cons_zero, List.set_cons_succ]
                      refine wpAnyD_takeAt 6 (some 97) (v := ?_) rfl (by kernel_rfl) (by kernel_rfl) (by kernel_rfl) (by kernel_rfl) (by kernel_rfl) (fun _ _ _ h => h) (by exact ⟨k1, k2, k3⟩) (fun o hop => ?_) ?_
                      rotate_left
                      · injection hop with hop
                        subst hop
                        refine ⟨rfl, fun W hW => ?_⟩
                        obtain ⟨s0, s1, s2⟩ := hW
                        go_simp
                        first
                        | rfl
                        | rw [if_neg (by omega)]
                      try simp only [Act.put, List.setIfInBounds_toArray, List.set_cons_zero, List.set_cons_succ]
                      refine wpAnyD_takeAt 7 (some 98) (v := ?_) rfl (by kernel_rfl) (by kernel_rfl) (by kernel_rfl) (by kernel_rfl) (by kernel_rfl) (fun _ _ _ h => h) (by exact ⟨k1, k2, k3⟩) (fun o hop => ?_) ?_
                      rotate_left
                      · injection hop with hop
                        subst hop
                        refine ⟨rfl, fun W hW => ?_⟩
                        obtain ⟨s0, s1, s2⟩ := hW
                        go_simp
                        first
                        | rfl
                        | rw [if_neg (by omega)]
                      try simp only [Act.put, List.setIfInBounds_toArray, List.set_cons_zero, List.set_cons_succ]
                      refine wpAnyD_takeAt 8 (some 99) (v := ?_) rfl (by kernel_rfl) (by kernel_rfl) (by kernel_rfl) (by kernel_rfl) (by kernel_rfl) (fun _ _ _ h => h) (by exact ⟨k1, k2, k3⟩) (fun o hop => ?_) ?_
                      rotate_left
                      · injection hop with hop
                        subst hop
                        refine ⟨rfl, fun W hW => ?_⟩
                        obtain ⟨s0, s1, s2⟩ := hW
                        go_simp
                        first
                        | rfl
                        | rw [if_neg (by omega)]
                      try simp only [Act.put, List.setIfInBounds_toArray, List.set_cons_zero, List.set_cons_succ]
                      refine wpAnyD_takeAt 9 (some 100) (v := ?_) rfl (by kernel_rfl) (by kernel_rfl) (by kernel_rfl) (by kernel_rfl) (by kernel_rfl) (fun _ _ _ h => h) (by exact ⟨k1, k2, k3⟩) (fun o hop => ?_) ?_
                      rotate_left
                      · injection hop with hop
                        subst hop
                        refine ⟨rfl, fun W hW => ?_⟩
                        obtain ⟨s0, s1, s2⟩ := hW
                        go_simp
                        first
                        | rfl
                        | rw [if_neg (by omega)]
                      try simp only [Act.put, List.setIfInBounds_toArray, List.set_cons_zero, List.set_cons_succ]
                      refine wpAnyD_takeAt 10 (some 101) (v := ?_) rfl (by kernel_rfl) (by kernel_rfl) (by kernel_rfl) (by kernel_rfl) (by kernel_rfl) (fun _ _ _ h => h) (by exact ⟨k1, k2, k3⟩) (fun o hop => ?_) ?_
                      rotate_left
                      · injection hop with hop
                        subst hop
                        refine ⟨rfl, fun W hW => ?_⟩
                        obtain ⟨s0, s1, s2⟩ := hW
                        go_simp
                        first
                        | rfl
                        | rw [if_neg (by omega)]
                      try simp only [Act.put, List.setIfInBounds_toArray, List.set_cons_zero, List.set_cons_succ]
                      refine wpAnyD_takeAt 11 (some 102) (v := ?_) rfl (by kernel_rfl) (by kernel_rfl) (by kernel_rfl) (by kernel_rfl) (by kernel_rfl) (fun _ _ _ h => h) (by exact ⟨k1, k2, k3⟩) (fun o hop => ?_) ?_
                      rotate_left
                      · injection hop with hop
                        subst hop
                        refine ⟨rfl, fun W hW => ?_⟩
                        obtain ⟨s0, s1, s2⟩ := hW
                        go_simp
                        first
                        | rfl
                        | rw [if_neg (by omega)]
                      try simp only [Act.put, List.setIfInBounds_toArray, List.set_cons_zero, List.set_cons_succ]
                      refine wpAnyD_takeAt 12 (some 103) (v := ?_) rfl (by kernel_rfl) (by kernel_rfl) (by kernel_rfl) (by kernel_rfl) (by kernel_rfl) (fun _ _ _ h => h) (by exact ⟨k1, k2, k3⟩) (fun o hop => ?_) ?_
                      rotate_left
                      · injection hop with hop
                        subst hop
                        refine ⟨rfl, fun W hW => ?_⟩
                        obtain ⟨s0, s1, s2⟩ := hW
                        go_simp
                        first
                        | rfl
                        | rw [if_neg (by omega)]
                      try simp only [Act.put, List.setIfInBounds_toArray, List.set_cons_zero, List.set_cons_succ]
                      refine wpAnyD_takeAt 13 (some 104) (v := ?_) rfl (by kernel_rfl) (by kernel_rfl) (by kernel_rfl) (by kernel_rfl) (by kernel_rfl) (fun _ _ _ h => h) (by exact ⟨k1, k2, k3⟩) (fun o hop => ?_) ?_
                      rotate_left
                      · injection hop with hop
                        subst hop
                        refine ⟨rfl, fun W hW => ?_⟩
                        obtain ⟨s0, s1, s2⟩ := hW
                        go_simp
                        first
                        | rfl
                        | rw [if_neg (by omega)]
                      try simp only [Act.put, List.setIfInBounds_toArray, List.set_cons_zero, List.set_cons_succ]
                      refine wpAnyD_takeAt 14 (some 105) (v := ?_) rfl (by kernel_rfl) (by kernel_rfl) (by kernel_rfl) (by kernel_rfl) (by kernel_rfl) (fun _ _ _ h => h) (by exact ⟨k1, k2, k3⟩) (fun o hop => ?_) ?_
                      rotate_left
                      · injection hop with hop
                        subst hop
                        refine ⟨rfl, fun W hW => ?_⟩
                        obtain ⟨s0, s1, s2⟩ := hW
                        go_simp
                        first
                        | rfl
                        | rw [if_neg (by omega)]
                      try simp only [Act.put, List.setIfInBounds_toArray, List.set_cons_zero, List.set_cons_succ]
                      refine wpAnyD_takeAt 16 (some 107) (v := ?_) rfl (by kernel_rfl) (by kernel_rfl) (by kernel_rfl) (by kernel_rfl) (by kernel_rfl) (fun _ _ _ h => h) (by exact ⟨k1, k2, k3⟩) (fun o hop => ?_) ?_
                      rotate_left
                      · injection hop with hop
                        subst hop
                        refine ⟨rfl, fun W hW => ?_⟩
                        obtain ⟨s0, s1, s2⟩ := hW
                        go_simp
                        first
                        | rfl
                        | rw [if_neg (by omega)]
                      try simp only [Act.put, List.setIfInBounds_toArray, List.set_cons_zero, List.set_cons_succ]
                      refine wpAnyD_takeAt 17 (some 108) (v := ?_) rfl (by kernel_rfl) (by kernel_rfl) (by kernel_rfl) (by kernel_rfl) (by kernel_rfl) (fun _ _ _ h => h) (by exact ⟨k1, k2, k3⟩) (fun o hop => ?_) ?_
                      rotate_left
                      · injection hop with hop
                        subst hop
                        refine ⟨rfl, fun W hW => ?_⟩
                        obtain ⟨s0, s1, s2⟩ := hW
                        go_simp
                        first
                        | rfl
                        | rw [if_neg (by omega)]
                      try simp only [Act.put, List.setIfInBounds_toArray, List.set_cons_zero, List.set_cons_succ]
                      refine wpAnyD_takeAt 18 (some 109) (v := ?_) rfl (by kernel_rfl) (by kernel_rfl) (by kernel_rfl) (by kernel_rfl) (by kernel_rfl) (fun _ _ _ h => h) (by exact ⟨k1, k2, k3⟩) (fun o hop => ?_) ?_
                      rotate_left
                      · injection hop with hop
                        subst hop
                        refine ⟨rfl, fun W hW => ?_⟩
                        obtain ⟨s0, s1, s2⟩ := hW
                        go_simp
                        first
                        | rfl
                        | rw [if_neg (by omega)]
                      try simp only [Act.put, List.setIfInBounds_toArray, List.set_cons_zero, List.set_cons_succ]
                      refine wpAnyD_takeAt 19 (some 110) (v := ?_) rfl (by kernel_rfl) (by kernel_rfl) (by kernel_rfl) (by kernel_rfl) (by kernel_rfl) (fun _ _ _ h => h) (by exact ⟨k1, k2, k3⟩) (fun o hop => ?_) ?_
                      rotate_left
                      · injection hop with hop
                        subst hop
                        refine ⟨rfl, fun W hW => ?_⟩
                        obtain ⟨s0, s1, s2⟩ := hW
                        go_simp
                        first
                        | rfl
                        | rw [if_neg (by omega)]
                      try simp only [Act.put, List.setIfInBounds_toArray, List.set_cons_zero, List.set_cons_succ]
                      clear k1 k2 k3
                      refine wpAnyT_three (i := 15) (j := 20) (k := 23) (by kernel_rfl) rfl rfl rfl rfl rfl rfl (fun K' hK => ?_) (fun K' hK => ?_) (fun K' hK => ?_)
                      · refine step_append_any rfl _ _ 32 rfl w5.heap.size 23 i5 _ 1 24 Try.underlying32 hi5 hs0 hs1 hs2 rfl (by decide) _ 0 [] rfl (World.ownsRow_nil _ _ _ _) (.slice ab h cb) h vsx rfl (rowAt_of_own (own_below HOX.out HB0.out (Nat.le_refl _))) (rows_one HRX.out) (by unfold maxLen; omega) (by omega) HB0.out.size ?_
                        intro v1 W1 hov1 hg1
                        rw [Nat.zero_add, List.nil_append] at hov1
                        have HS1 : Hid (Below X0.heap.size X0 W1) := (Below.refl _ _).grown hg1 (Nat.le_refl _) (fun k e => by cases e)
                        have HV1 := hide' hov1
                        clear hov1 hg1
                        have HBN2 := hide' (HB0.out.trans (HS1.out.mono HB0.out.size))
                        refine hK.out _ _ (fun _ => HSP.out _ HBN2.out) ?_
                        clear hK K'
                        refine wpAnyT_two (i := 20) (j := 23) (by kernel_rfl) rfl rfl rfl rfl (fun K' hK => ?_) (fun K' hK => ?_)
                        · go_simp
                          obtain ⟨W3, hW3⟩ : ∃ Y, Y = World.alloc W1 (.cells #[.slice a' us.length c'] 23) := ⟨_, rfl⟩
                          obtain ⟨P3, hP3⟩ : ∃ P, P = W1.heap.size := ⟨_, rfl⟩
                          rw [← hW3, ← hP3]
                          have HS3 : Hid (Below W1.heap.size W1 W3) := by rw [hW3]; exact (Below.refl _ _).alloc (Nat.le_refl _) _
                          have HV3 : Hid (W3.cell? ⟨P3, 0, none⟩ = some (.slice a' us.length c')) := by rw [hW3, hP3]; exact cell_news _ [.slice a' us.length c'] 23 0 _ rfl
                          have HA4 := hide' (own_below HV1.out HS3.out (Nat.le_refl _))
                          have HBN4 := hide' (HBN2.out.trans (HS3.out.mono HBN2.out.size))
                          clear hW3 hP3
                          refine hK.out _ _ (fun _ => HSP.out _ HBN4.out) ?_
                          clear hK K'
                          refine wpAnyT_two (i := 21) (j := 23) (by kernel_rfl) rfl rfl rfl rfl (fun K' hK => ?_) (fun K' hK => ?_)
                          · refine step_append_own rfl _ _ 32 rfl w5.heap.size 23 i5 _ 1 24 Try.underlying32 hi5 hs0 hs1 hs2 rfl (by decide) v1 h vsx rfl HA4.out ⟨P3, 0, none⟩ 1 1 [.slice a' us.length c'] rfl rfl (one_news HV3.out) (one_cell rfl) (by unfold maxLen; omega) (by omega) HBN4.out.size ?_
                            intro v5 W5 hov5 hg5
                            obtain ⟨a5x, c5x, rfl⟩ := own_slice hov5
                            have HV5 := hide' hov5
                            have HB5x : Hid (Below w5.heap.size w5 W5) := HBN4.out.grown hg5 HBN4.out.size (fun k e => (HA4.out.lt k e).1)
                            clear hov5 hg5
                            refine hK.out _ _ (fun _ => HSP.out _ HB5x.out) ?_
                            clear hK K'
                            refine wpAnyT_two (i := 22) (j := 23) (by kernel_rfl) rfl rfl rfl rfl (fun K' hK => ?_) (fun K' hK => ?_)
                            · go_simp
                              refine hK.out _ _ (fun _ => HSP.out _ HB5x.out) ?_
                              clear hK K'
                              refine wpAnyT_one (i := 23) (by kernel_rfl) rfl rfl (fun K' hK => ?_)
                              go_simp
                              obtain ⟨W7, hW7⟩ : ∃ Y, Y = World.alloc W5 (.cells #[.slice none 0 0, .int .i64 0, .slice none 0 0] 76) := ⟨_, rfl⟩
                              obtain ⟨P7, hP7⟩ : ∃ P, P = W5.heap.size := ⟨_, rfl⟩
                              rw [← hW7, ← hP7]
                              have HS7 : Hid (Below W5.heap.size W5 W7) := by rw [hW7]; exact (Below.refl _ _).alloc (Nat.le_refl _) _
                              have HV7 : Hid (W7.heap[P7]? = some (.cells #[.slice none 0 0, .int .i64 0, .slice none 0 0] 76 (0, 0))) := by rw [hW7, hP7]; exact heap_alloc_new _ _
                              have HP7 : Hid (w5.heap.size ≤ P7) := by rw [hP7]; exact HB5x.out.size
                              have HE8 := hide' (own_below HV5.out HS7.out (Nat.le_refl _))
                              have HBN8 := hide' (HB5x.out.trans (HS7.out.mono HB5x.out.size))
                              clear hW7 hP7
                              refine hK.out _ _ (fun _ => HSP.out _ HBN8.out) ?_
                              clear hK K'
                              refine wpAnyT_one (i := 24) (by kernel_rfl) rfl rfl (fun K' hK => ?_)
                              obtain ⟨r0, r1, r2⟩ := BoxAt.of HV7.out
                              have q0 := frozen_no HV7.out 0
                              have q1 := frozen_no HV7.out 1
                              have q2 := frozen_no HV7.out 2
                              have HBO := hide' (box_set3 HV7.out (.slice a4 us.length c4) (xc + s4 + x5) (.slice a5x (h + 1) c5x) _ rfl)
                              go_simp
                              refine hK.out _ _ (fun h => absurd rfl h) ?_
                              clear hK K' r0 r1 r2 q0 q1 q2
                              refine wpAnyT_done (by kernel_rfl) ?_ _
                              have HSG := hide' (signs_more HRX.out HRB5.out HXS.out.hours ((KeepE.below (e := 76) HBN8.out (Nat.le_refl _)).trans HBO.out.2.1) (own_keep HE8.out HBO.out.2.1 (by decide)))
                              have HBL := hide' (HBN8.out.trans (HBO.out.2.2 _ HP7.out))
                              have HBA := hide' (BoxAt.of HBO.out.1)
                              clear HBO
                              go_wp2_with fail
                              go_meet
                              case rel => exact ⟨P7, a5x, c5x, rfl, HBA, HSG, HBL⟩
                            · go_simp
                              obtain ⟨W10, hW10⟩ : ∃ Y, Y = World.alloc W5 (.cells #[.slice none 0 0, .int .i64 0, .slice none 0 0] 76) := ⟨_, rfl⟩
                              obtain ⟨P10, hP10⟩ : ∃ P, P = W5.heap.size := ⟨_, rfl⟩
                              rw [← hW10, ← hP10]
                              have HS10 : Hid (Below W5.heap.size W5 W10) := by rw [hW10]; exact (Below.refl _ _).alloc (Nat.le_refl _) _
                              have HV10 : Hid (W10.heap[P10]? = some (.cells #[.slice none 0 0, .int .i64 0, .slice none 0 0] 76 (0, 0))) := by rw [hW10, hP10]; exact heap_alloc_new _ _
                              have HP10 : Hid (w5.heap.size ≤ P10) := by rw [hP10]; exact HB5x.out.size
                              have HE11 := hide' (own_below HV5.out HS10.out (Nat.le_refl _))
                              have HBN11 := hide' (HB5x.out.trans (HS10.out.mono HB5x.out.size))
                              clear hW10 hP10
                              refine hK.out _ _ (fun _ => HSP.out _ HBN11.out) ?_
                              clear hK K'
                              refine wpAnyT_one (i := 22) (by kernel_rfl) rfl rfl (fun K' hK => ?_)
                              go_simp
                              refine hK.out _ _ (fun _ => HSP.out _ HBN11.out) ?_
                              clear hK K'
                              refine wpAnyT_one (i := 24) (by kernel_rfl) rfl rfl (fun K' hK => ?_)
                              obtain ⟨r0, r1, r2⟩ := BoxAt.of HV10.out
                              have q0 := frozen_no HV10.out 0
                              have q1 := frozen_no HV10.out 1
                              have q2 := frozen_no HV10.out 2
                              have HBO := hide' (box_set3 HV10.out (.slice a4 us.length c4) (xc + s4 + x5) (.slice a5x (h + 1) c5x) _ rfl)
                              go_simp
                              refine hK.out _ _ (fun h => absurd rfl h) ?_
                              clear hK K' r0 r1 r2 q0 q1 q2
                              refine wpAnyT_done (by kernel_rfl) ?_ _
                              have HSG := hide' (signs_more HRX.out HRB5.out HXS.out.hours ((KeepE.below (e := 76) HBN11.out (Nat.le_refl _)).trans HBO.out.2.1) (own_keep HE11.out HBO.out.2.1 (by decide)))
                              have HBL := hide' (HBN11.out.trans (HBO.out.2.2 _ HP10.out))
                              have HBA := hide' (BoxAt.of HBO.out.1)
                              clear HBO
                              go_wp2_with fail
                              go_meet
                              case rel => exact ⟨P10, a5x, c5x, rfl, HBA, HSG, HBL⟩
                          · go_simp
                            obtain ⟨W14, hW14⟩ : ∃ Y, Y = World.alloc W3 (.cells #[.slice none 0 0, .int .i64 0, .slice none 0 0] 76) := ⟨_, rfl⟩
                            obtain ⟨P14, hP14⟩ : ∃ P, P = W3.heap.size := ⟨_, rfl⟩
                            rw [← hW14, ← hP14]
                            have HS14 : Hid (Below W3.heap.size W3 W14) := by rw [hW14]; exact (Below.refl _ _).alloc (Nat.le_refl _) _
                            have HV14 : Hid (W14.heap[P14]? = some (.cells #[.slice none 0 0, .int .i64 0, .slice none 0 0] 76 (0, 0))) := by rw [hW14, hP14]; exact heap_alloc_new _ _
                            have HP14 : Hid (w5.heap.size ≤ P14) := by rw [hP14]; exact HBN4.out.size
                            have HA15 := hide' (own_below HA4.out HS14.out (Nat.le_refl _))
                            have HC15 : Hid (W14.cell? ⟨P3, 0, none⟩ = some (.slice a' us.length c')) := (HS14.out.cell (World.block_lt_of_cell? _ _ HV3.out)).trans HV3.out
                            have HBN15 := hide' (HBN4.out.trans (HS14.out.mono HBN4.out.size))
                            clear hW14 hP14
                            refine hK.out _ _ (fun _ => HSP.out _ HBN15.out) ?_
                            clear hK K'
                            refine wpAnyT_one (i := 21) (by kernel_rfl) rfl rfl (fun K' hK => ?_)
                            refine step_append_own rfl _ _ 32 rfl w5.heap.size 23 i5 _ 1 24 Try.underlying32 hi5 hs0 hs1 hs2 rfl (by decide) v1 h vsx rfl HA15.out ⟨P3, 0, none⟩ 1 1 [.slice a' us.length c'] rfl rfl (one_news HC15.out) (one_cell rfl) (by unfold maxLen; omega) (by omega) HBN15.out.size ?_
                            intro v16 W16 hov16 hg16
                            obtain ⟨a16x, c16x, rfl⟩ := own_slice hov16
                            have HV16 := hide' hov16
                            have HB16x : Hid (Below w5.heap.size w5 W16) := HBN15.out.grown hg16 HBN15.out.size (fun k e => (HA15.out.lt k e).1)
                            have HD16x : Hid (W16.heap[P14]? = some (.cells #[.slice none 0 0, .int .i64 0, .slice none 0 0] 76 (0, 0))) := ((KeepE.grown HA15.out hg16) _ _ _ _ HV14.out (by decide)).trans HV14.out
                            clear hov16 hg16
                            refine hK.out _ _ (fun _ => HSP.out _ HB16x.out) ?_
                            clear hK K'
                            refine wpAnyT_one (i := 22) (by kernel_rfl) rfl rfl (fun K' hK => ?_)
                            go_simp
                            refine hK.out _ _ (fun _ => HSP.out _ HB16x.out) ?_
                            clear hK K'
                            refine wpAnyT_one (i := 24) (by kernel_rfl) rfl rfl (fun K' hK => ?_)
                            obtain ⟨r0, r1, r2⟩ := BoxAt.of HD16x.out
                            have q0 := frozen_no HD16x.out 0
                            have q1 := frozen_no HD16x.out 1
                            have q2 := frozen_no HD16x.out 2
                            have HBO := hide' (box_set3 HD16x.out (.slice a4 us.length c4) (xc + s4 + x5) (.slice a16x (h + 1) c16x) _ rfl)
                            go_simp
                            refine hK.out _ _ (fun h => absurd rfl h) ?_
                            clear hK K' r0 r1 r2 q0 q1 q2
                            refine wpAnyT_done (by kernel_rfl) ?_ _
                            have HSG := hide' (signs_more HRX.out HRB5.out HXS.out.hours ((KeepE.below (e := 76) HB16x.out (Nat.le_refl _)).trans HBO.out.2.1) (own_keep HV16.out HBO.out.2.1 (by decide)))
                            have HBL := hide' (HB16x.out.trans (HBO.out.2.2 _ HP14.out))
                            have HBA := hide' (BoxAt.of HBO.out.1)
                            clear HBO
                            go_wp2_with fail
                            go_meet
                            case rel => exact ⟨P14, a16x, c16x, rfl, HBA, HSG, HBL⟩
                        · go_simp
                          obtain ⟨W19, hW19⟩ : ∃ Y, Y = World.alloc W1 (.cells #[.slice none 0 0, .int .i64 0, .slice none 0 0] 76) := ⟨_, rfl⟩
                          obtain ⟨P19, hP19⟩ : ∃ P, P = W1.heap.size := ⟨_, rfl⟩
                          rw [← hW19, ← hP19]
                          have HS19 : Hid (Below W1.heap.size W1 W19) := by rw [hW19]; exact (Below.refl _ _).alloc (Nat.le_refl _) _
                          have HV19 : Hid (W19.heap[P19]? = some (.cells #[.slice none 0 0, .int .i64 0, .slice none 0 0] 76 (0, 0))) := by rw [hW19, hP19]; exact heap_alloc_new _ _
                          have HP19 : Hid (w5.heap.size ≤ P19) := by rw [hP19]; exact HBN2.out.size
                          have HA20 := hide' (own_below HV1.out HS19.out (Nat.le_refl _))
                          have HBN20 := hide' (HBN2.out.trans (HS19.out.mono HBN2.out.size))
                          clear hW19 hP19
                          refine hK.out _ _ (fun _ => HSP.out _ HBN20.out) ?_
                          clear hK K'
                          refine wpAnyT_one (i := 20) (by kernel_rfl) rfl rfl (fun K' hK => ?_)
                          go_simp
                          obtain ⟨W21, hW21⟩ : ∃ Y, Y = World.alloc W19 (.cells #[.slice a' us.length c'] 23) := ⟨_, rfl⟩
                          obtain ⟨P21, hP21⟩ : ∃ P, P = W19.heap.size := ⟨_, rfl⟩
                          rw [← hW21, ← hP21]
                          have HS21 : Hid (Below W19.heap.size W19 W21) := by rw [hW21]; exact (Below.refl _ _).alloc (Nat.le_refl _) _
                          have HV21 : Hid (W21.cell? ⟨P21, 0, none⟩ = some (.slice a' us.length c')) := by rw [hW21, hP21]; exact cell_news _ [.slice a' us.length c'] 23 0 _ rfl
                          have HA22 := hide' (own_below HA20.out HS21.out (Nat.le_refl _))
                          have HD22 : Hid (W21.heap[P19]? = some (.cells #[.slice none 0 0, .int .i64 0, .slice none 0 0] 76 (0, 0))) := (HS21.out.block _ (Array.getElem?_eq_some_iff.1 HV19.out).1).trans HV19.out
                          have HBN22 := hide' (HBN20.out.trans (HS21.out.mono HBN20.out.size))
                          clear hW21 hP21
                          refine hK.out _ _ (fun _ => HSP.out _ HBN22.out) ?_
                          clear hK K'
                          refine wpAnyT_one (i := 21) (by kernel_rfl) rfl rfl (fun K' hK => ?_)
                          refine step_append_own rfl _ _ 32 rfl w5.heap.size 23 i5 _ 1 24 Try.underlying32 hi5 hs0 hs1 hs2 rfl (by decide) v1 h vsx rfl HA22.out ⟨P21, 0, none⟩ 1 1 [.slice a' us.length c'] rfl rfl (one_news HV21.out) (one_cell rfl) (by unfold maxLen; omega) (by omega) HBN22.out.size ?_
                          intro v23 W23 hov23 hg23
                          obtain ⟨a23x, c23x, rfl⟩ := own_slice hov23
                          have HV23 := hide' hov23
                          have HB23x : Hid (Below w5.heap.size w5 W23) := HBN22.out.grown hg23 HBN22.out.size (fun k e => (HA22.out.lt k e).1)
                          have HD23x : Hid (W23.heap[P19]? = some (.cells #[.slice none 0 0, .int .i64 0, .slice none 0 0] 76 (0, 0))) := ((KeepE.grown HA22.out hg23) _ _ _ _ HD22.out (by decide)).trans HD22.out
                          clear hov23 hg23
                          refine hK.out _ _ (fun _ => HSP.out _ HB23x.out) ?_
                          clear hK K'
                          refine wpAnyT_one (i := 22) (by kernel_rfl) rfl rfl (fun K' hK => ?_)
                          go_simp
                          refine hK.out _ _ (fun _ => HSP.out _ HB23x.out) ?_
                          clear hK K'
                          refine wpAnyT_one (i := 24) (by kernel_rfl) rfl rfl (fun K' hK => ?_)
                          obtain ⟨r0, r1, r2⟩ := BoxAt.of HD23x.out
                          have q0 := frozen_no HD23x.out 0
                          have q1 := frozen_no HD23x.out 1
                          have q2 := frozen_no HD23x.out 2
                          have HBO := hide' (box_set3 HD23x.out (.slice a4 us.length c4) (xc + s4 + x5) (.slice a23x (h + 1) c23x) _ rfl)
                          go_simp
                          refine hK.out _ _ (fun h => absurd rfl h) ?_
                          clear hK K' r0 r1 r2 q0 q1 q2
                          refine wpAnyT_done (by kernel_rfl) ?_ _
                          have HSG := hide' (signs_more HRX.out HRB5.out HXS.out.hours ((KeepE.below (e := 76) HB23x.out (Nat.le_refl _)).trans HBO.out.2.1) (own_keep HV23.out HBO.out.2.1 (by decide)))
                          have HBL := hide' (HB23x.out.trans (HBO.out.2.2 _ HP19.out))
                          have HBA := hide' (BoxAt.of HBO.out.1)
                          clear HBO
                          go_wp2_with fail
                          go_meet
                          case rel => exact ⟨P19, a23x, c23x, rfl, HBA, HSG, HBL⟩
                      · go_simp
                        obtain ⟨W26, hW26⟩ : ∃ Y, Y = World.alloc X0 (.cells #[.slice a' us.length c'] 23) := ⟨_, rfl⟩
                        obtain ⟨P26, hP26⟩ : ∃ P, P = X0.heap.size := ⟨_, rfl⟩
                        rw [← hW26, ← hP26]
                        have HS26 : Hid (Below X0.heap.size X0 W26) := by rw [hW26]; exact (Below.refl _ _).alloc (Nat.le_refl _) _
                        have HV26 : Hid (W26.cell? ⟨P26, 0, none⟩ = some (.slice a' us.length c')) := by rw [hW26, hP26]; exact cell_news _ [.slice a' us.length c'] 23 0 _ rfl
                        have HBN27 := hide' (HB0.out.trans (HS26.out.mono HB0.out.size))
                        clear hW26 hP26
                        refine hK.out _ _ (fun _ => HSP.out _ HBN27.out) ?_
                        clear hK K'
                        refine wpAnyT_two (i := 15) (j := 23) (by kernel_rfl) rfl rfl rfl rfl (fun K' hK => ?_) (fun K' hK => ?_)
                        · refine step_append_any rfl _ _ 32 rfl w5.heap.size 23 i5 _ 1 24 Try.underlying32 hi5 hs0 hs1 hs2 rfl (by decide) _ 0 [] rfl (World.ownsRow_nil _ _ _ _) (.slice ab h cb) h vsx rfl (rowAt_of_own (own_below HOX.out HBN27.out (Nat.le_refl _))) (rows_one HRX.out) (by unfold maxLen; omega) (by omega) HBN27.out.size ?_
                          intro v28 W28 hov28 hg28
                          rw [Nat.zero_add, List.nil_append] at hov28
                          have HS28 : Hid (Below W26.heap.size W26 W28) := (Below.refl _ _).grown hg28 (Nat.le_refl _) (fun k e => by cases e)
                          have HV28 := hide' hov28
                          clear hov28 hg28
                          have HC29 : Hid (W28.cell? ⟨P26, 0, none⟩ = some (.slice a' us.length c')) := (HS28.out.cell (World.block_lt_of_cell? _ _ HV26.out)).trans HV26.out
                          have HBN29 := hide' (HBN27.out.trans (HS28.out.mono HBN27.out.size))
                          refine hK.out _ _ (fun _ => HSP.out _ HBN29.out) ?_
                          clear hK K'
                          refine wpAnyT_two (i := 21) (j := 23) (by kernel_rfl) rfl rfl rfl rfl (fun K' hK => ?_) (fun K' hK => ?_)
                          · refine step_append_own rfl _ _ 32 rfl w5.heap.size 23 i5 _ 1 24 Try.underlying32 hi5 hs0 hs1 hs2 rfl (by decide) v28 h vsx rfl HV28.out ⟨P26, 0, none⟩ 1 1 [.slice a' us.length c'] rfl rfl (one_news HC29.out) (one_cell rfl) (by unfold maxLen; omega) (by omega) HBN29.out.size ?_
                            intro v30 W30 hov30 hg30
                            obtain ⟨a30x, c30x, rfl⟩ := own_slice hov30
                            have HV30 := hide' hov30
                            have HB30x : Hid (Below w5.heap.size w5 W30) := HBN29.out.grown hg30 HBN29.out.size (fun k e => (HV28.out.lt k e).1)
                            clear hov30 hg30
                            refine hK.out _ _ (fun _ => HSP.out _ HB30x.out) ?_
                            clear hK K'
                            refine wpAnyT_two (i := 22) (j := 23) (by kernel_rfl) rfl rfl rfl rfl (fun K' hK => ?_) (fun K' hK => ?_)
                            · go_simp
                              refine hK.out _ _ (fun _ => HSP.out _ HB30x.out) ?_
                              clear hK K'
                              refine wpAnyT_one (i := 23) (by kernel_rfl) rfl rfl (fun K' hK => ?_)
                              go_simp
                              obtain ⟨W32, hW32⟩ : ∃ Y, Y = World.alloc W30 (.cells #[.slice none 0 0, .int .i64 0, .slice none 0 0] 76) := ⟨_, rfl⟩
                              obtain ⟨P32, hP32⟩ : ∃ P, P = W30.heap.size := ⟨_, rfl⟩
                              rw [← hW32, ← hP32]
                              have HS32 : Hid (Below W30.heap.size W30 W32) := by rw [hW32]; exact (Below.refl _ _).alloc (Nat.le_refl _) _
                              have HV32 : Hid (W32.heap[P32]? = some (.cells #[.slice none 0 0, .int .i64 0, .slice none 0 0] 76 (0, 0))) := by rw [hW32, hP32]; exact heap_alloc_new _ _
                              have HP32 : Hid (w5.heap.size ≤ P32) := by rw [hP32]; exact HB30x.out.size
                              have HE33 := hide' (own_below HV30.out HS32.out (Nat.le_refl _))
                              have HBN33 := hide' (HB30x.out.trans (HS32.out.mono HB30x.out.size))
                              clear hW32 hP32
                              refine hK.out _ _ (fun _ => HSP.out _ HBN33.out) ?_
                              clear hK K'
                              refine wpAnyT_one (i := 24) (by kernel_rfl) rfl rfl (fun K' hK => ?_)
                              obtain ⟨r0, r1, r2⟩ := BoxAt.of HV32.out
                              have q0 := frozen_no HV32.out 0
                              have q1 := frozen_no HV32.out 1
                              have q2 := frozen_no HV32.out 2
                              have HBO := hide' (box_set3 HV32.out (.slice a4 us.length c4) (xc + s4 + x5) (.slice a30x (h + 1) c30x) _ rfl)
                              go_simp
                              refine hK.out _ _ (fun h => absurd rfl h) ?_
                              clear hK K' r0 r1 r2 q0 q1 q2
                              refine wpAnyT_done (by kernel_rfl) ?_ _
                              have HSG := hide' (signs_more HRX.out HRB5.out HXS.out.hours ((KeepE.below (e := 76) HBN33.out (Nat.le_refl _)).trans HBO.out.2.1) (own_keep HE33.out HBO.out.2.1 (by decide)))
                              have HBL := hide' (HBN33.out.trans (HBO.out.2.2 _ HP32.out))
                              have HBA := hide' (BoxAt.of HBO.out.1)
                              clear HBO
                              go_wp2_with fail
                              go_meet
                              case rel => exact ⟨P32, a30x, c30x, rfl, HBA, HSG, HBL⟩
                            · go_simp
                              obtain ⟨W35, hW35⟩ : ∃ Y, Y = World.alloc W30 (.cells #[.slice none 0 0, .int .i64 0, .slice none 0 0] 76) := ⟨_, rfl⟩
                              obtain ⟨P35, hP35⟩ : ∃ P, P = W30.heap.size := ⟨_, rfl⟩
                              rw [← hW35, ← hP35]
                              have HS35 : Hid (Below W30.heap.size W30 W35) := by rw [hW35]; exact (Below.refl _ _).alloc (Nat.le_refl _) _
                              have HV35 : Hid (W35.heap[P35]? = some (.cells #[.slice none 0 0, .int .i64 0, .slice none 0 0] 76 (0, 0))) := by rw [hW35, hP35]; exact heap_alloc_new _ _
                              have HP35 : Hid (w5.heap.size ≤ P35) := by rw [hP35]; exact HB30x.out.size
                              have HE36 := hide' (own_below HV30.out HS35.out (Nat.le_refl _))
                              have HBN36 := hide' (HB30x.out.trans (HS35.out.mono HB30x.out.size))
                              clear hW35 hP35
                              refine hK.out _ _ (fun _ => HSP.out _ HBN36.out) ?_
                              clear hK K'
                              refine wpAnyT_one (i := 22) (by kernel_rfl) rfl rfl (fun K' hK => ?_)
                              go_simp
                              refine hK.out _ _ (fun _ => HSP.out _ HBN36.out) ?_
                              clear hK K'
                              refine wpAnyT_one (i := 24) (by kernel_rfl) rfl rfl (fun K' hK => ?_)
                              obtain ⟨r0, r1, r2⟩ := BoxAt.of HV35.out
                              have q0 := frozen_no HV35.out 0
                              have q1 := frozen_no HV35.out 1
                              have q2 := frozen_no HV35.out 2
                              have HBO := hide' (box_set3 HV35.out (.slice a4 us.length c4) (xc + s4 + x5) (.slice a30x (h + 1) c30x) _ rfl)
                              go_simp
                              refine hK.out _ _ (fun h => absurd rfl h) ?_
                              clear hK K' r0 r1 r2 q0 q1 q2
                              refine wpAnyT_done (by kernel_rfl) ?_ _
                              have HSG := hide' (signs_more HRX.out HRB5.out HXS.out.hours ((KeepE.below (e := 76) HBN36.out (Nat.le_refl _)).trans HBO.out.2.1) (own_keep HE36.out HBO.out.2.1 (by decide)))
                              have HBL := hide' (HBN36.out.trans (HBO.out.2.2 _ HP35.out))
                              have HBA := hide' (BoxAt.of HBO.out.1)
                              clear HBO
                              go_wp2_with fail
                              go_meet
                              case rel => exact ⟨P35, a30x, c30x, rfl, HBA, HSG, HBL⟩
                          · go_simp
                            obtain ⟨W39, hW39⟩ : ∃ Y, Y = World.alloc W28 (.cells #[.slice none 0 0, .int .i64 0, .slice none 0 0] 76) := ⟨_, rfl⟩
                            obtain ⟨P39, hP39⟩ : ∃ P, P = W28.heap.size := ⟨_, rfl⟩
                            rw [← hW39, ← hP39]
                            have HS39 : Hid (Below W28.heap.size W28 W39) := by rw [hW39]; exact (Below.refl _ _).alloc (Nat.le_refl _) _
                            have HV39 : Hid (W39.heap[P39]? = some (.cells #[.slice none 0 0, .int .i64 0, .slice none 0 0] 76 (0, 0))) := by rw [hW39, hP39]; exact heap_alloc_new _ _
                            have HP39 : Hid (w5.heap.size ≤ P39) := by rw [hP39]; exact HBN29.out.size
                            have HA40 := hide' (own_below HV28.out HS39.out (Nat.le_refl _))
                            have HC40 : Hid (W39.cell? ⟨P26, 0, none⟩ = some (.slice a' us.length c')) := (HS39.out.cell (World.block_lt_of_cell? _ _ HC29.out)).trans HC29.out
                            have HBN40 := hide' (HBN29.out.trans (HS39.out.mono HBN29.out.size))
                            clear hW39 hP39
                            refine hK.out _ _ (fun _ => HSP.out _ HBN40.out) ?_
                            clear hK K'
                            refine wpAnyT_one (i := 21) (by kernel_rfl) rfl rfl (fun K' hK => ?_)
                            refine step_append_own rfl _ _ 32 rfl w5.heap.size 23 i5 _ 1 24 Try.underlying32 hi5 hs0 hs1 hs2 rfl (by decide) v28 h vsx rfl HA40.out ⟨P26, 0, none⟩ 1 1 [.slice a' us.length c'] rfl rfl (one_news HC40.out) (one_cell rfl) (by unfold maxLen; omega) (by omega) HBN40.out.size ?_
                            intro v41 W41 hov41 hg41
                            obtain ⟨a41x, c41x, rfl⟩ := own_slice hov41
                            have HV41 := hide' hov41
                            have HB41x : Hid (Below w5.heap.size w5 W41) := HBN40.out.grown hg41 HBN40.out.size (fun k e => (HA40.out.lt k e).1)
                            have HD41x : Hid (W41.heap[P39]? = some (.cells #[.slice none 0 0, .int .i64 0, .slice none 0 0] 76 (0, 0))) := ((KeepE.grown HA40.out hg41) _ _ _ _ HV39.out (by decide)).trans HV39.out
                            clear hov41 hg41
                            refine hK.out _ _ (fun _ => HSP.out _ HB41x.out) ?_
                            clear hK K'
                            refine wpAnyT_one (i := 22) (by kernel_rfl) rfl rfl (fun K' hK => ?_)
                            go_simp
                            refine hK.out _ _ (fun _ => HSP.out _ HB41x.out) ?_
                            clear hK K'
                            refine wpAnyT_one (i := 24) (by kernel_rfl) rfl rfl (fun K' hK => ?_)
                            obtain ⟨r0, r1, r2⟩ := BoxAt.of HD41x.out
                            have q0 := frozen_no HD41x.out 0
                            have q1 := frozen_no HD41x.out 1
                            have q2 := frozen_no HD41x.out 2
                            have HBO := hide' (box_set3 HD41x.out (.slice a4 us.length c4) (xc + s4 + x5) (.slice a41x (h + 1) c41x) _ rfl)
                            go_simp
                            refine hK.out _ _ (fun h => absurd rfl h) ?_
                            clear hK K' r0 r1 r2 q0 q1 q2
                            refine wpAnyT_done (by kernel_rfl) ?_ _
                            have HSG := hide' (signs_more HRX.out HRB5.out HXS.out.hours ((KeepE.below (e := 76) HB41x.out (Nat.le_refl _)).trans HBO.out.2.1) (own_keep HV41.out HBO.out.2.1 (by decide)))
                            have HBL := hide' (HB41x.out.trans (HBO.out.2.2 _ HP39.out))
                            have HBA := hide' (BoxAt.of HBO.out.1)
                            clear HBO
                            go_wp2_with fail
                            go_meet
                            case rel => exact ⟨P39, a41x, c41x, rfl, HBA, HSG, HBL⟩
                        · go_simp
                          obtain ⟨W44, hW44⟩ : ∃ Y, Y = World.alloc W26 (.cells #[.slice none 0 0, .int .i64 0, .slice none 0 0] 76) := ⟨_, rfl⟩
                          obtain ⟨P44, hP44⟩ : ∃ P, P = W26.heap.size := ⟨_, rfl⟩
                          rw [← hW44, ← hP44]
                          have HS44 : Hid (Below W26.heap.size W26 W44) := by rw [hW44]; exact (Below.refl _ _).alloc (Nat.le_refl _) _
                          have HV44 : Hid (W44.heap[P44]? = some (.cells #[.slice none 0 0, .int .i64 0, .slice none 0 0] 76 (0, 0))) := by rw [hW44, hP44]; exact heap_alloc_new _ _
                          have HP44 : Hid (w5.heap.size ≤ P44) := by rw [hP44]; exact HBN27.out.size
                          have HC45 : Hid (W44.cell? ⟨P26, 0, none⟩ = some (.slice a' us.length c')) := (HS44.out.cell (World.block_lt_of_cell? _ _ HV26.out)).trans HV26.out
                          have HBN45 := hide' (HBN27.out.trans (HS44.out.mono HBN27.out.size))
                          clear hW44 hP44
                          refine hK.out _ _ (fun _ => HSP.out _ HBN45.out) ?_
                          clear hK K'
                          refine wpAnyT_one (i := 15) (by kernel_rfl) rfl rfl (fun K' hK => ?_)
                          refine step_append_any rfl _ _ 32 rfl w5.heap.size 23 i5 _ 1 24 Try.underlying32 hi5 hs0 hs1 hs2 rfl (by decide) _ 0 [] rfl (World.ownsRow_nil _ _ _ _) (.slice ab h cb) h vsx rfl (rowAt_of_own (own_below HOX.out HBN45.out (Nat.le_refl _))) (rows_one HRX.out) (by unfold maxLen; omega) (by omega) HBN45.out.size ?_
                          intro v46 W46 hov46 hg46
                          rw [Nat.zero_add, List.nil_append] at hov46
                          have HS46 : Hid (Below W44.heap.size W44 W46) := (Below.refl _ _).grown hg46 (Nat.le_refl _) (fun k e => by cases e)
                          have HV46 := hide' hov46
                          clear hov46 hg46
                          have HC47 : Hid (W46.cell? ⟨P26, 0, none⟩ = some (.slice a' us.length c')) := (HS46.out.cell (World.block_lt_of_cell? _ _ HC45.out)).trans HC45.out
                          have HD47 : Hid (W46.heap[P44]? = some (.cells #[.slice none 0 0, .int .i64 0, .slice none 0 0] 76 (0, 0))) := (HS46.out.block _ (Array.getElem?_eq_some_iff.1 HV44.out).1).trans HV44.out
                          have HBN47 := hide' (HBN45.out.trans (HS46.out.mono HBN45.out.size))
                          refine hK.out _ _ (fun _ => HSP.out _ HBN47.out) ?_
                          clear hK K'
                          refine wpAnyT_one (i := 21) (by kernel_rfl) rfl rfl (fun K' hK => ?_)
                          refine step_append_own rfl _ _ 32 rfl w5.heap.size 23 i5 _ 1 24 Try.underlying32 hi5 hs0 hs1 hs2 rfl (by decide) v46 h vsx rfl HV46.out ⟨P26, 0, none⟩ 1 1 [.slice a' us.length c'] rfl rfl (one_news HC47.out) (one_cell rfl) (by unfold maxLen; omega) (by omega) HBN47.out.size ?_
                          intro v48 W48 hov48 hg48
                          obtain ⟨a48x, c48x, rfl⟩ := own_slice hov48
                          have HV48 := hide' hov48
                          have HB48x : Hid (Below w5.heap.size w5 W48) := HBN47.out.grown hg48 HBN47.out.size (fun k e => (HV46.out.lt k e).1)
                          have HD48x : Hid (W48.heap[P44]? = some (.cells #[.slice none 0 0, .int .i64 0, .slice none 0 0] 76 (0, 0))) := ((KeepE.grown HV46.out hg48) _ _ _ _ HD47.out (by decide)).trans HD47.out
                          clear hov48 hg48
                          refine hK.out _ _ (fun _ => HSP.out _ HB48x.out) ?_
                          clear hK K'
                          refine wpAnyT_one (i := 22) (by kernel_rfl) rfl rfl (fun K' hK => ?_)
                          go_simp
                          refine hK.out _ _ (fun _ => HSP.out _ HB48x.out) ?_
                          clear hK K'
                          refine wpAnyT_one (i := 24) (by kernel_rfl) rfl rfl (fun K' hK => ?_)
                          obtain ⟨r0, r1, r2⟩ := BoxAt.of HD48x.out
                          have q0 := frozen_no HD48x.out 0
                          have q1 := frozen_no HD48x.out 1
                          have q2 := frozen_no HD48x.out 2
                          have HBO := hide' (box_set3 HD48x.out (.slice a4 us.length c4) (xc + s4 + x5) (.slice a48x (h + 1) c48x) _ rfl)
                          go_simp
                          refine hK.out _ _ (fun h => absurd rfl h) ?_
                          clear hK K' r0 r1 r2 q0 q1 q2
                          refine wpAnyT_done (by kernel_rfl) ?_ _
                          have HSG := hide' (signs_more HRX.out HRB5.out HXS.out.hours ((KeepE.below (e := 76) HB48x.out (Nat.le_refl _)).trans HBO.out.2.1) (own_keep HV48.out HBO.out.2.1 (by decide)))
                          have HBL := hide' (HB48x.out.trans (HBO.out.2.2 _ HP44.out))
                          have HBA := hide' (BoxAt.of HBO.out.1)
                          clear HBO
                          go_wp2_with fail
                          go_meet
                          case rel => exact ⟨P44, a48x, c48x, rfl, HBA, HSG, HBL⟩
                      · go_simp
                        obtain ⟨W51, hW51⟩ : ∃ Y, Y = World.alloc X0 (.cells #[.slice none 0 0, .int .i64 0, .slice none 0 0] 76) := ⟨_, rfl⟩
                        obtain ⟨P51, hP51⟩ : ∃ P, P = X0.heap.size := ⟨_, rfl⟩
                        rw [← hW51, ← hP51]
                        have HS51 : Hid (Below X0.heap.size X0 W51) := by rw [hW51]; exact (Below.refl _ _).alloc (Nat.le_refl _) _
                        have HV51 : Hid (W51.heap[P51]? = some (.cells #[.slice none 0 0, .int .i64 0, .slice none 0 0] 76 (0, 0))) := by rw [hW51, hP51]; exact heap_alloc_new _ _
                        have HP51 : Hid (w5.heap.size ≤ P51) := by rw [hP51]; exact HB0.out.size
                        have HBN52 := hide' (HB0.out.trans (HS51.out.mono HB0.out.size))
                        clear hW51 hP51
                        refine hK.out _ _ (fun _ => HSP.out _ HBN52.out) ?_
                        clear hK K'
                        refine wpAnyT_two (i := 15) (j := 20) (by kernel_rfl) rfl rfl rfl rfl (fun K' hK => ?_) (fun K' hK => ?_)
                        · refine step_append_any rfl _ _ 32 rfl w5.heap.size 23 i5 _ 1 24 Try.underlying32 hi5 hs0 hs1 hs2 rfl (by decide) _ 0 [] rfl (World.ownsRow_nil _ _ _ _) (.slice ab h cb) h vsx rfl (rowAt_of_own (own_below HOX.out HBN52.out (Nat.le_refl _))) (rows_one HRX.out) (by unfold maxLen; omega) (by omega) HBN52.out.size ?_
                          intro v53 W53 hov53 hg53
                          rw [Nat.zero_add, List.nil_append] at hov53
                          have HS53 : Hid (Below W51.heap.size W51 W53) := (Below.refl _ _).grown hg53 (Nat.le_refl _) (fun k e => by cases e)
                          have HV53 := hide' hov53
                          clear hov53 hg53
                          have HD54 : Hid (W53.heap[P51]? = some (.cells #[.slice none 0 0, .int .i64 0, .slice none 0 0] 76 (0, 0))) := (HS53.out.block _ (Array.getElem?_eq_some_iff.1 HV51.out).1).trans HV51.out
                          have HBN54 := hide' (HBN52.out.trans (HS53.out.mono HBN52.out.size))
                          refine hK.out _ _ (fun _ => HSP.out _ HBN54.out) ?_
                          clear hK K'
                          refine wpAnyT_one (i := 20) (by kernel_rfl) rfl rfl (fun K' hK => ?_)
                          go_simp
                          obtain ⟨W55, hW55⟩ : ∃ Y, Y = World.alloc W53 (.cells #[.slice a' us.length c'] 23) := ⟨_, rfl⟩
                          obtain ⟨P55, hP55⟩ : ∃ P, P = W53.heap.size := ⟨_, rfl⟩
                          rw [← hW55, ← hP55]
                          have HS55 : Hid (Below W53.heap.size W53 W55) := by rw [hW55]; exact (Below.refl _ _).alloc (Nat.le_refl _) _
                          have HV55 : Hid (W55.cell? ⟨P55, 0, none⟩ = some (.slice a' us.length c')) := by rw [hW55, hP55]; exact cell_news _ [.slice a' us.length c'] 23 0 _ rfl
                          have HA56 := hide' (own_below HV53.out HS55.out (Nat.le_refl _))
                          have HD56 : Hid (W55.heap[P51]? = some (.cells #[.slice none 0 0, .int .i64 0, .slice none 0 0] 76 (0, 0))) := (HS55.out.block _ (Array.getElem?_eq_some_iff.1 HD54.out).1).trans HD54.out
                          have HBN56 := hide' (HBN54.out.trans (HS55.out.mono HBN54.out.size))
                          clear hW55 hP55
                          refine hK.out _ _ (fun _ => HSP.out _ HBN56.out) ?_
                          clear hK K'
                          refine wpAnyT_one (i := 21) (by kernel_rfl) rfl rfl (fun K' hK => ?_)
                          refine step_append_own rfl _ _ 32 rfl w5.heap.size 23 i5 _ 1 24 Try.underlying32 hi5 hs0 hs1 hs2 rfl (by decide) v53 h vsx rfl HA56.out ⟨P55, 0, none⟩ 1 1 [.slice a' us.length c'] rfl rfl (one_news HV55.out) (one_cell rfl) (by unfold maxLen; omega) (by omega) HBN56.out.size ?_
                          intro v57 W57 hov57 hg57
                          obtain ⟨a57x, c57x, rfl⟩ := own_slice hov57
                          have HV57 := hide' hov57
                          have HB57x : Hid (Below w5.heap.size w5 W57) := HBN56.out.grown hg57 HBN56.out.size (fun k e => (HA56.out.lt k e).1)
                          have HD57x : Hid (W57.heap[P51]? = some (.cells #[.slice none 0 0, .int .i64 0, .slice none 0 0] 76 (0, 0))) := ((KeepE.grown HA56.out hg57) _ _ _ _ HD56.out (by decide)).trans HD56.out
                          clear hov57 hg57
                          refine hK.out _ _ (fun _ => HSP.out _ HB57x.out) ?_
                          clear hK K'
                          refine wpAnyT_one (i := 22) (by kernel_rfl) rfl rfl (fun K' hK => ?_)
                          go_simp
                          refine hK.out _ _ (fun _ => HSP.out _ HB57x.out) ?_
                          clear hK K'
                          refine wpAnyT_one (i := 24) (by kernel_rfl) rfl rfl (fun K' hK => ?_)
                          obtain ⟨r0, r1, r2⟩ := BoxAt.of HD57x.out
                          have q0 := frozen_no HD57x.out 0
                          have q1 := frozen_no HD57x.out 1
                          have q2 := frozen_no HD57x.out 2
                          have HBO := hide' (box_set3 HD57x.out (.slice a4 us.length c4) (xc + s4 + x5) (.slice a57x (h + 1) c57x) _ rfl)
                          go_simp
                          refine hK.out _ _ (fun h => absurd rfl h) ?_
                          clear hK K' r0 r1 r2 q0 q1 q2
                          refine wpAnyT_done (by kernel_rfl) ?_ _
                          have HSG := hide' (signs_more HRX.out HRB5.out HXS.out.hours ((KeepE.below (e := 76) HB57x.out (Nat.le_refl _)).trans HBO.out.2.1) (own_keep HV57.out HBO.out.2.1 (by decide)))
                          have HBL := hide' (HB57x.out.trans (HBO.out.2.2 _ HP51.out))
                          have HBA := hide' (BoxAt.of HBO.out.1)
                          clear HBO
                          go_wp2_with fail
                          go_meet
                          case rel => exact ⟨P51, a57x, c57x, rfl, HBA, HSG, HBL⟩
                        · go_simp
                          obtain ⟨W60, hW60⟩ : ∃ Y, Y = World.alloc W51 (.cells #[.slice a' us.length c'] 23) := ⟨_, rfl⟩
                          obtain ⟨P60, hP60⟩ : ∃ P, P = W51.heap.size := ⟨_, rfl⟩
                          rw [← hW60, ← hP60]
                          have HS60 : Hid (Below W51.heap.size W51 W60) := by rw [hW60]; exact (Below.refl _ _).alloc (Nat.le_refl _) _
                          have HV60 : Hid (W60.cell? ⟨P60, 0, none⟩ = some (.slice a' us.length c')) := by rw [hW60, hP60]; exact cell_news _ [.slice a' us.length c'] 23 0 _ rfl
                          have HD61 : Hid (W60.heap[P51]? = some (.cells #[.slice none 0 0, .int .i64 0, .slice none 0 0] 76 (0, 0))) := (HS60.out.block _ (Array.getElem?_eq_some_iff.1 HV51.out).1).trans HV51.out
                          have HBN61 := hide' (HBN52.out.trans (HS60.out.mono HBN52.out.size))
                          clear hW60 hP60
                          refine hK.out _ _ (fun _ => HSP.out _ HBN61.out) ?_
                          clear hK K'
                          refine wpAnyT_one (i := 15) (by kernel_rfl) rfl rfl (fun K' hK => ?_)
                          refine step_append_any rfl _ _ 32 rfl w5.heap.size 23 i5 _ 1 24 Try.underlying32 hi5 hs0 hs1 hs2 rfl (by decide) _ 0 [] rfl (World.ownsRow_nil _ _ _ _) (.slice ab h cb) h vsx rfl (rowAt_of_own (own_below HOX.out HBN61.out (Nat.le_refl _))) (rows_one HRX.out) (by unfold maxLen; omega) (by omega) HBN61.out.size ?_
                          intro v62 W62 hov62 hg62
                          rw [Nat.zero_add, List.nil_append] at hov62
                          have HS62 : Hid (Below W60.heap.size W60 W62) := (Below.refl _ _).grown hg62 (Nat.le_refl _) (fun k e => by cases e)
                          have HV62 := hide' hov62
                          clear hov62 hg62
                          have HC63 : Hid (W62.cell? ⟨P60, 0, none⟩ = some (.slice a' us.length c')) := (HS62.out.cell (World.block_lt_of_cell? _ _ HV60.out)).trans HV60.out
                          have HD63 : Hid (W62.heap[P51]? = some (.cells #[.slice none 0 0, .int .i64 0, .slice none 0 0] 76 (0, 0))) := (HS62.out.block _ (Array.getElem?_eq_some_iff.1 HD61.out).1).trans HD61.out
                          have HBN63 := hide' (HBN61.out.trans (HS62.out.mono HBN61.out.size))
                          refine hK.out _ _ (fun _ => HSP.out _ HBN63.out) ?_
                          clear hK K'
                          refine wpAnyT_one (i := 21) (by kernel_rfl) rfl rfl (fun K' hK => ?_)
                          refine step_append_own rfl _ _ 32 rfl w5.heap.size 23 i5 _ 1 24 Try.underlying32 hi5 hs0 hs1 hs2 rfl (by decide) v62 h vsx rfl HV62.out ⟨P60, 0, none⟩ 1 1 [.slice a' us.length c'] rfl rfl (one_news HC63.out) (one_cell rfl) (by unfold maxLen; omega) (by omega) HBN63.out.size ?_
                          intro v64 W64 hov64 hg64
                          obtain ⟨a64x, c64x, rfl⟩ := own_slice hov64
                          have HV64 := hide' hov64
                          have HB64x : Hid (Below w5.heap.size w5 W64) := HBN63.out.grown hg64 HBN63.out.size (fun k e => (HV62.out.lt k e).1)
                          have HD64x : Hid (W64.heap[P51]? = some (.cells #[.slice none 0 0, .int .i64 0, .slice none 0 0] 76 (0, 0))) := ((KeepE.grown HV62.out hg64) _ _ _ _ HD63.out (by decide)).trans HD63.out
                          clear hov64 hg64
                          refine hK.out _ _ (fun _ => HSP.out _ HB64x.out) ?_
                          clear hK K'
                          refine wpAnyT_one (i := 22) (by kernel_rfl) rfl rfl (fun K' hK => ?_)
                          go_simp
                          refine hK.out _ _ (fun _ => HSP.out _ HB64x.out) ?_
                          clear hK K'
                          refine wpAnyT_one (i := 24) (by kernel_rfl) rfl rfl (fun K' hK => ?_)
                          obtain ⟨r0, r1, r2⟩ := BoxAt.of HD64x.out
                          have q0 := frozen_no HD64x.out 0
                          have q1 := frozen_no HD64x.out 1
                          have q2 := frozen_no HD64x.out 2
                          have HBO := hide' (box_set3 HD64x.out (.slice a4 us.length c4) (xc + s4 + x5) (.slice a64x (h + 1) c64x) _ rfl)
                          go_simp
                          refine hK.out _ _ (fun h => absurd rfl h) ?_
                          clear hK K' r0 r1 r2 q0 q1 q2
                          refine wpAnyT_done (by kernel_rfl) ?_ _
                          have HSG := hide' (signs_more HRX.out HRB5.out HXS.out.hours ((KeepE.below (e := 76) HB64x.out (Nat.le_refl _)).trans HBO.out.2.1) (own_keep HV64.out HBO.out.2.1 (by decide)))
                          have HBL := hide' (HB64x.out.trans (HBO.out.2.2 _ HP51.out))
                          have HBA := hide' (BoxAt.of HBO.out.1)
                          clear HBO
                          go_wp2_with fail
                          go_meet
                          case rel => exact ⟨P51, a64x, c64x, rfl, HBA, HSG, HBL⟩
                    case rest =>
                      obtain ⟨Pb, a2, c2, rfl, HBA, HSG, HB6⟩ := hcut
                      have HB6r := hide' (HBR5.out.trans (HB6.out.mono HBR5.out.size))
                      have HB6h := hide' (HBW5.out.trans (HB6.out.mono HBW5.out.size))
                      have HIL6 : Hid (IntsO wc (.slice a4 us.length c4) l) := own_below HIL.out (HB5.out.trans (HB6.out.mono HB5.out.size)) (Nat.le_refl _)
                      have HPS := hide' (putStep_any us.length (h + 1) acc ⟨l, x.cost + (s4 + x5), x.on ++ [r]⟩ xs3 (.slice a4 us.length c4, xc + s4 + x5, .slice a2 (h + 1) c2) wh.heap.size u13 wc (HNX.out.below HB6r.out (Nat.le_refl _)) ⟨by rw [← HXC.out, Int.add_assoc], HIL6.out, HSG.out⟩ HB6h.out.size h4 (by omega) (fun y hy => (HACW.out y hy).shape HM.out h4) HSH.out hac)
                      obtain ⟨r0, r1, r2⟩ := HBA.out
                      clear d1 d2 f3
                      go_wp2_with fail
                      refine HPS.out.mono ?_
                      rintro e w7 ⟨v7, xs7, rfl, hst7, hb7, hk7⟩
                      have HE : Hid (StepsO w7 wh.heap.size v7 xs7 (rowF us nk sk x (L.take (j + 1)) acc0)) := by
                        show StepsO _ _ _ _ _
                        rw [HRS2.out, putO_some HEX.out]
                        exact hst7
                      have HBW7 := hide' (HB6h.out.trans hb7)
                      clear hst7 hb7 hk7 r0 r1 r2 HPS
                      go_wp2
                      go_roundw
                      case rel => exact ⟨j + 1, xs7, by go_num, by omega, HE, HBW7⟩
                      case measure => simp [intOf]; omega
              · have HE : Hid (StepsO wr wh.heap.size u13 xs3 (hourF us nk sk L (N.take (k + 1)) [])) := by
                  have hje : j = L.length := by omega
                  have h1 := HNX.out
                  rw [hje, List.take_length] at h1
                  show StepsO _ _ _ _ _
                  rw [HHS.out]
                  exact h1
                go_wp2
                go_roundw
                case rel => exact ⟨k + 1, xs3, by go_num, by omega, HE, HBW⟩
                case measure => simp [intOf]; omega
          · have HE : Hid (StepsO wr 0 u13 xs2 (dpK us need spare (h + 1))) := by
              have hke : k = N.length := by omega
              have h1 := HNX.out
              rw [hke, List.take_length] at h1
              show StepsO _ _ _ _ _
              rw [HDP.out]
              exact ⟨h1.len, own_base h1.own (Nat.zero_le _), h1.each⟩
            have HSE2 := hide' (HSE.out.below HBW.out (Nat.le_refl _))
            have HBE2 := hide' (HBE.out.trans (HBW.out.mono HBE.out.size))
            go_wp2
            go_roundw
            case rel => exact ⟨h + 1, xs2, by go_num, by omega, HE, HSE2, HBE2⟩
            case measure => simp [intOf]; omega
      · have hhe : h = need.length := by omega
        have hNl : (dpK us need spare h).length ≤ 4294967296 := Nat.le_trans (dpK_len h4 need spare h) (pow16 (by omega))
        have HWAY := hide' ((dpK_inv HM.out h4 (need := need) (spare := spare) h).1)
        have HBI : Hid (∀ b l, dpK us need spare h = b :: l → BestIs us need spare (pickF us.length b l)) := fun b l e => dp_best HM.out h4 (by rw [← hhe]; exact e)
        have HNI : Hid (dpK us need spare h = [] → ∀ s, ¬ BestIs us need spare s) := fun e => dp_none HM.out h4 (by rw [← hhe]; exact e)
        subst hhe
        obtain ⟨N, hN⟩ : ∃ N, N = dpK us need spare need.length := ⟨_, rfl⟩
        rw [← hN] at HNOW HWAY hNl HBI HNI
        obtain ⟨ad, cd, rfl⟩ := own_slice HNOW.out.own
        clear hN
        by_cases hpos : N.length = 0
        · have HNO := hide' (HNI.out (List.length_eq_zero_iff.1 hpos))
          rw [hpos]
          clear hpos
          go_wp2
          refine bodyPost_ret (results_tmp3 rfl _ _ _) rfl ?_
          exact ⟨.inr (.inl ⟨HZ.out, HNO.out, rfl⟩), HBE.out⟩
        · obtain ⟨b, l, hbl⟩ : ∃ b l, N = b :: l := by
            cases N with
            | nil => exact absurd rfl hpos
            | cons b l => exact ⟨b, l, rfl⟩
          have HB := hide' (HBI.out b l hbl)
          have HNE := hide' hbl
          have hNl1 : N.length ≤ l.length + 1 := by rw [hbl]; exact Nat.le_refl _
          have hNl2 : l.length + 1 ≤ N.length := by rw [hbl]; exact Nat.le_refl _
          have hpos' : ((N.length : Int) == 0) = false := beq_eq_false_iff_ne.2 (by omega)
          have HSHA : Hid (∀ y ∈ N, Shape us.length need.length y) := fun y hy => (HWAY.out y hy).shape HM.out h4
          have elem : ∀ (i : Nat) (y : StepM) (hi : i < N.length), N[i]? = some y → ∃ aa ca ab cb, StepO wr (.slice aa us.length ca, y.cost, .slice ab need.length cb) y ∧ xs[i]? = some (.slice aa us.length ca, y.cost, .slice ab need.length cb) := fun i y hi hy => by
            obtain ⟨xv, hxv, hxo⟩ := HNOW.out.each i y hy
            obtain ⟨aa, ca, ab, cb, rfl, _, _⟩ := hxo.parts (HSHA.out y (List.mem_of_getElem? hy))
            exact ⟨aa, ca, ab, cb, hxo, hxv⟩
          have HEL := hide' elem
          obtain ⟨aa, ca, ab, cb, hxo, hxe⟩ := HEL.out 0 b (by omega) (by rw [hbl]; rfl)
          rw [List.getElem?_eq_getElem (by rw [HNOW.out.len]; omega)] at hxe
          replace hxe := Option.some.inj hxe
          obtain ⟨bn, on', cn', exn, hbn, hct⟩ := row_elem (f := SV.cells) (fun _ => rfl) (rowAt_of_own HNOW.out.own) 0 (by rw [HNOW.out.len]; omega) (by decide)
          cases exn
          rw [hxe] at hct
          have d0 := hct 0 _ rfl
          have d1 := hct 1 _ rfl
          have d2 := hct 2 _ rfl
          simp only [Nat.zero_mul, Nat.add_zero] at d0 d1 d2
          have HXO := hide' hxo
          obtain ⟨bc, hbc⟩ : ∃ c, c = b.cost := ⟨_, rfl⟩
          rw [← hbc] at d1 HXO
          obtain ⟨wn, hwn⟩ : ∃ x, x = wr := ⟨_, rfl⟩
          obtain ⟨P, hP⟩ : ∃ x, x = wr.heap.size := ⟨_, rfl⟩
          obtain ⟨W4, hW4⟩ : ∃ x, x = wr.alloc (.cells #[.slice aa us.length ca, .int .i64 bc, .slice ab need.length cb] 76) := ⟨_, rfl⟩
          have HW4 := hide' hW4
          have HPE := hide' hP
          have HPN : Hid (P = wn.heap.size) := by show _ = _; rw [hP, hwn]
          have HB4 : Hid (Below wn.heap.size wn W4) := by rw [hW4, hwn]; exact (Below.refl _ wr).alloc (Nat.le_refl _) _
          have HH4 : Hid (W4.heap[P]? = some (.cells #[.slice aa us.length ca, .int .i64 bc, .slice ab need.length cb] 76 (0, 0))) := by rw [hW4, hP]; exact heap_alloc_new _ _
          have HS4 : Hid (StepO W4 (.slice aa us.length ca, bc, .slice ab need.length cb) (pickF us.length b (l.take 0))) := by
            have h1 := HXO.out
            rw [← hwn] at h1
            exact h1.keep (KeepE.below HB4.out (Nat.le_refl _))
          rw [← hwn] at HNOW HBE HEL
          clear hxo hbn hct hxe HBI HNI elem hbl hbc hW4 hP hwn HXO
          go_wp2_with fail
          rw [← HW4.out, ← HPE.out]
          go_loopw [22] (fun iv W => ∃ (i : Nat) (xb : SV), iv = .int .i64 ((i : Int) + 1) ∧ i < N.length ∧ Hid (StepO W xb (pickF us.length b (l.take i))) ∧ Hid (W.heap[P]? = some (.cells #[xb.1, .int .i64 xb.2.1, xb.2.2] 76 (0, 0))) ∧ Hid (Below wn.heap.size wn W)) (fun iv _ => N.length - (intOf iv).toNat)
          case atStart => exact ⟨0, _, rfl, by omega, HS4, HH4, HB4⟩
          case round =>
            clear HS4 HH4 HB4 HW4 HPE d0 d1 d2
            obtain ⟨i, xb, rfl, hi, HSB, HHP, HBW⟩ := hrel
            obtain ⟨best, hbest⟩ : ∃ s, s = pickF us.length b (l.take i) := ⟨_, rfl⟩
            rw [← hbest] at HSB
            have HBM : Hid (best ∈ N) := by
              show _ ∈ _
              rw [hbest, HNE.out]
              rcases List.mem_cons.1 (pickF_spec us.length (l.take i) b).1 with h | h
              · rw [h]; exact List.mem_cons_self
              · exact List.mem_cons_of_mem _ (List.mem_of_mem_take h)
            have HBS := hide' (HSHA.out best HBM.out)
            obtain ⟨ba, bca, bb, bcb, rfl, _, _⟩ := HSB.out.parts HBS.out
            obtain ⟨kb, hkb⟩ : ∃ c, c = best.cost := ⟨_, rfl⟩
            have HKB := hide' hkb
            simp only [← hkb] at HHP
            obtain ⟨r0, r1, r2⟩ := BoxAt.of HHP.out
            have q0 := frozen_no HHP.out 0
            have q1 := frozen_no HHP.out 1
            have q2 := frozen_no HHP.out 2
            by_cases hlt2 : i + 1 < N.length
            · obtain ⟨y, hy⟩ : ∃ y, N[i + 1]? = some y := ⟨_, List.getElem?_eq_getElem hlt2⟩
              have hil : i < l.length := by omega
              have HPS : Hid (pickF us.length b (l.take (i + 1)) = if bet us.length y best then y else best) := by
                have h1 : l[i] = y := by
                  rw [HNE.out, List.getElem?_cons_succ, List.getElem?_eq_getElem hil] at hy
                  exact Option.some.inj hy
                show _ = _
                rw [pickF_snoc us.length b l i hil, h1, hbest]
              have HYS := hide' (HSHA.out y (List.mem_of_getElem? hy))
              obtain ⟨ya, yc, yb, yd, hyo, hye⟩ := HEL.out (i + 1) y hlt2 hy
              rw [List.getElem?_eq_getElem (by rw [HNOW.out.len]; exact hlt2)] at hye
              replace hye := Option.some.inj hye
              obtain ⟨bt, ot, ct', ext, hbt, hcty⟩ := row_elem (f := SV.cells) (fun _ => rfl) (rowAt_of_own HNOW.out.own) (i + 1) (by rw [HNOW.out.len]; exact hlt2) (by decide)
              cases ext
              rw [hye] at hcty
              have up : ∀ (c j : Nat) (u : Value), wn.cell? ⟨c, j, none⟩ = some u → wr.cell? ⟨c, j, none⟩ = some u := fun c j u h => (HBW.out.cell (World.block_lt_of_cell? wn _ h)).trans h
              have e0 := up _ _ _ (hcty 0 _ rfl)
              have e1 := up _ _ _ (hcty 1 _ rfl)
              have e2 := up _ _ _ (hcty 2 _ rfl)
              rw [Nat.add_zero] at e0
              obtain ⟨ky, hky⟩ : ∃ c, c = y.cost := ⟨_, rfl⟩
              simp only [← hky] at e1
              have HYO := hide' hyo
              have HSET : Hid (∀ q W, W = (((wr.drewN q).setCell ⟨P, 0, none⟩ (.slice ya us.length yc)).setCell ⟨P, 1, none⟩ (.int .i64 ky)).setCell ⟨P, 2, none⟩ (.slice yb need.length yd) → StepO W (.slice ya us.length yc, y.cost, .slice yb need.length yd) y ∧ W.heap[P]? = some (.cells #[.slice ya us.length yc, .int .i64 y.cost, .slice yb need.length yd] 76 (0, 0)) ∧ Below wn.heap.size wn W) := fun q W hW => by
                rw [hky] at hW
                have h1 := box_set3 (W := wr.drewN q) HHP.out (.slice ya us.length yc) y.cost (.slice yb need.length yd) W hW
                have h2 := (below_drewN HBW.out q).trans (h1.2.2 wn.heap.size (Nat.le_of_eq HPN.out.symm))
                exact ⟨HYO.out.keep (KeepE.below h2 (Nat.le_refl _)), h1.1, h2⟩
              have HSAME : Hid (∀ q, StepO (wr.drewN q) (.slice ba us.length bca, best.cost, .slice bb need.length bcb) best ∧ (wr.drewN q).heap[P]? = some (.cells #[.slice ba us.length bca, .int .i64 best.cost, .slice bb need.length bcb] 76 (0, 0)) ∧ Below wn.heap.size wn (wr.drewN q)) := fun q => by
                refine ⟨HSB.out.keep (KeepE.below (below_drewN (Below.refl _ wr) q) (Nat.le_refl _)), ?_, below_drewN HBW.out q⟩
                rw [← hkb]
                exact HHP.out
              have HEA : Hid (∀ q, Calls Try.prog 43 #[.slice yb need.length yd, .slice bb need.length bcb] (wr.drewN q) fun e w' => e = .returned (.bool (decide (sched us.length y.on < sched us.length best.on))) ∧ ∃ m, w' = (wr.drewN q).drewN m) := fun q => by
                have hbq : Below wn.heap.size wn (wr.drewN q) := below_drewN HBW.out q
                refine earlier_any us.length y.on best.on _ _ _ (HYO.out.keep (KeepE.below hbq (Nat.le_refl _))).on.at' (HSB.out.keep (KeepE.below (below_drewN (Below.refl _ wr) q) (Nat.le_refl _))).on.at' ?_ HYS.out.rows HBS.out.rows ?_ h4
                · rw [HYS.out.hours, HBS.out.hours]
                · rw [HYS.out.hours]; exact h8
              have HBE2 : Hid (bet us.length y best = (decide (ky < kb) || (decide (ky = kb) && decide (sched us.length y.on < sched us.length best.on)))) := by show _ = _; rw [hky, hkb]; rfl
              obtain ⟨eb, heb⟩ : ∃ b, b = decide (sched us.length y.on < sched us.length best.on) := ⟨_, rfl⟩
              rw [← heb] at HBE2 HEA
              clear hy hyo hye hbt hcty up heb hky hbest hkb
              by_cases hlt3 : ky < kb
              · have HPT : Hid (pickF us.length b (l.take (i + 1)) = y) := by show _ = _; rw [HPS.out, HBE2.out, decide_eq_true hlt3]; rfl
                go_wp2_with fail
                go_quiet (fail)
                go_wp2
                go_roundw
                case rel =>
                  obtain ⟨h1, h2, h3⟩ := HSET.out _ _ rfl
                  exact ⟨i + 1, (.slice ya us.length yc, y.cost, .slice yb need.length yd), by go_num, hlt2, by rw [HPT.out]; exact h1, h2, h3⟩
                case measure => simp [intOf]; omega
              · have hlt4 : decide (ky < kb) = false := decide_eq_false hlt3
                by_cases heq : ky = kb
                · subst heq
                  cases eb with
                  | true =>
                    have HPT : Hid (pickF us.length b (l.take (i + 1)) = y) := by show _ = _; rw [HPS.out, HBE2.out]; simp
                    go_wp2_with fail
                    go_quiet ((go_at_call 43; exact Calls.quiet_of (HEA.out _)))
                    go_wp2
                    go_roundw
                    case rel =>
                      obtain ⟨h1, h2, h3⟩ := HSET.out _ _ rfl
                      exact ⟨i + 1, (.slice ya us.length yc, y.cost, .slice yb need.length yd), by go_num, hlt2, by rw [HPT.out]; exact h1, h2, h3⟩
                    case measure => simp [intOf]; omega
                  | false =>
                    have HPT : Hid (pickF us.length b (l.take (i + 1)) = best) := by show _ = _; rw [HPS.out, HBE2.out]; simp
                    go_wp2_with fail
                    go_quiet ((go_at_call 43; exact Calls.quiet_of (HEA.out _)))
                    go_wp2
                    go_roundw
                    case rel =>
                      obtain ⟨h1, h2, h3⟩ := HSAME.out _
                      exact ⟨i + 1, (.slice ba us.length bca, best.cost, .slice bb need.length bcb), by go_num, hlt2, by rw [HPT.out]; exact h1, h2, h3⟩
                    case measure => simp [intOf]; omega
                · have hne : (ky == kb) = false := beq_eq_false_iff_ne.2 heq
                  have HPT : Hid (pickF us.length b (l.take (i + 1)) = best) := by show _ = _; rw [HPS.out, HBE2.out, hlt4, decide_eq_false heq]; rfl
                  go_wp2_with fail
                  go_quiet (fail)
                  go_wp2
                  go_roundw
                  case rel =>
                    obtain ⟨h1, h2, h3⟩ := HSAME.out _
                    exact ⟨i + 1, (.slice ba us.length bca, best.cost, .slice bb need.length bcb), by go_num, hlt2, by rw [HPT.out]; exact h1, h2, h3⟩
                  case measure => simp [intOf]; omega
            · have HBB : Hid (BestIs us need spare best) := by
                show BestIs us need spare best
                rw [hbest, List.take_of_length_le (by omega)]
                exact HB.out
              have HRES : Hid (∀ q, SignsAt (wr.drewN q) (.slice bb need.length bcb) best.on) := fun q => (HSB.out.keep (KeepE.below (below_drewN (Below.refl _ wr) q) (Nat.le_refl _))).on.at'
              have HBF : Hid (∀ q, Below w.heap.size w (wr.drewN q)) := fun q => HBE.out.trans ((below_drewN HBW.out q).mono HBE.out.size)
              clear hbest hkb
              go_wp2_with fail
              go_quiet (fail)
              go_wp2
              refine bodyPost_ret (results_tmp3 rfl _ _ _) rfl ?_
              exact ⟨.inr (.inr ⟨HZ.out, best, _, HBB.out, by rw [← HKB.out]; rfl, HRES.out _⟩), HBF.out _⟩
  · have HE : Hid (schedC us need spare ≠ 0) := hz
    obtain ⟨c0, hc0⟩ : ∃ c, c = schedC us need spare := ⟨_, rfl⟩
    have HC0 := hide' hc0
    have hcn : (c0 != 0) = true := bne_iff_ne.2 (by rw [hc0]; exact hz)
    rw [← hc0]
    clear hz hc0
    go_wp2
    refine bodyPost_ret (results_tmp3 rfl _ _ _) rfl ?_
    exact ⟨.inl ⟨HE.out, congrArg (fun c => Ending.returned (.tuple #[.slice none 0 0, .int .i64 0, .int .i64 c])) HC0.out⟩, HB1.out⟩
end Go.Proofs.Ytlbeecjkfakkpag
