/- A way to stand is put among the others, in the document's answer. -/
import Derived.Test.YtlbeecjkfakkpagCe
namespace Go.Proofs.Ytlbeecjkfakkpag
open Go.RowKit Go.Shelf

theorem Try.info76 : (Try.prog.info? 76).map (fun i => (i.zero, i.size, i.bytes)) = some (some (.agg #[.slice none 0 0, .int .i64 0, .slice none 0 0]), 3, 56) := by kernel_rfl
abbrev SV := Value × Int × Value
def SV.cells (x : SV) : List Value := [x.1, .int .i64 x.2.1, x.2.2]
/-- A way to stand: its lists lie apart. -/
structure StepO (w : World) (x : SV) (s : StepM) : Prop where
  cost : x.2.1 = s.cost
  stay : IntsO w x.1 s.stay
  on : SignsO w x.2.2 s.on
structure StepsO (w : World) (B : Nat) (v : Value) (xs : List SV) (ls : List StepM) : Prop where
  len : xs.length = ls.length
  own : w.ownsRow B 76 3 v ls.length (xs.flatMap SV.cells)
  each : ∀ (i : Nat) (s : StepM), ls[i]? = some s → ∃ x, xs[i]? = some x ∧ StepO w x s
theorem StepO.keep {w w' : World} {x : SV} {s : StepM} (h : StepO w x s) (hk : KeepE 76 w w') : StepO w' x s := ⟨h.cost, own_keep h.stay hk (by decide), h.on.keep hk (by decide) (by decide)⟩
theorem StepsO.below {w w' : World} {B B' : Nat} {v : Value} {xs : List SV} {ls : List StepM} (h : StepsO w B v xs ls) (hB : Below B' w w') (hb : w.heap.size ≤ B') : StepsO w' B v xs ls :=
  ⟨h.len, own_below h.own hB hb, fun i s hs => by obtain ⟨x, hx, ho⟩ := h.each i s hs; exact ⟨x, hx, ho.keep (KeepE.below hB hb)⟩⟩
/-- What all ways to stand have in common. -/
structure Shape (n hr : Nat) (s : StepM) : Prop where
  len : s.stay.length = n
  bound : ∀ x ∈ s.stay, -3 ≤ x ∧ x ≤ 3
  hours : s.on.length = hr
  rows : ∀ r ∈ s.on, r.length = n
/-- A step's value, with the lengths that it has. -/
theorem StepO.parts {w : World} {x : SV} {s : StepM} {n hr : Nat} (h : StepO w x s) (hs : Shape n hr s) : ∃ aa ca ab cb, x = (.slice aa n ca, s.cost, .slice ab hr cb) ∧ RowAt w (.slice aa n ca) n 1 (ints s.stay) ∧ SignsAt w (.slice ab hr cb) s.on := by
  obtain ⟨xa, xc, xb⟩ := x
  have h1 := h.stay
  have h2 := h.on.at'
  have h3 := h.cost
  simp only at h1 h2 h3
  obtain ⟨aa, ca, rfl⟩ := own_slice h1
  obtain ⟨ab, cb, rfl⟩ := h2.slice
  have h1' := rowAt_of_own h1
  rw [hs.len] at h1'
  rw [hs.hours] at h2
  exact ⟨aa, ca, ab, cb, by rw [hs.len, hs.hours, h3], h1', h2⟩
theorem StepsO.block {w : World} {B : Nat} {v : Value} {xs : List SV} {ls : List StepM} (h : StepsO w B v xs ls) (hk : 0 < ls.length) : ∃ g o cap, v = .slice (some ⟨g, o, none⟩) ls.length cap ∧ o = 0 := by
  rcases h.own.2 with ⟨_, h0⟩ | ⟨g, cap, cur, rfl, _⟩
  · omega
  · exact ⟨g, 0, cap, rfl, rfl⟩
theorem frozen_no {w : World} {g e : Nat} {cur : Array Value} (h : w.heap[g]? = some (.cells cur e (0, 0))) (j : Nat) : w.frozen? ⟨g, j, none⟩ = false := by
  simp [World.frozen?, h]
theorem StepsO.frozen {w : World} {B g o cap : Nat} {xs : List SV} {ls : List StepM} (h : StepsO w B (.slice (some ⟨g, o, none⟩) ls.length cap) xs ls) (j : Nat) : w.frozen? ⟨g, j, none⟩ = false := by
  rcases h.own.2 with ⟨h0, _⟩ | ⟨g', cap', cur, e, _, hg, _⟩
  · cases h0
  · cases e
    exact frozen_no hg j
theorem flat_set3 : ∀ (xs : List SV) (k : Nat) (x : SV), k < xs.length → (((xs.flatMap SV.cells).set (k * 3) x.1).set (k * 3 + 1) (.int .i64 x.2.1)).set (k * 3 + 2) x.2.2 = (xs.set k x).flatMap SV.cells
  | y :: xs, 0, x, _ => by simp [SV.cells]
  | y :: xs, k + 1, x, h => by
    have ih := flat_set3 xs k x (by simpa using h)
    rw [show (k + 1) * 3 = k * 3 + 3 by omega, List.set_cons_succ, List.flatMap_cons, List.flatMap_cons, ← ih]
    simp [SV.cells]
theorem KeepE.set {e g : Nat} {w : World} {cur : Array Value} {fz : Nat × Nat} (h : w.heap[g]? = some (.cells cur e fz)) (j : Nat) (u : Value) : KeepE e w (w.setCell ⟨g, j, none⟩ u) := fun k cur1 e1 fz1 hk he => by
  refine (Only.set g j u w).block k ?_
  rintro rfl
  rw [h] at hk
  cases hk
  exact he rfl
theorem StepsO.set {w : World} {B g o cap k : Nat} {xs : List SV} {ls : List StepM} {x : SV} {s : StepM} (h : StepsO w B (.slice (some ⟨g, o, none⟩) ls.length cap) xs ls) (ho : o = 0) (hx : StepO w x s) (hk : k < ls.length) (W : World)
    (hW : W = ((w.setCell ⟨g, o + k * 3, none⟩ x.1).setCell ⟨g, o + k * 3 + 1, none⟩ (.int .i64 x.2.1)).setCell ⟨g, o + k * 3 + 2, none⟩ x.2.2) :
    StepsO W B (.slice (some ⟨g, o, none⟩) ls.length cap) (xs.set k x) (ls.set k s) ∧ Below B w W ∧ KeepE 76 w W := by
  subst ho
  rcases h.own.2 with ⟨h0, _⟩ | ⟨g', cap', cur, e, hBg, hg, hnc, hcm, hsz, htk⟩
  · cases h0
  · cases e
    have g1 := set_any hg (0 + k * 3) x.1
    have g2 := set_any g1 (0 + k * 3 + 1) (.int .i64 x.2.1)
    have g3 := set_any g2 (0 + k * 3 + 2) x.2.2
    rw [← hW] at g3
    have hke : KeepE 76 w W := by rw [hW]; exact (KeepE.set hg _ _).trans ((KeepE.set g1 _ _).trans (KeepE.set g2 _ _))
    have hbe : Below B w W := by
      rw [hW]
      exact ((Only.set g _ _ w).below hBg).trans (((Only.set g _ _ _).below hBg).trans ((Only.set g _ _ _).below hBg))
    refine ⟨⟨by rw [List.length_set, List.length_set]; exact h.len, ⟨?_, .inr ⟨g, cap, _, by rw [List.length_set], hBg, g3, by rw [List.length_set]; exact hnc, hcm, by simp [hsz], ?_⟩⟩, fun i y hy => ?_⟩, hbe, hke⟩
    · rw [← flat_set3 xs k x (by rw [h.len]; exact hk), List.length_set, List.length_set, List.length_set, List.length_set]
      exact h.own.1
    · rw [List.length_set, ← flat_set3 xs k x (by rw [h.len]; exact hk), ← htk]
      simp only [Array.toList_setIfInBounds, Nat.zero_add, List.take_set]
    · by_cases hik : i = k
      · subst hik
        rw [List.getElem?_set_self hk] at hy
        cases hy
        exact ⟨x, List.getElem?_set_self (by rw [h.len]; exact hk), hx.keep hke⟩
      · rw [List.getElem?_set_ne (fun e => hik e.symm)] at hy
        obtain ⟨z, hz, hzo⟩ := h.each i y hy
        exact ⟨z, by rw [List.getElem?_set_ne (fun e => hik e.symm)]; exact hz, hzo.keep hke⟩
theorem StepsO.snoc {w w' : World} {B : Nat} {v' : Value} {xs : List SV} {ls : List StepM} {x : SV} {s : StepM} (hl : xs.length = ls.length) (he : ∀ (i : Nat) (s : StepM), ls[i]? = some s → ∃ x, xs[i]? = some x ∧ StepO w x s) (hx : StepO w x s) (hk : KeepE 76 w w') (ho : w'.ownsRow B 76 3 v' (ls.length + 1) (xs.flatMap SV.cells ++ x.cells)) : StepsO w' B v' (xs ++ [x]) (ls ++ [s]) := by
  refine ⟨by simp [hl], by rw [List.length_append, List.length_singleton, List.flatMap_append]; simpa using ho, fun i y hy => ?_⟩
  by_cases hi : i < ls.length
  · rw [List.getElem?_append_left hi] at hy
    obtain ⟨z, hz, hzo⟩ := he i y hy
    exact ⟨z, by rw [List.getElem?_append_left (by rw [hl]; exact hi)]; exact hz, hzo.keep hk⟩
  · by_cases hie : i = ls.length
    · subst hie
      rw [List.getElem?_append_right (Nat.le_refl _), Nat.sub_self] at hy
      cases hy
      exact ⟨x, by rw [List.getElem?_append_right (by rw [hl]; exact Nat.le_refl _), hl, Nat.sub_self]; rfl, hx.keep hk⟩
    · rw [List.getElem?_eq_none (by simp; omega)] at hy
      cases hy
set_option maxRecDepth 100000 in
set_option maxHeartbeats 4000000 in
theorem putStep_any (n hr : Nat) (ls : List StepM) (s : StepM) (xs : List SV) (x : SV) (B : Nat) (lv : Value) (w : World) (hls : StepsO w B lv xs ls) (hs : StepO w x s) (hB : B ≤ w.heap.size) (h4 : n ≤ 4) (h8 : hr ≤ 8) (hsl : ∀ y ∈ ls, Shape n hr y) (hss : Shape n hr s) (hlen : ls.length ≤ 1000000000000) :
    Calls Try.prog 42 #[lv, .agg #[x.1, .int .i64 x.2.1, x.2.2]] w fun e w' => ∃ v' xs', e = .returned v' ∧ StepsO w' B v' xs' (putL n ls s) ∧ Below B w w' ∧ KeepE 76 w w' := by
  obtain ⟨i6, hi6, hz0, hz1, hz2⟩ := info_parts Try.info76
  have HLS := hide' hls
  have HS := hide' hs
  have HSL := hide' hsl
  have HSS := hide' hss
  obtain ⟨aa, ca, ab, cb, rfl, hsa, hsb⟩ := hs.parts hss
  have HSA := hide' hsa
  have HSB := hide' hsb
  have HCS : Hid (∀ W, RowAt W (.slice aa n ca) n 1 (ints s.stay) → Calls Try.prog 56 #[.slice aa n ca] W fun e w' => e = .returned (.int .i64 (code s.stay)) ∧ w' = W) := fun W h => stayCode_any s.stay _ W (by rw [HSS.out.len]; exact h) (by rw [HSS.out.len]; exact h4) HSS.out.bound
  obtain ⟨al, cl, rfl⟩ := own_slice hls.own
  obtain ⟨sc, hsc⟩ : ∃ c, c = s.cost := ⟨_, rfl⟩
  have HSC := hide' hsc
  rw [← hsc]
  obtain ⟨W1, hW1⟩ : ∃ x, x = w.alloc (.cells #[.slice aa n ca, .int .i64 sc, .slice ab hr cb] 76) := ⟨_, rfl⟩
  have m0 : W1.cell? ⟨w.heap.size, 0, none⟩ = some (.slice aa n ca) := by rw [hW1]; exact cell_news w [.slice aa n ca, .int .i64 sc, .slice ab hr cb] 76 0 _ rfl
  have m1 : W1.cell? ⟨w.heap.size, 1, none⟩ = some (.int .i64 sc) := by rw [hW1]; exact cell_news w [.slice aa n ca, .int .i64 sc, .slice ab hr cb] 76 1 _ rfl
  have m2 : W1.cell? ⟨w.heap.size, 2, none⟩ = some (.slice ab hr cb) := by rw [hW1]; exact cell_news w [.slice aa n ca, .int .i64 sc, .slice ab hr cb] 76 2 _ rfl
  have HB1 : Hid (Below w.heap.size w W1) := by rw [hW1]; exact (Below.refl _ w).alloc (Nat.le_refl _) _
  have HW1 := hide' hW1
  clear hls hs hsl hss hsa hsb hsc hW1
  go_enter Try.func42, Try.ntmps42
  go_wp2_with fail
  rw [← HW1.out]
  refine (HCS.out W1 (HSA.out.below HB1.out (Nat.le_refl _))).mono ?_
  rintro e w' ⟨rfl, rfl⟩
  obtain ⟨cs, hcs⟩ : ∃ c : Nat, c = code s.stay := ⟨_, rfl⟩
  have HCO := hide' hcs
  rw [← hcs]
  clear hcs
  go_wp2_with fail
  go_loopw [6] (fun iv wr => ∃ (k : Nat), iv = .int .i64 k ∧ k ≤ ls.length ∧ Hid (∀ (j : Nat) (y : StepM), j < k → ls[j]? = some y → code y.stay ≠ code s.stay) ∧ Hid (wr = w')) (fun iv _ => ls.length - (intOf iv).toNat)
  case atStart => exact ⟨0, rfl, Nat.zero_le _, fun j _ h => absurd h (Nat.not_lt_zero j), rfl⟩
  case round =>
    obtain ⟨k, rfl, hk, HOK, HW⟩ := hrel
    obtain rfl := HW.out
    clear HW
    by_cases hlt : k < ls.length
    · obtain ⟨g, o, cap, ex, ho⟩ := HLS.out.block (by omega)
      cases ex
      obtain ⟨y, hy⟩ : ∃ y, y = ls[k] := ⟨_, rfl⟩
      have HK : Hid (ls[k]? = some y) := by show _ = _; rw [hy]; exact List.getElem?_eq_getElem hlt
      obtain ⟨xk, hxk, hyo⟩ := HLS.out.each k y HK.out
      have HYS : Hid (Shape n hr y) := HSL.out y (List.mem_of_getElem? HK.out)
      obtain ⟨ya, yc, yb, yd, rfl, hya, hyb⟩ := hyo.parts HYS.out
      obtain ⟨bt, ot, ct', ex, hbt, hct⟩ := row_elem (f := SV.cells) (fun _ => rfl) (rowAt_of_own HLS.out.own) k (by rw [HLS.out.len]; exact hlt) (by decide)
      cases ex
      have hxe : xs[k]'(by rw [HLS.out.len]; exact hlt) = (.slice ya n yc, y.cost, .slice yb hr yd) := by
        have h := hxk
        rw [List.getElem?_eq_getElem (by rw [HLS.out.len]; exact hlt)] at h
        exact Option.some.inj h
      rw [hxe] at hct
      have up : ∀ (c j : Nat) (u : Value), w.cell? ⟨c, j, none⟩ = some u → wr.cell? ⟨c, j, none⟩ = some u := fun c j u h => (HB1.out.cell (World.block_lt_of_cell? w _ h)).trans h
      have d0 := up _ _ _ (hct 0 _ rfl)
      have d1 := up _ _ _ (hct 1 _ rfl)
      have d2 := up _ _ _ (hct 2 _ rfl)
      rw [Nat.add_zero] at d0
      have f0 := (World.frozen?_of_block (HB1.out.block g (World.block_lt_of_cell? w _ (hct 0 _ rfl)))).trans (HLS.out.frozen (o + k * 3))
      have f1 := (World.frozen?_of_block (HB1.out.block g (World.block_lt_of_cell? w _ (hct 0 _ rfl)))).trans (HLS.out.frozen (o + k * 3 + 1))
      have f2 := (World.frozen?_of_block (HB1.out.block g (World.block_lt_of_cell? w _ (hct 0 _ rfl)))).trans (HLS.out.frozen (o + k * 3 + 2))
      have HCY : Hid (Calls Try.prog 56 #[.slice ya n yc] wr fun e w' => e = .returned (.int .i64 (code y.stay)) ∧ w' = wr) := stayCode_any y.stay _ wr (by rw [HYS.out.len]; exact hya.below HB1.out (Nat.le_refl _)) (by rw [HYS.out.len]; exact h4) HYS.out.bound
      have HYB := hide' (show SignsAt w (.slice yb hr yd) y.on from hyb)
      obtain ⟨yk, hyk⟩ : ∃ c, c = y.cost := ⟨_, rfl⟩
      have HYK := hide' hyk
      simp only [← hyk] at d1
      obtain ⟨cy, hcy⟩ : ∃ c : Nat, c = code y.stay := ⟨_, rfl⟩
      have HCC := hide' hcy
      rw [← hcy] at HCY
      have HO0 := hide' ho
      have HPA : Hid (code y.stay = code s.stay → putL n ls s = if bet n s y then ls.set k s else ls) := fun h => putL_at ls k HOK.out HK.out h
      have HNX : Hid (code y.stay ≠ code s.stay → ∀ (j : Nat) (z : StepM), j < k + 1 → ls[j]? = some z → code z.stay ≠ code s.stay) := fun h j z hj hz => by
        by_cases e : j = k
        · rw [e, HK.out] at hz
          cases hz
          exact h
        · exact HOK.out j z (by omega) hz
      have HSET : Hid (∀ q W, W = (((wr.drewN q).setCell ⟨g, o + k * 3, none⟩ (.slice aa n ca)).setCell ⟨g, o + k * 3 + 1, none⟩ (.int .i64 sc)).setCell ⟨g, o + k * 3 + 2, none⟩ (.slice ab hr cb) → ∃ xs', StepsO W B (.slice (some ⟨g, o, none⟩) ls.length cl) xs' (ls.set k s) ∧ Below B w W ∧ KeepE 76 w W) := fun q W hW => by
        have hbq : Below w.heap.size w (wr.drewN q) := below_drewN HB1.out q
        have hke : KeepE 76 w (wr.drewN q) := KeepE.below hbq (Nat.le_refl _)
        rw [HSC.out] at hW
        have := StepsO.set (HLS.out.below hbq (Nat.le_refl _)) HO0.out (HS.out.keep hke) hlt W hW
        exact ⟨_, this.1, (hbq.mono hB).trans this.2.1, hke.trans this.2.2⟩
      have HSAME : Hid (∀ q, StepsO (wr.drewN q) B (.slice (some ⟨g, o, none⟩) ls.length cl) xs ls ∧ Below B w (wr.drewN q) ∧ KeepE 76 w (wr.drewN q)) := fun q => by
        have hbq : Below w.heap.size w (wr.drewN q) := below_drewN HB1.out q
        exact ⟨HLS.out.below hbq (Nat.le_refl _), hbq.mono hB, KeepE.below hbq (Nat.le_refl _)⟩
      have HEA : Hid (∀ q, Calls Try.prog 43 #[.slice ab hr cb, .slice yb hr yd] (wr.drewN q) fun e w' => e = .returned (.bool (decide (sched n s.on < sched n y.on))) ∧ ∃ m, w' = (wr.drewN q).drewN m) := fun q => by
        have hbq : Below w.heap.size w (wr.drewN q) := below_drewN HB1.out q
        have hkb : ∀ (v : Value) (l : List (List Bool)), SignsO w v l → SignsAt (wr.drewN q) v l := fun v l h => (h.below hbq (Nat.le_refl _)).at'
        refine earlier_any n s.on y.on _ _ _ (hkb _ _ HS.out.on) (hkb _ _ hyo.on) ?_ HSS.out.rows HYS.out.rows ?_ h4
        · rw [HSS.out.hours, HYS.out.hours]
        · rw [HSS.out.hours]; exact h8
      have HBE : Hid (bet n s y = (decide (sc < yk) || (decide (sc = yk) && decide (sched n s.on < sched n y.on)))) := by show _ = _; rw [HSC.out, hyk]; rfl
      clear ho hxk hyo hya hyb hct hxe up hyk hcy hy hbt
      go_wp2_with fail
      refine HCY.out.mono ?_
      rintro e w2 ⟨rfl, rfl⟩
      have HCB : Hid (cy = cs ↔ code y.stay = code s.stay) := by show _ ↔ _; rw [HCC.out, HCO.out]
      clear HCC HCO HCS HCY
      by_cases hce : cy = cs
      · have HP := hide' (HPA.out (HCB.out.1 hce))
        subst hce
        obtain ⟨eb, heb⟩ : ∃ b, b = decide (sched n s.on < sched n y.on) := ⟨_, rfl⟩
        rw [← heb] at HBE HEA
        clear heb HNX HCB
        by_cases hlt2 : sc < yk
        · have HPS : Hid (putL n ls s = ls.set k s) := by show _ = _; rw [HP.out, HBE.out, decide_eq_true hlt2]; rfl
          go_wp2_with fail
          go_quiet (fail)
          go_wp2
          go_ret
          obtain ⟨xs', h1, h2, h3⟩ := HSET.out _ _ rfl
          exact ⟨_, xs', rfl, by rw [HPS.out]; exact h1, h2, h3⟩
        · have hlt3 : decide (sc < yk) = false := decide_eq_false hlt2
          by_cases heq : sc = yk
          · subst heq
            cases eb with
            | true =>
              have HPS : Hid (putL n ls s = ls.set k s) := by show _ = _; rw [HP.out, HBE.out]; simp
              go_wp2_with fail
              go_quiet ((go_at_call 43; exact Calls.quiet_of (HEA.out _)))
              go_wp2
              go_ret
              obtain ⟨xs', h1, h2, h3⟩ := HSET.out _ _ rfl
              exact ⟨_, xs', rfl, by rw [HPS.out]; exact h1, h2, h3⟩
            | false =>
              have HPS : Hid (putL n ls s = ls) := by show _ = _; rw [HP.out, HBE.out]; simp
              go_wp2_with fail
              go_quiet ((go_at_call 43; exact Calls.quiet_of (HEA.out _)))
              go_wp2
              go_ret
              obtain ⟨h1, h2, h3⟩ := HSAME.out _
              exact ⟨_, xs, rfl, by rw [HPS.out]; exact h1, h2, h3⟩
          · have hne : (sc == yk) = false := beq_eq_false_iff_ne.2 heq
            have HPS : Hid (putL n ls s = ls) := by show _ = _; rw [HP.out, HBE.out, hlt3, decide_eq_false heq]; rfl
            go_wp2_with fail
            go_quiet (fail)
            go_wp2
            go_ret
            obtain ⟨h1, h2, h3⟩ := HSAME.out _
            exact ⟨_, xs, rfl, by rw [HPS.out]; exact h1, h2, h3⟩
      · have HN2 := hide' (HNX.out (fun h => hce (HCB.out.2 h)))
        have hne : ((cy : Int) == (cs : Int)) = false := beq_eq_false_iff_ne.2 (by omega)
        clear hce
        go_wp2
        go_roundw
        case rel => exact ⟨k + 1, by go_num, by omega, HN2, by first | rfl | trivial⟩
        case measure => simp [intOf]; omega
    · have HNEW : Hid (putL n ls s = ls ++ [s]) := putL_new ls (fun j y hy => HOK.out j y (by have := (List.getElem?_eq_some_iff.1 hy).1; omega) hy)
      have HOW : Hid (wr.ownsRow B 76 3 (.slice al ls.length cl) ls.length (xs.flatMap SV.cells)) := own_below HLS.out.own HB1.out (Nat.le_refl _)
      have HKE : Hid (KeepE 76 w wr) := KeepE.below HB1.out (Nat.le_refl _)
      have hBr : B ≤ wr.heap.size := Nat.le_trans hB HB1.out.size
      go_wp2_with (at_builtin; refine wpList_append_own _ rfl _ _ 77 rfl B 76 i6 _ 3 56 Try.underlying77 hi6 hz0 hz1 hz2 rfl (by decide) _ _ _ rfl (HOW.out.alloc _) ⟨wr.heap.size, 0, none⟩ 1 1 [.slice aa n ca, .int .i64 sc, .slice ab hr cb] rfl rfl (cell_news _ [.slice aa n ca, .int .i64 sc, .slice ab hr cb] 76) (by intro u hu; simp only [List.mem_cons, List.not_mem_nil, or_false] at hu; rcases hu with rfl | rfl | rfl <;> rfl) (by unfold maxLen; omega) (by omega) (by simp; omega) ?_; intro v' w2 hown' hgrow _; refine Still.go ?_)
      unfold Still
      have HKG : Hid (KeepE 76 w w2) := HKE.out.trans ((KeepE.alloc 76 wr _).trans (KeepE.grown (HOW.out.alloc _) hgrow))
      have HBG : Hid (Below B w w2) := below_app (HB1.out.mono hB) HOW.out (Nat.le_refl _) hBr hgrow
      have HSN : Hid (StepsO w2 B v' (xs ++ [(.slice aa n ca, s.cost, .slice ab hr cb)]) (ls ++ [s])) := StepsO.snoc HLS.out.len HLS.out.each HS.out HKG.out (by rw [← HSC.out]; exact hown')
      clear hown' hgrow
      go_wp2
      go_ret
      exact ⟨_, _, rfl, by rw [HNEW.out]; exact HSN.out, HBG.out, HKG.out⟩
end Go.Proofs.Ytlbeecjkfakkpag
