/- What the document shows at a time. -/
import Derived.Test.YtmbgjmkndhjilakFu
namespace Go.Proofs.Ytmbgjmkndhjilak
open Go.RowKit Go.Shelf

theorem nat_of {x : Int} (h : 0 ≤ x) : ∃ n : Nat, x = (n : Int) := ⟨x.toNat, (Int.toNat_of_nonneg h).symm⟩
theorem line_at {ts vs : List Int} {u v : Value} {w : World} (hu : RowAt w u ts.length 1 (ints ts)) (hv : RowAt w v vs.length 1 (ints vs)) (ho : KnownOk ts vs) {i : Nat} (hi : i + 1 < ts.length) {x : Int} (hx : ts.getD i 0 ≤ x) (hx1 : x ≤ 1000000000) : Calls Try.prog 61 #[u, v, .int .i64 (i : Int), .int .i64 x] w (CmpR (lineV (vs.getD i 0) (vs.getD (i + 1) 0) (ts.getD i 0) (ts.getD (i + 1) 0) x) w) := by
  obtain ⟨bt, ot, ct, eu, c1⟩ := ints_cell hu i (by omega)
  obtain ⟨b1, o1, ct1, eu1, c2⟩ := ints_cell hu (i + 1) hi
  obtain ⟨bv, ov, cv, ev, c3⟩ := ints_cell hv i (by rw [ho.same]; omega)
  obtain ⟨b2, o2, cv2, ev2, c4⟩ := ints_cell hv (i + 1) (by rw [ho.same]; exact hi)
  subst eu ev
  simp only [Value.slice.injEq, Option.some.injEq, Addr.mk.injEq] at eu1 ev2
  obtain ⟨⟨rfl, rfl, _⟩, _⟩ := eu1
  obtain ⟨⟨rfl, rfl, _⟩, _⟩ := ev2
  obtain ⟨q0, h1⟩ := nat_of (ho.t i (by omega)).1
  obtain ⟨q1, h2⟩ := nat_of (ho.t (i + 1) hi).1
  obtain ⟨p0, h3⟩ := nat_of (ho.v i (by omega)).1
  obtain ⟨p1, h4⟩ := nat_of (ho.v (i + 1) hi).1
  have t1 := (ho.t (i + 1) hi).2
  have t2 := (ho.v (i + 1) hi).2
  have t3 := ho.tr i hi
  have t4 := ho.vr i hi
  have hn := ho.n50
  rw [h1] at c1 hx t3 ⊢
  rw [h2] at c2 t1 t3 ⊢
  rw [h3] at c3 t4 ⊢
  rw [h4] at c4 t2 t4 ⊢
  obtain ⟨y, rfl⟩ := nat_of (x := x) (by omega)
  rw [ho.same]
  exact lineAt_any (by omega) hn (by omega) (by omega) (by omega) (by omega) (by omega) (by omega) (fun z hb => ⟨up_cell hb c1, up_cell hb c2, up_cell hb c3, up_cell hb c4⟩)
theorem at_exists {ts : List Int} (hs : Sorted ts) (x : Int) : ∃ p, AtP ts x p := by
  have h : ∀ m k, k + m = ts.length → (∀ j, j < k → ts.getD j 0 < x) → ∃ p, AtP ts x p := fun m => by
    induction m with
    | zero => exact fun k hk hl => ⟨k, by omega, hl, fun j h1 h2 => by omega⟩
    | succ m ih =>
      intro k hk hl
      by_cases hlt : ts.getD k 0 < x
      · exact ih (k + 1) (by omega) (fun j hj => by
          by_cases e : j = k
          · rw [e]; exact hlt
          · exact hl j (by omega))
      · exact ⟨k, by omega, hl, fun j h1 h2 => by have := hs k j h1 h2; omega⟩
  exact h ts.length 0 (by omega) (fun j hj => by omega)
theorem at_is {ts : List Int} {x : Int} {p k : Nat} (hp : AtP ts x p) (hk : k ≤ ts.length) (h1 : ∀ j, j < k → ts.getD j 0 < x) (h2 : k < ts.length → x < ts.getD k 0) : p = k := by
  apply Nat.le_antisymm
  · apply Nat.le_of_not_lt
    intro q
    have a := hp.lo k q
    have b := h2 (Nat.lt_of_lt_of_le q hp.le)
    omega
  · apply Nat.le_of_not_lt
    intro q
    have a := hp.hi p (Nat.le_refl _) (by omega)
    have b := h1 p q
    omega
theorem val_between {ts vs : List Int} {x : Int} {p k : Nat} (hp : AtP ts x p) (hk : k + 1 < ts.length) (h1 : ∀ j, j ≤ k → ts.getD j 0 < x) (h2 : x < ts.getD (k + 1) 0) : valP ts vs p x = lineV (vs.getD k 0) (vs.getD (k + 1) 0) (ts.getD k 0) (ts.getD (k + 1) 0) x := by
  obtain rfl := at_is hp (k := k + 1) (by omega) (fun j hj => h1 j (by omega)) (fun _ => h2)
  unfold valP
  rw [if_neg (by omega), show min (k + 1) (ts.length - 1) = k + 1 by omega, show k + 1 - 1 = k by omega]
theorem val_behind {ts vs : List Int} {x : Int} {p : Nat} (hp : AtP ts x p) (hk : 2 ≤ ts.length) (h1 : ∀ j, j < ts.length → ts.getD j 0 < x) : valP ts vs p x = lineV (vs.getD (ts.length - 2) 0) (vs.getD (ts.length - 2 + 1) 0) (ts.getD (ts.length - 2) 0) (ts.getD (ts.length - 2 + 1) 0) x := by
  obtain rfl := at_is hp (k := ts.length) (Nat.le_refl _) h1 (fun h => absurd h (Nat.lt_irrefl _))
  unfold valP
  rw [if_neg (by omega), show min ts.length (ts.length - 1) = ts.length - 2 + 1 by omega, show ts.length - 2 + 1 - 1 = ts.length - 2 by omega]
theorem val_first {ts vs : List Int} {x : Int} {p : Nat} (hp : AtP ts x p) (h0 : 0 < ts.length) (h : x < ts.getD 0 0 ∨ ts.length = 1) : valP ts vs p x = vs.getD 0 0 := by
  unfold valP
  rw [if_pos ?_]
  rcases h with h | h
  · left
    exact at_is hp (k := 0) (by omega) (fun j hj => by omega) (fun _ => h)
  · right
    exact h
set_option maxRecDepth 100000 in
set_option maxHeartbeats 4000000 in
theorem shownAt_any {ts vs : List Int} {u v : Value} {w : World} (hu : RowAt w u ts.length 1 (ints ts)) (hv : RowAt w v vs.length 1 (ints vs)) (ho : KnownOk ts vs) {x : Int} (_hx0 : 0 ≤ x) (hx1 : x ≤ 1000000000) {p : Nat} (hp : AtP ts x p) : Calls Try.prog 34 #[u, v, .int .i64 x] w (CmpR (valP ts vs p x) w) := by
  have HO := hide' ho
  have HP := hide' hp
  have HU := hide' hu
  have HV := hide' hv
  have HLA := hide' (fun (i : Nat) (hi : i + 1 < ts.length) (hx : ts.getD i 0 ≤ x) => line_at hu hv ho hi hx hx1)
  have hn := ho.n50
  have hn1 := ho.n1
  have hsm := ho.same
  obtain ⟨bt, ot, ct, eu, c0⟩ := ints_cell hu 0 (by omega)
  obtain ⟨bv, ov, cv, ev, k0⟩ := ints_cell hv 0 (by omega)
  subst eu ev
  have HC0 : Hid (w.cell? ⟨bt, ot, none⟩ = some (.int .i64 (ts.getD 0 0)) ∧ w.cell? ⟨bv, ov, none⟩ = some (.int .i64 (vs.getD 0 0))) := ⟨c0, k0⟩
  obtain ⟨VP, HVP⟩ : ∃ z, Hid (z = valP ts vs p x) := ⟨_, rfl⟩
  rw [← HVP.out]
  clear ho hp hu hv c0 k0
  rw [hsm]
  rw [hsm] at HV HLA
  clear hsm
  go_enter Try.func34, Try.ntmps34
  go_wp2_with fail
  go_loopw [8] (fun iv wr => ∃ (k : Nat), iv = .int .i64 k ∧ k ≤ ts.length ∧ Hid (∀ j, j < k → ts.getD j 0 ≠ x) ∧ wr = w) (fun iv _ => ts.length - (intOf iv).toNat)
  case atStart => exact ⟨0, rfl, Nat.zero_le _, fun j hj => (by omega), rfl⟩
  case round =>
    obtain ⟨k, rfl, hk, HNO, rfl⟩ := hrel
    by_cases hlt : k < ts.length
    · obtain ⟨b1, o1, c1, e1, m1⟩ := ints_cell HU.out k hlt
      simp only [Value.slice.injEq, Option.some.injEq, Addr.mk.injEq] at e1
      obtain ⟨⟨rfl, rfl, _⟩, _, rfl⟩ := e1
      by_cases heq : ts.getD k 0 = x
      · obtain ⟨b2, o2, c2, e2, m2⟩ := ints_cell (l := vs) (HO.out.same ▸ HV.out) k (by rw [HO.out.same]; exact hlt)
        simp only [Value.slice.injEq, Option.some.injEq, Addr.mk.injEq] at e2
        obtain ⟨⟨rfl, rfl, _⟩, _, rfl⟩ := e2
        have HVK : Hid (VP = vs.getD k 0) := by
          show _ = _
          rw [HVP.out, ← heq]
          exact val_at HO.out hlt (by rw [heq]; exact HP.out)
        rw [heq] at m1
        clear heq HLA HNO HVP
        go_wp2_with fail
        go_ret
        exact ⟨by rw [HVK.out]; rfl, Below.refl _ _⟩
      · have HNX : Hid (∀ j, j < k + 1 → ts.getD j 0 ≠ x) := fun j hj => by
          by_cases e : j = k
          · rw [e]; exact heq
          · exact HNO.out j (by omega)
        obtain ⟨y, hy⟩ : ∃ y, y = ts.getD k 0 := ⟨_, rfl⟩
        rw [← hy] at m1 heq
        clear hy HNO
        go_wp2_with fail
        go_roundw
        case rel => exact ⟨k + 1, by go_num, by omega, HNX.out, trivial⟩
        case measure => simp only [intOf]; omega
    · have HNA : Hid (∀ j, j < ts.length → ts.getD j 0 ≠ x) := fun j hj => HNO.out j (by omega)
      obtain ⟨t0, ht0⟩ : ∃ t, t = ts.getD 0 0 := ⟨_, rfl⟩
      have HT0 := hide' ht0
      have m0 := HC0.out.1
      have m1 := HC0.out.2
      rw [← ht0] at m0
      by_cases hfi : x < t0 ∨ ts.length = 1
      · have HVF : Hid (VP = vs.getD 0 0) := by
          show _ = _
          rw [HVP.out]
          exact val_first HP.out (by omega) (by rw [← ht0]; exact hfi)
        obtain ⟨v0, hv0⟩ : ∃ v, v = vs.getD 0 0 := ⟨_, rfl⟩
        rw [← hv0] at m1 HVF
        clear hv0 ht0 HLA HVP HNO
        by_cases hf1 : x < t0
        · go_wp2_with fail
          go_ret
          exact ⟨by rw [HVF.out]; rfl, Below.refl _ _⟩
        · have hl1 : (ts.length : Int) = 1 := by omega
          have hl2 : ts.length = 1 := by omega
          go_wp2_with fail
          go_ret
          exact ⟨by rw [HVF.out]; rfl, Below.refl _ _⟩
      · have hf1 : ¬ x < t0 := fun q => hfi (.inl q)
        have hf2 : ¬ (ts.length : Int) = 1 := fun q => hfi (.inr (by omega))
        have hf3 : ¬ ts.length = 1 := fun q => hfi (.inr q)
        have HT1 : Hid (t0 < x) := by
          show _ < _
          have := HNA.out 0 (by omega)
          rw [← ht0] at this
          omega
        have HT2 : Hid (∀ j, j ≤ 0 → ts.getD j 0 < x) := fun j hj => by
          obtain rfl : j = 0 := by omega
          rw [← ht0]
          exact HT1.out
        clear hfi ht0 HNO
        obtain ⟨wo, hwo⟩ : ∃ wo : World, wo = wr := ⟨_, rfl⟩
        subst hwo
        go_wp2_with fail
        go_loopw [9] (fun iv wr => ∃ (k : Nat), iv = .int .i64 k ∧ k + 1 ≤ ts.length ∧ Hid (∀ j, j ≤ k → ts.getD j 0 < x) ∧ wr = wo) (fun iv _ => ts.length - (intOf iv).toNat)
        case atStart => exact ⟨0, rfl, by omega, HT2.out, rfl⟩
        case round =>
          clear HT2 HT1 m0 m1 HC0
          obtain ⟨k, rfl, hk, HLE, rfl⟩ := hrel
          by_cases hlt : k + 1 < ts.length
          · obtain ⟨b1, o1, c1, e1, m1⟩ := ints_cell HU.out (k + 1) hlt
            simp only [Value.slice.injEq, Option.some.injEq, Addr.mk.injEq] at e1
            obtain ⟨⟨rfl, rfl, _⟩, _, rfl⟩ := e1
            obtain ⟨y, hy⟩ : ∃ y, y = ts.getD (k + 1) 0 := ⟨_, rfl⟩
            rw [← hy] at m1
            by_cases hxy : x < y
            · have HVB : Hid (VP = lineV (vs.getD k 0) (vs.getD (k + 1) 0) (ts.getD k 0) (ts.getD (k + 1) 0) x) := by
                show _ = _
                rw [HVP.out]
                exact val_between HP.out hlt HLE.out (by rw [← hy]; exact hxy)
              have HCA := hide' (HLA.out k hlt (Int.le_of_lt (HLE.out k (Nat.le_refl _))))
              rw [← HVB.out] at HCA
              clear HVB HLA HVP HLE hy
              go_wp2_with fail
              refine HCA.out.mono ?_
              rintro e z ⟨rfl, hbz⟩
              have HBZ := hide' hbz
              clear hbz HCA m1
              go_wp2
              go_ret
              exact ⟨rfl, HBZ.out⟩
            · have HLE2 : Hid (∀ j, j ≤ k + 1 → ts.getD j 0 < x) := fun j hj => by
                by_cases e : j = k + 1
                · have := HNA.out (k + 1) hlt
                  rw [e, ← hy]
                  rw [← hy] at this
                  omega
                · exact HLE.out j (by omega)
              clear HLE hy
              go_wp2_with fail
              go_roundw
              case rel => exact ⟨k + 1, by go_num, by omega, HLE2.out, trivial⟩
              case measure => simp only [intOf]; omega
          · have HKN : Hid (k + 1 = ts.length) := by show _ = _; omega
            have HVB : Hid (VP = lineV (vs.getD (ts.length - 2) 0) (vs.getD (ts.length - 2 + 1) 0) (ts.getD (ts.length - 2) 0) (ts.getD (ts.length - 2 + 1) 0) x) := by
              show _ = _
              rw [HVP.out]
              exact val_behind HP.out (by omega) (fun j hj => HLE.out j (by have := HKN.out; omega))
            have HCA := hide' (HLA.out (ts.length - 2) (by omega) (Int.le_of_lt (HLE.out _ (by have := HKN.out; omega))))
            rw [← HVB.out] at HCA
            have HN2 : Hid ((ts.length : Int) - 2 = ((ts.length - 2 : Nat) : Int)) := by show _ = _; omega
            clear HVB HLA HVP HLE
            go_wp2_with fail
            rw [HN2.out]
            refine HCA.out.mono ?_
            rintro e z ⟨rfl, hbz⟩
            have HBZ := hide' hbz
            clear hbz HCA
            go_wp2
            go_ret
            exact ⟨rfl, HBZ.out⟩
end Go.Proofs.Ytmbgjmkndhjilak
