/- Numbers as rows of digits: multiplied. -/
import Derived.Test.YtmbgjmkndhjilakFg
namespace Go.Proofs.Ytmbgjmkndhjilak
open Go.RowKit Go.Shelf

theorem dg_zero (n : Nat) : ints (List.replicate n 0) = ints (dg (List.replicate n 0)) := by simp [dg]
/-- A row of digits that is at work. -/
def OutAt (w : World) (G : Nat) (o : List Nat) (wr : World) : Prop := wr.ownsRow w.heap.size 3 1 (.slice (some ⟨G, 0, none⟩) o.length o.length) o.length (ints (dg o)) ∧ Below w.heap.size w wr
theorem dg_set (o : List Nat) (p y : Nat) : (dg o).set p (y : Int) = dg (o.set p y) := by
  unfold dg
  rw [List.map_set]
theorem own_G {w : World} {B e sz n c G : Nat} {xs : List Value} (h : w.ownsRow B e sz (.slice (some ⟨G, 0, none⟩) n c) n xs) : B ≤ G := own_at h G rfl
theorem OutAt.set {w wr : World} {G : Nat} {o : List Nat} (h : OutAt w G o wr) {p : Nat} (hp : p < o.length) (y : Nat) : OutAt w G (o.set p y) (wr.setCell ⟨G, p, none⟩ (.int .i64 (y : Int))) := by
  refine ⟨?_, h.2.setCell (p := ⟨G, p, none⟩) (own_G h.1) _⟩
  rw [List.length_set, ← dg_set]
  exact own_int_set h.1 hp (y : Int)
theorem OutAt.drew {w wr : World} {G : Nat} {o : List Nat} (h : OutAt w G o wr) (m : Nat) : OutAt w G o (wr.drewN m) := ⟨own_below h.1 (below_drewN (Below.refl _ wr) m) (Nat.le_refl _), below_drewN h.2 m⟩
theorem OutAt.cell {w wr : World} {G : Nat} {o : List Nat} (h : OutAt w G o wr) {p : Nat} (hp : p < o.length) : wr.cell? ⟨G, p, none⟩ = some (.int .i64 (o.getD p 0 : Int)) ∧ wr.frozen? ⟨G, p, none⟩ = false := by
  obtain ⟨b, off, c, ex, hc⟩ := dg_cell (rowAt_of_own h.1) p hp
  simp only [Value.slice.injEq, Option.some.injEq, Addr.mk.injEq] at ex
  obtain ⟨⟨rfl, rfl, _⟩, _⟩ := ex
  rw [Nat.zero_add] at hc
  refine ⟨hc, ?_⟩
  rcases h.1.2 with ⟨e, _⟩ | ⟨g, cp, cur, e, _, hg, _⟩
  · cases e
  · cases e
    exact frozen_no hg _
set_option maxRecDepth 100000 in
set_option maxHeartbeats 8000000 in
theorem natMul_row (a b : List Nat) (ha : Dgs a) (hb : Dgs b) (u v : Value) (w : World) (hu : RowAt w u a.length 1 (ints (dg a))) (hv : RowAt w v b.length 1 (ints (dg b))) (hn : a.length ≤ 10000) (hm : b.length ≤ 10000) : Calls Try.prog 76 #[u, v] w (NumR (valN a * valN b) w) := by
  obtain ⟨i3, hi3, h30, h31, h32⟩ := info_parts Try.info3'
  have HU := hide' hu
  have HV := hide' hv
  obtain ⟨au, cu, rfl⟩ := rowAt_slice hu
  obtain ⟨av, cv, rfl⟩ := rowAt_slice hv
  clear hu hv
  go_enter Try.func76, Try.ntmps76
  go_wp2_with (at_make; refine wpList_make_full _ rfl _ _ 23 rfl w.heap.size 3 i3 (.int .i64 0) 1 Try.underlying23 hi3 h30 h31 .i64 .i64 _ _ (a.length + b.length) rfl rfl (by omega) (by omega) (by rw [h32]; omega) (by unfold maxLen; omega) (Nat.le_refl _) ?_; intro w1 hown hgr; refine Still.go ?_)
  unfold Still
  obtain ⟨G, hG⟩ : ∃ x, x = w.heap.size := ⟨_, rfl⟩
  rw [← hG] at hown ⊢
  have HO : Hid (OutAt w G (List.replicate (a.length + b.length) 0) w1) := by
    show OutAt _ _ _ _
    refine ⟨?_, (Below.refl _ w).grown hgr (Nat.le_refl _) (fun k e => by cases e)⟩
    rw [List.length_replicate, ← dg_zero, ← made_int]
    rw [← hG]
    exact hown
  clear hown hgr hG
  go_wp2_with fail
  go_loopw [6] (fun iv wr => ∃ (i : Nat) (o : List Nat), iv = .int .i64 i ∧ i ≤ a.length ∧ Hid (MulI a b o i) ∧ Hid (OutAt w G o wr)) (fun iv _ => a.length - (intOf iv).toNat)
  case atStart => exact ⟨0, _, rfl, Nat.zero_le _, MulI.first a b, HO.out⟩
  case round =>
    clear HO
    obtain ⟨i, o, rfl, hi, HI, HO⟩ := hrel
    by_cases hlt : i < a.length
    · obtain ⟨b1, o1, c1, ex1, hc1⟩ := dg_cell HU.out i hlt
      have HC1 : Hid (w.cell? ⟨b1, o1 + i, none⟩ = some (.int .i64 ((a.getD i 0 : Nat) : Int))) := hc1
      cases ex1
      clear hc1
      have hx1 := dgs_get ha i
      obtain ⟨x, HX⟩ : ∃ x, Hid (x = a.getD i 0) := ⟨_, rfl⟩
      rw [← HX.out] at HC1 hx1
      obtain ⟨wo, hwo⟩ : ∃ wo : World, wo = wr := ⟨_, rfl⟩
      subst hwo
      have HJ0 := hide' HI.out.start
      clear HI
      go_wp2_with fail
      go_loopw [7, 8] (fun cv jv wr => ∃ (j c : Nat) (o : List Nat), cv = .int .i64 c ∧ jv = .int .i64 j ∧ j ≤ b.length ∧ Hid (MulJ a b o i j c) ∧ Hid (OutAt w G o wr)) (fun _ jv _ => b.length - (intOf jv).toNat)
      case atStart => exact ⟨0, 0, o, rfl, rfl, Nat.zero_le _, HJ0.out, HO.out⟩
      case round =>
        clear HJ0 HO
        obtain ⟨j, c, o, rfl, rfl, hj, HJ, HO⟩ := hrel
        have hcb := HJ.out.c1
        by_cases hjl : j < b.length
        · obtain ⟨b2, o2, c2, ex2, hc2⟩ := dg_cell HV.out j hjl
          cases ex2
          have e2 := up_cell HO.out.2 hc2
          have e1 := up_cell HO.out.2 HC1.out
          have hy1 := dgs_get hb j
          have hij : i + j < o.length := by rw [HJ.out.len]; omega
          have hol : o.length ≤ 20000 := by rw [HJ.out.len]; omega
          obtain ⟨e3, f3⟩ := HO.out.cell hij
          have hz1 := dgs_get HJ.out.dg (i + j)
          obtain ⟨q, HQ⟩ : ∃ q, Hid (q = o.getD (i + j) 0 + a.getD i 0 * b.getD j 0 + c) := ⟨_, rfl⟩
          have HNX := hide' (HJ.out.next ha hb hlt hjl HQ.out)
          obtain ⟨y, HY⟩ : ∃ y, Hid (y = b.getD j 0) := ⟨_, rfl⟩
          obtain ⟨z, HZ⟩ : ∃ z, Hid (z = o.getD (i + j) 0) := ⟨_, rfl⟩
          rw [← HX.out, ← HY.out, ← HZ.out] at HQ
          rw [← HY.out] at e2 hy1
          rw [← HZ.out] at e3 hz1
          have hm1 := mul_lt hx1 hy1
          obtain ⟨m, hmm⟩ : ∃ m, m = x * y := ⟨_, rfl⟩
          have HMI : Hid ((x : Int) * (y : Int) = (m : Int)) := by show _ = _; rw [hmm]; exact (Int.natCast_mul x y).symm
          rw [← hmm] at HQ hm1
          have hp0 : (0 : Int) ≤ (x : Int) * (y : Int) ∧ (x : Int) * (y : Int) ≤ 99980001 := by rw [HMI.out]; omega
          have HTM : Hid (((z : Int) + (x : Int) * (y : Int) + (c : Int)).tmod 10000 = ((q % 10000 : Nat) : Int) ∧ ((z : Int) + (x : Int) * (y : Int) + (c : Int)) % 10000 = ((q % 10000 : Nat) : Int) ∧ ((z : Int) + (x : Int) * (y : Int) + (c : Int)) / 10000 = ((q / 10000 : Nat) : Int)) := by
            show _ ∧ _ ∧ _
            have hq := HQ.out
            rw [HMI.out, show (z : Int) + (m : Int) + (c : Int) = (q : Int) by omega]
            exact ⟨tmod_nat q, by omega, by omega⟩
          have HOS := hide' (fun k => (HO.out.drew k).set hij (q % 10000))
          clear hc2 HJ HY HZ HQ HO hmm hm1
          go_wp2_with fail
          go_quiet (fail)
          go_upto_region 11 with fail
          rw [HTM.out.2.1]
          go_wp2_with fail
          go_roundw
          case rel => exact ⟨j + 1, q / 10000, o.set (i + j) (q % 10000), by rw [← HTM.out.2.2]; try rfl, by go_num, by omega, HNX.out, HOS.out _⟩
          case measure => simp only [intOf]; omega
        · obtain rfl : j = b.length := by omega
          have hij : i + b.length < o.length := by rw [HJ.out.len]; omega
          have hol : o.length ≤ 20000 := by rw [HJ.out.len]; omega
          obtain ⟨e3, f3⟩ := HO.out.cell hij
          have hz1 := dgs_get HJ.out.dg (i + b.length)
          have HNX := hide' (HJ.out.fin hlt)
          have HOS := hide' (HO.out.set hij (o.getD (i + b.length) 0 + c))
          obtain ⟨z, HZ⟩ : ∃ z, Hid (z = o.getD (i + b.length) 0) := ⟨_, rfl⟩
          rw [← HZ.out] at e3 hz1 HNX HOS
          have HZC : Hid ((z : Int) + (c : Int) = ((z + c : Nat) : Int)) := by show _ = _; omega
          clear HJ HZ HO
          go_upto_region 4 with fail
          rw [HZC.out]
          go_wp2_with fail
          go_roundw
          case rel => exact ⟨i + 1, _, by go_num, by omega, HNX.out, HOS.out⟩
          case measure => simp only [intOf]; omega
    · have HTR := hide' (trim_any o HI.out.dg (some ⟨G, 0, none⟩) o.length (Nat.le_refl _) (by rw [HI.out.len]; omega) wr (rowAt_of_own HO.out.1))
      have HFI : Hid (valN o = valN a * valN b) := MulI.fin (by rw [show a.length = i by omega]; exact HI.out)
      rw [HI.out.len, HFI.out] at HTR
      have HBW := hide' HO.out.2
      clear HO HI HFI
      go_wp2_with fail
      refine HTR.out.mono ?_
      rintro e z hz
      obtain ⟨v, hev, hz2⟩ := hz.mono HBW.out
      subst hev
      have HZ := hide' hz2
      clear hz2 hz HTR HBW
      go_wp2
      go_ret
      exact ⟨_, rfl, HZ.out⟩
end Go.Proofs.Ytmbgjmkndhjilak
