/- Numbers as rows of digits: one less another. -/
import Derived.Test.YtmbgjmkndhjilakFe
namespace Go.Proofs.Ytmbgjmkndhjilak
open Go.RowKit Go.Shelf

theorem NumR.mono {n : Nat} {w w1 w' : World} {e : Ending} (h : NumR n w1 e w') (hb : Below w.heap.size w w1) : NumR n w e w' := by
  obtain ⟨v, h1, h2, h3⟩ := h
  exact ⟨v, h1, h2, hb.trans (h3.mono hb.size)⟩
theorem own_cap {w : World} {B e sz n c : Nat} {a : Option Addr} {xs : List Value} (h : w.ownsRow B e sz (.slice a n c) n xs) : n ≤ c := by
  rcases h.2 with ⟨e, _⟩ | ⟨g, cp, cur, e, _, _, hle, _⟩
  · cases e; exact Nat.le_refl _
  · cases e; exact hle
/-- A row that begins at a block of its own, not below B. -/
def Fresh (B : Nat) (v : Value) : Prop := ∀ b off k c, v = .slice (some ⟨b, off, none⟩) k c → B ≤ b
def NumF (n : Nat) (w : World) (e : Ending) (w' : World) : Prop := ∃ v, e = .returned v ∧ Num w' v n ∧ Fresh w.heap.size v ∧ Below w.heap.size w w'
theorem own_fresh {w : World} {B e sz n k c k' c' : Nat} {a : Option Addr} {xs : List Value} (h : w.ownsRow B e sz (.slice a k c) n xs) : Fresh B (.slice a k' c') := fun b off _ _ hv => by
  rcases h.2 with ⟨e, _⟩ | ⟨g, cp, cur, e, hg, _⟩
  · cases e; cases hv
  · cases e; cases hv; exact hg
set_option maxRecDepth 100000 in
set_option maxHeartbeats 4000000 in
theorem natSub_row (a b : List Nat) (ha : Dgs a) (hb : Canon b) (hab : valN b ≤ valN a) (u v : Value) (w : World) (hu : RowAt w u a.length 1 (ints (dg a))) (hv : RowAt w v b.length 1 (ints (dg b))) (hn : a.length ≤ 10000) (_hm : b.length ≤ 10000) : Calls Try.prog 80 #[u, v] w (NumF (valN a - valN b) w) := by
  obtain ⟨i3, hi3, h30, h31, h32⟩ := info_parts Try.info3'
  have HU := hide' hu
  have HV := hide' hv
  have HAB := hide' hab
  obtain ⟨au, cu, rfl⟩ := rowAt_slice hu
  obtain ⟨av, cv, rfl⟩ := rowAt_slice hv
  clear hu hv hab
  go_enter Try.func80, Try.ntmps80
  go_wp2_with fail
  go_loopw [5, 6, 7] (fun ov cv iv wr => ∃ (k c : Nat) (o : List Nat), cv = .int .i64 c ∧ iv = .int .i64 k ∧ k ≤ a.length ∧ Hid (SubI a b k c o) ∧ Hid (wr.ownsRow w.heap.size 3 1 ov o.length (ints (dg o)) ∧ Below w.heap.size w wr)) (fun _ _ iv _ => a.length - (intOf iv).toNat)
  case atStart => exact ⟨0, 0, [], rfl, rfl, Nat.zero_le _, ⟨rfl, fun d h => (by cases h), Nat.zero_le _, rfl⟩, World.ownsRow_nil _ _ _ _, Below.refl _ w⟩
  case round =>
    obtain ⟨k, c, o, rfl, rfl, hk, HA, HW⟩ := hrel
    have hcb := HA.out.c1
    have hol := HA.out.len
    by_cases hlt : k < a.length
    · obtain ⟨b1, o1, c1, ex1, hc1⟩ := dg_cell HU.out k hlt
      have e1 := up_cell HW.out.2 hc1
      cases ex1
      have hx1 := dgs_get ha k
      obtain ⟨x, hx⟩ : ∃ x, x = a.getD k 0 := ⟨_, rfl⟩
      rw [← hx] at e1 hx1
      clear hc1
      by_cases hkb : k < b.length
      · obtain ⟨b2, o2, c2, ex2, hc2⟩ := dg_cell HV.out k hkb
        have e2 := up_cell HW.out.2 hc2
        cases ex2
        have hy1 := dgs_get hb.dg k
        obtain ⟨y, hy⟩ : ∃ y, y = b.getD k 0 := ⟨_, rfl⟩
        rw [← hy] at e2 hy1
        clear hc2
        by_cases hneg : (x : Int) - (c : Int) - (y : Int) < 0
        · obtain ⟨d, hd⟩ : ∃ d, d = x + 10000 - c - y := ⟨_, rfl⟩
          have HNX := hide' (HA.out.next (d := d) (x := 1) (by omega) (by omega) (by rw [← hx, ← hy]; omega))
          have HTM : Hid ((x : Int) - (c : Int) - (y : Int) + 10000 = (d : Int)) := by show _ = _; omega
          have HL : Hid (o.length ≤ 100000) := by show _ ≤ _; omega
          clear hx hy HA hd
          go_wp2_with (at_builtin; refine wpList_append_own _ rfl _ _ 23 rfl w.heap.size 3 i3 (.int .i64 0) 1 8 Try.underlying23 hi3 h30 h31 h32 rfl (by decide) _ _ _ rfl (own_below HW.out.1 (below_al _ _) (Nat.le_refl _)) ⟨wr.heap.size, 0, none⟩ 1 1 [.int .i64 ((x : Int) - (c : Int) - (y : Int) + 10000)] rfl rfl (cell_one_new _ _ _) (one_cell rfl) (by have := HL.out; unfold maxLen; omega) (by have := HL.out; omega) (Nat.le_trans HW.out.2.size (below_al _ _).size) ?_; intro v' w8 hown' hgrow _; refine Still.go ?_)
          unfold Still
          have HNW : Hid (w8.ownsRow w.heap.size 3 1 v' (o ++ [d]).length (ints (dg (o ++ [d]))) ∧ Below w.heap.size w w8) := ⟨by rw [dg_snoc, List.length_append, ← HTM.out]; exact hown', (HW.out.2.trans ((below_al _ _).mono HW.out.2.size)).grown hgrow (Nat.le_trans HW.out.2.size (below_al _ _).size) (own_at HW.out.1)⟩
          clear hown' hgrow HW
          go_wp2_with fail
          go_roundw
          case rel => exact ⟨k + 1, 1, o ++ [d], rfl, by go_num, by omega, HNX.out, HNW⟩
          case measure => simp only [intOf]; omega
        · obtain ⟨d, hd⟩ : ∃ d, d = x - c - y := ⟨_, rfl⟩
          have HNX := hide' (HA.out.next (d := d) (x := 0) (by omega) (by omega) (by rw [← hx, ← hy]; omega))
          have HTM : Hid ((x : Int) - (c : Int) - (y : Int) = (d : Int)) := by show _ = _; omega
          have HL : Hid (o.length ≤ 100000) := by show _ ≤ _; omega
          clear hx hy HA hd
          go_wp2_with (at_builtin; refine wpList_append_own _ rfl _ _ 23 rfl w.heap.size 3 i3 (.int .i64 0) 1 8 Try.underlying23 hi3 h30 h31 h32 rfl (by decide) _ _ _ rfl (own_below HW.out.1 (below_al _ _) (Nat.le_refl _)) ⟨wr.heap.size, 0, none⟩ 1 1 [.int .i64 ((x : Int) - (c : Int) - (y : Int))] rfl rfl (cell_one_new _ _ _) (one_cell rfl) (by have := HL.out; unfold maxLen; omega) (by have := HL.out; omega) (Nat.le_trans HW.out.2.size (below_al _ _).size) ?_; intro v' w8 hown' hgrow _; refine Still.go ?_)
          unfold Still
          have HNW : Hid (w8.ownsRow w.heap.size 3 1 v' (o ++ [d]).length (ints (dg (o ++ [d]))) ∧ Below w.heap.size w w8) := ⟨by rw [dg_snoc, List.length_append, ← HTM.out]; exact hown', (HW.out.2.trans ((below_al _ _).mono HW.out.2.size)).grown hgrow (Nat.le_trans HW.out.2.size (below_al _ _).size) (own_at HW.out.1)⟩
          clear hown' hgrow HW
          go_wp2_with fail
          go_roundw
          case rel => exact ⟨k + 1, 0, o ++ [d], rfl, by go_num, by omega, HNX.out, HNW⟩
          case measure => simp only [intOf]; omega
      · have hy : (0 : Nat) = b.getD k 0 := (getD_ge (by omega)).symm
        by_cases hneg : (x : Int) - (c : Int) < 0
        · obtain ⟨d, hd⟩ : ∃ d, d = x + 10000 - c := ⟨_, rfl⟩
          have HNX := hide' (HA.out.next (d := d) (x := 1) (by omega) (by omega) (by rw [← hx, ← hy]; omega))
          have HTM : Hid ((x : Int) - (c : Int) + 10000 = (d : Int)) := by show _ = _; omega
          have HL : Hid (o.length ≤ 100000) := by show _ ≤ _; omega
          clear hx hy HA hd
          go_wp2_with (at_builtin; refine wpList_append_own _ rfl _ _ 23 rfl w.heap.size 3 i3 (.int .i64 0) 1 8 Try.underlying23 hi3 h30 h31 h32 rfl (by decide) _ _ _ rfl (own_below HW.out.1 (below_al _ _) (Nat.le_refl _)) ⟨wr.heap.size, 0, none⟩ 1 1 [.int .i64 ((x : Int) - (c : Int) + 10000)] rfl rfl (cell_one_new _ _ _) (one_cell rfl) (by have := HL.out; unfold maxLen; omega) (by have := HL.out; omega) (Nat.le_trans HW.out.2.size (below_al _ _).size) ?_; intro v' w8 hown' hgrow _; refine Still.go ?_)
          unfold Still
          have HNW : Hid (w8.ownsRow w.heap.size 3 1 v' (o ++ [d]).length (ints (dg (o ++ [d]))) ∧ Below w.heap.size w w8) := ⟨by rw [dg_snoc, List.length_append, ← HTM.out]; exact hown', (HW.out.2.trans ((below_al _ _).mono HW.out.2.size)).grown hgrow (Nat.le_trans HW.out.2.size (below_al _ _).size) (own_at HW.out.1)⟩
          clear hown' hgrow HW
          go_wp2_with fail
          go_roundw
          case rel => exact ⟨k + 1, 1, o ++ [d], rfl, by go_num, by omega, HNX.out, HNW⟩
          case measure => simp only [intOf]; omega
        · obtain ⟨d, hd⟩ : ∃ d, d = x - c := ⟨_, rfl⟩
          have HNX := hide' (HA.out.next (d := d) (x := 0) (by omega) (by omega) (by rw [← hx, ← hy]; omega))
          have HTM : Hid ((x : Int) - (c : Int) = (d : Int)) := by show _ = _; omega
          have HL : Hid (o.length ≤ 100000) := by show _ ≤ _; omega
          clear hx hy HA hd
          go_wp2_with (at_builtin; refine wpList_append_own _ rfl _ _ 23 rfl w.heap.size 3 i3 (.int .i64 0) 1 8 Try.underlying23 hi3 h30 h31 h32 rfl (by decide) _ _ _ rfl (own_below HW.out.1 (below_al _ _) (Nat.le_refl _)) ⟨wr.heap.size, 0, none⟩ 1 1 [.int .i64 ((x : Int) - (c : Int))] rfl rfl (cell_one_new _ _ _) (one_cell rfl) (by have := HL.out; unfold maxLen; omega) (by have := HL.out; omega) (Nat.le_trans HW.out.2.size (below_al _ _).size) ?_; intro v' w8 hown' hgrow _; refine Still.go ?_)
          unfold Still
          have HNW : Hid (w8.ownsRow w.heap.size 3 1 v' (o ++ [d]).length (ints (dg (o ++ [d]))) ∧ Below w.heap.size w w8) := ⟨by rw [dg_snoc, List.length_append, ← HTM.out]; exact hown', (HW.out.2.trans ((below_al _ _).mono HW.out.2.size)).grown hgrow (Nat.le_trans HW.out.2.size (below_al _ _).size) (own_at HW.out.1)⟩
          clear hown' hgrow HW
          go_wp2_with fail
          go_roundw
          case rel => exact ⟨k + 1, 0, o ++ [d], rfl, by go_num, by omega, HNX.out, HNW⟩
          case measure => simp only [intOf]; omega
    · have HK : Hid (k = a.length) := by show k = _; omega
      obtain ⟨oa, oc, hoe⟩ := own_slice HW.out.1
      subst hoe
      have HTR := hide' (trim_at o HA.out.dg oa oc (own_cap HW.out.1) (by omega) wr (rowAt_of_own HW.out.1))
      rw [SubI.fin (HK.out ▸ HA.out) hb ha HAB.out] at HTR
      have HBW : Hid (Below w.heap.size w wr ∧ ∀ k', Fresh w.heap.size (.slice oa k' oc)) := ⟨HW.out.2, fun _ => own_fresh HW.out.1⟩
      clear HW HA hol hcb HK
      go_wp2_with fail
      refine HTR.out.mono ?_
      rintro e z ⟨kk, rfl, hz, hzz⟩
      rw [hzz] at hz ⊢
      have HZ : Hid (Num wr (.slice oa kk oc) (valN a - valN b) ∧ Fresh w.heap.size (.slice oa kk oc) ∧ Below w.heap.size w wr) := ⟨hz, HBW.out.2 _, HBW.out.1⟩
      clear hz hzz HTR HBW
      go_wp2
      go_ret
      exact ⟨_, rfl, HZ.out⟩
end Go.Proofs.Ytmbgjmkndhjilak
