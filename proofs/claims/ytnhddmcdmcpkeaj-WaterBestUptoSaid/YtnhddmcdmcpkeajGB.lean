/- The number of a way to stand tells how it stands. -/
import Derived.Test.YtnhddmcdmcpkeajVj
namespace Go.Proofs.Ytnhddmcdmcpkeaj
open Go.RowKit Go.Shelf


theorem lx_first : ∀ {x y : List Int} {i : Nat}, i < x.length → i < y.length → (∀ j, j < i → x.getD j 0 = y.getD j 0) → x.getD i 0 < y.getD i 0 → lx x y
  | [], _, _, h, _, _, _ => by cases h
  | _ :: _, [], _, _, h, _, _ => by cases h
  | a :: x, b :: y, 0, _, _, _, h => Or.inl h
  | a :: x, b :: y, i + 1, h1, h2, he, h => Or.inr ⟨he 0 (by omega), lx_first (i := i) (by simpa using h1) (by simpa using h2) (fun j hj => he (j + 1) (by omega)) h⟩
theorem row_same {x y : List Int} (hl : x.length = y.length) (he : ∀ j, j < x.length → x.getD j 0 = y.getD j 0) : x = y := by
  refine List.ext_getElem hl fun k h1 h2 => ?_
  have := he k h1
  rwa [List.getD_eq_getElem?_getD, List.getD_eq_getElem?_getD, List.getElem?_eq_getElem h1, List.getElem?_eq_getElem h2] at this
/-- Equal so far: the rows ahead of h, and i of row h. -/
structure EqT (a b : List (List Int)) (h i : Nat) : Prop where
  rows : ∀ k, k < h → a.getD k [] = b.getD k []
  row : ∀ j, j < i → (a.getD h []).getD j 0 = (b.getD h []).getD j 0
set_option maxRecDepth 100000 in
set_option maxHeartbeats 4000000 in
theorem ahead_quiet (a b : List (List Int)) (aa ab : Option Addr) (ca cb H L : Nat) (w : World) (ha : TabAt w (.slice aa H ca) a) (hb : TabAt w (.slice ab H cb) b) (la : a.length = H) (lb : b.length = H) (ra : ∀ h, h < H → (a.getD h []).length = L) (rb : ∀ h, h < H → (b.getD h []).length = L) (hH : H ≤ 8) (hL : L ≤ 2) :
    Calls Try.prog 53 #[.slice aa H ca, .slice ab H cb] w fun e w' => ∃ q : Bool, e = .returned (.bool q) ∧ (q = true ↔ lx a.flatten b.flatten) ∧ ∃ m, w' = w.drewN m := by
  have HA := hide' ha
  have HB := hide' hb
  have HR : Hid (a.length = H ∧ b.length = H ∧ (∀ h, h < H → (a.getD h []).length = L) ∧ ∀ h, h < H → (b.getD h []).length = L) := ⟨la, lb, ra, rb⟩
  clear ha hb la lb ra rb
  go_enter Try.func53, Try.ntmps53
  go_wp2_with fail
  go_loopw [5] (fun hv wr => ∃ (h : Nat), hv = .int .i64 h ∧ h ≤ H ∧ Hid (EqT a b h 0) ∧ Hid (∃ m, wr = w.drewN m)) (fun hv _ => H - (intOf hv).toNat)
  case atStart => exact ⟨0, rfl, Nat.zero_le _, ⟨fun k hk => (by omega), fun k hk => (by omega)⟩, 0, rfl⟩
  case round =>
    obtain ⟨h, rfl, hh, HE, HW⟩ := hrel
    by_cases hlt : h < H
    · go_wp2_with fail
      go_loopw [6] (fun iv wq => ∃ (i : Nat), iv = .int .i64 i ∧ i ≤ L ∧ Hid (EqT a b h i) ∧ Hid (∃ m, wq = w.drewN m)) (fun iv _ => L - (intOf iv).toNat)
      case atStart => exact ⟨0, rfl, Nat.zero_le _, HE, HW⟩
      case round =>
        obtain ⟨i, rfl, hi, HQ, HV⟩ := hrel
        obtain ⟨m, hm⟩ := HV.out
        by_cases hil : i < L
        · obtain ⟨b1, o1, c1, p1, q1, ea, t1, u1⟩ := tab_cell2 HA.out (h := h) (i := i) (L := L) (by rw [HR.out.1]; exact hlt) (HR.out.2.2.1 h hlt) hil
          obtain ⟨b2, o2, c2, p2, q2, eb, t2, u2⟩ := tab_cell2 HB.out (h := h) (i := i) (L := L) (by rw [HR.out.2.1]; exact hlt) (HR.out.2.2.2 h hlt) hil
          obtain ⟨x, hx⟩ : ∃ x, x = (a.getD h []).getD i 0 := ⟨_, rfl⟩
          obtain ⟨y, hy⟩ : ∃ x, x = (b.getD h []).getD i 0 := ⟨_, rfl⟩
          rw [← hx] at u1
          rw [← hy] at u2
          have HXY : Hid (x = (a.getD h []).getD i 0 ∧ y = (b.getD h []).getD i 0) := ⟨hx, hy⟩
          have v1 : wr.cell? ⟨b1, o1 + h, none⟩ = some (.slice (some ⟨p1, q1, none⟩) L c1) := by rw [hm]; exact t1
          have v2 : wr.cell? ⟨b2, o2 + h, none⟩ = some (.slice (some ⟨p2, q2, none⟩) L c2) := by rw [hm]; exact t2
          have v3 : wr.cell? ⟨p1, q1 + i, none⟩ = some (.int .i64 x) := by rw [hm]; exact u1
          have v4 : wr.cell? ⟨p2, q2 + i, none⟩ = some (.int .i64 y) := by rw [hm]; exact u2
          have HM : Hid (∀ k, ∃ m, wr.drewN k = w.drewN m) := fun k => ⟨m + k, by rw [hm]; exact World.drewN_drewN w m k⟩
          subst ea eb
          clear t1 t2 u1 u2 hx hy hm
          by_cases hxy : x = y
          · have HN : Hid (EqT a b h (i + 1)) := ⟨HQ.out.rows, fun j hj => by
              by_cases hc : j = i
              · rw [hc, ← HXY.out.1, ← HXY.out.2, hxy]
              · exact HQ.out.row j (by omega)⟩
            subst hxy
            go_upto_region 7 with fail
            go_quiet (fail)
            go_wp2_with fail
            go_roundw
            case rel => exact ⟨i + 1, by go_num, by omega, HN, HM.out _⟩
            case measure => simp [intOf]; omega
          · go_upto_region 7 with fail
            go_quiet (fail)
            go_upto_region 8 with fail
            go_quiet (fail)
            go_wp2_with fail
            go_ret
            obtain ⟨hx, hy⟩ := HXY.out
            obtain ⟨m2, hm2⟩ := HM.out 0
            refine ⟨_, rfl, ?_, by rw [World.drewN_zero] at hm2; rw [hm2, World.drewN_drewN, World.drewN_drewN]; exact ⟨_, rfl⟩⟩
            have ka : h < a.length := by rw [HR.out.1]; exact hlt
            have kb : h < b.length := by rw [HR.out.2.1]; exact hlt
            have la := HR.out.2.2.1 h hlt
            have lb := HR.out.2.2.2 h hlt
            rw [decide_eq_true_eq]
            constructor
            · intro hc
              exact lx_rows ka kb HQ.out.rows (by rw [la, lb]) (lx_first (i := i) (by omega) (by omega) HQ.out.row (by rw [← hx, ← hy]; exact hc))
            · intro hc
              refine Classical.byContradiction fun hn => lx_irr _ (lx_trans hc (lx_rows kb ka (fun k hk => (HQ.out.rows k hk).symm) (by rw [la, lb]) (lx_first (i := i) (by omega) (by omega) (fun j hj => (HQ.out.row j hj).symm) (by rw [← hx, ← hy]; omega))))
        · obtain rfl : i = L := by omega
          have ka : h < a.length := by rw [HR.out.1]; exact hlt
          obtain ⟨b1, o1, c1, p1, q1, ea, t1, _⟩ := HA.out.cell h ka
          rw [← getD_at ka, HR.out.2.2.1 h hlt] at t1
          cases ea
          have v1 : wr.cell? ⟨b1, o1 + h, none⟩ = some (.slice p1 i q1) := by rw [hm]; exact t1
          have HN : Hid (EqT a b (h + 1) 0) := ⟨fun k hk => by
            by_cases hc : k = h
            · rw [hc]
              refine row_same (by rw [HR.out.2.2.1 h hlt, HR.out.2.2.2 h hlt]) fun j hj => HQ.out.row j (by rw [HR.out.2.2.1 h hlt] at hj; exact hj)
            · exact HQ.out.rows k (by omega), fun j hj => by omega⟩
          clear t1 hm
          go_wp2_with fail
          go_roundw
          case rel => exact ⟨h + 1, by go_num, by omega, HN, HV⟩
          case measure => simp [intOf]; omega
    · obtain rfl : h = H := by omega
      go_wp2
      go_ret
      obtain ⟨m, hm⟩ := HW.out
      have e : a = b := by
        refine List.ext_getElem (by rw [HR.out.1, HR.out.2.1]) fun k k1 k2 => ?_
        have := HE.out.rows k (by rw [HR.out.1] at k1; exact k1)
        rwa [getD_at k1, getD_at k2] at this
      refine ⟨false, rfl, ⟨fun h => (by cases h), fun h => ?_⟩, m, hm⟩
      rw [e] at h
      exact absurd h (lx_irr _)
theorem ahead_any (a b : List (List Int)) (aa ab : Option Addr) (ca cb H L : Nat) (w : World) (ha : TabAt w (.slice aa H ca) a) (hb : TabAt w (.slice ab H cb) b) (la : a.length = H) (lb : b.length = H) (ra : ∀ h, h < H → (a.getD h []).length = L) (rb : ∀ h, h < H → (b.getD h []).length = L) (hH : H ≤ 8) (hL : L ≤ 2) :
    Calls Try.prog 53 #[.slice aa H ca, .slice ab H cb] w fun e w' => ∃ q : Bool, e = .returned (.bool q) ∧ (q = true ↔ lx a.flatten b.flatten) ∧ Below w.heap.size w w' := by
  refine (ahead_quiet a b aa ab ca cb H L w ha hb la lb ra rb hH hL).mono ?_
  rintro e w' ⟨q, h1, h2, m, rfl⟩
  exact ⟨q, h1, h2, below_drewN (Below.refl _ w) _⟩
end Go.Proofs.Ytnhddmcdmcpkeaj
namespace Go.Proofs.Ytnhddmcdmcpkeaj
open Go.RowKit Go.Shelf

def codeK (lv cm : List Int) : Nat → Int
  | 0 => 0
  | k + 1 => (codeK lv cm k * 21 + lv.getD k 0) * 64 + cm.getD k 0
set_option maxRecDepth 100000 in
set_option maxHeartbeats 4000000 in
theorem wetCode_any (lv cm : List Int) (al ac ar : Option Addr) (L cl cc n cr : Nat) (e0 : Int) (w : World) (h1 : RowAt w (.slice al L cl) L 1 (ints lv)) (h2 : RowAt w (.slice ac L cc) L 1 (ints cm)) (l1 : lv.length = L) (l2 : cm.length = L) (hL : L ≤ 2) (hb : ∀ k, k < L → 0 ≤ lv.getD k 0 ∧ lv.getD k 0 ≤ 20) (hc : ∀ k, k < L → 0 ≤ cm.getD k 0 ∧ cm.getD k 0 ≤ 60) :
    Calls Try.prog 52 #[.agg #[.slice al L cl, .slice ac L cc, .int .i64 e0, .slice ar n cr]] w fun e w' => e = .returned (.int .i64 (codeK lv cm L)) ∧ Below w.heap.size w w' := by
  have H1 : Hid (RowAt w (.slice al L cl) lv.length 1 (ints lv)) := by rw [l1]; exact h1
  have H2 : Hid (RowAt w (.slice ac L cc) cm.length 1 (ints cm)) := by rw [l2]; exact h2
  have HL1 : Hid (lv.length = L ∧ cm.length = L) := ⟨l1, l2⟩
  have HB := hide' hb
  have HC := hide' hc
  have HCB : Hid (∀ k, k ≤ L → 0 ≤ codeK lv cm k ∧ codeK lv cm k ≤ 2000000) := fun k hk => by
    have hk3 : k = 0 ∨ k = 1 ∨ k = 2 := by omega
    have e0 : codeK lv cm 0 = 0 := rfl
    have e1 : codeK lv cm 1 = (codeK lv cm 0 * 21 + lv.getD 0 0) * 64 + cm.getD 0 0 := rfl
    have e2 : codeK lv cm 2 = (codeK lv cm 1 * 21 + lv.getD 1 0) * 64 + cm.getD 1 0 := rfl
    rcases hk3 with rfl | rfl | rfl
    · omega
    · have := hb 0 (by omega); have := hc 0 (by omega); omega
    · have := hb 0 (by omega); have := hc 0 (by omega); have := hb 1 (by omega); have := hc 1 (by omega); omega
  clear h1 h2 l1 l2 hb hc
  go_enter Try.func52, Try.ntmps52
  go_wp2_with fail
  have hq := alloc_new w (.cells #[.slice al L cl, .slice ac L cc, .int .i64 e0, .slice ar n cr] 93)
  have hb1 := below_al w (.cells #[.slice al L cl, .slice ac L cc, .int .i64 e0, .slice ar n cr] 93)
  obtain ⟨w1, hw1⟩ : ∃ x, x = w.alloc (.cells #[.slice al L cl, .slice ac L cc, .int .i64 e0, .slice ar n cr] 93) := ⟨_, rfl⟩
  rw [← hw1] at hq hb1 ⊢
  obtain ⟨A, hA⟩ : ∃ x, x = w.heap.size := ⟨_, rfl⟩
  rw [← hA] at hq
  rw [show (Value.pointer (some { block := w.heap.size, off := 0 })) = Value.pointer (some { block := A, off := 0 }) by rw [hA]]
  have HQ := hide' hq
  have HB1 := hide' hb1
  clear hw1 hA hq hb1
  go_loopw [3, 4] (fun s i wr => ∃ (k : Nat) (c : Int), s = .int .i64 c ∧ i = .int .i64 k ∧ k ≤ L ∧ Hid (c = codeK lv cm k) ∧ Hid (∃ m, wr = w1.drewN m)) (fun _ i _ => L - (intOf i).toNat)
  case atStart => exact ⟨0, 0, rfl, rfl, Nat.zero_le _, rfl, 0, rfl⟩
  case round =>
    obtain ⟨k, c, rfl, rfl, hk, HK, HV⟩ := hrel
    obtain ⟨m, hm⟩ := HV.out
    have c0 : wr.cell? ⟨A, 0, none⟩ = some (.slice al L cl) := by rw [hm]; exact (cells_at HQ.out 0).trans rfl
    have c1 : wr.cell? ⟨A, 1, none⟩ = some (.slice ac L cc) := by rw [hm]; exact (cells_at HQ.out 1).trans rfl
    by_cases hlt : k < L
    · obtain ⟨b1, o1, x1, ex1, u1⟩ := ints_cell H1.out k (by rw [HL1.out.1]; exact hlt)
      obtain ⟨b2, o2, x2, ex2, u2⟩ := ints_cell H2.out k (by rw [HL1.out.2]; exact hlt)
      have hx := HB.out k hlt
      have hy := HC.out k hlt
      have hcb := HCB.out k (by omega)
      have hcn := HCB.out (k + 1) (by omega)
      have e1 : codeK lv cm (k + 1) = (codeK lv cm k * 21 + lv.getD k 0) * 64 + cm.getD k 0 := rfl
      rw [← HK.out] at e1 hcb
      obtain ⟨x, hxx⟩ : ∃ x, x = lv.getD k 0 := ⟨_, rfl⟩
      obtain ⟨y, hyy⟩ : ∃ x, x = cm.getD k 0 := ⟨_, rfl⟩
      rw [← hxx] at u1 hx e1
      rw [← hyy] at u2 hy e1
      have v1 : wr.cell? ⟨b1, o1 + k, none⟩ = some (.int .i64 x) := by rw [hm]; exact up_cell HB1.out u1
      have v2 : wr.cell? ⟨b2, o2 + k, none⟩ = some (.int .i64 y) := by rw [hm]; exact up_cell HB1.out u2
      have HN : Hid ((c * 21 + x) * 64 + y = codeK lv cm (k + 1)) := e1.symm
      rw [e1] at hcn
      have HM : Hid (∀ j, ∃ m, wr.drewN j = w1.drewN m) := fun j => ⟨m + j, by rw [hm]; exact World.drewN_drewN w1 m j⟩
      have ea1 : al = some ⟨b1, o1, none⟩ := by injection ex1
      subst ea1
      have ea2 : ac = some ⟨b2, o2, none⟩ := by injection ex2
      subst ea2
      clear e1 hm u1 u2 hxx hyy ex1 ex2
      go_upto_region 5 with fail
      go_quiet (fail)
      go_wp2_with fail
      go_roundw
      case rel => exact ⟨k + 1, (c * 21 + x) * 64 + y, by go_num, by go_num, by omega, HN, HM.out _⟩
      case measure => simp [intOf]; omega
    · obtain rfl : k = L := by omega
      have HE : Hid (Below w.heap.size w wr) := by
        have h := below_drewN HB1.out m
        rw [← hm] at h
        exact h
      clear hm
      go_wp2_with fail
      go_ret
      refine ⟨?_, HE.out⟩
      have hk := HK.out
      first
      | exact hk
      | (rw [hk]; done)
      | simp [hk]
end Go.Proofs.Ytnhddmcdmcpkeaj
namespace Go.Proofs.Ytnhddmcdmcpkeaj
open Go.RowKit Go.Shelf

theorem code_step {c x y c' x' y' : Int} (hx : 0 ≤ x ∧ x ≤ 20) (hy : 0 ≤ y ∧ y ≤ 63) (hx' : 0 ≤ x' ∧ x' ≤ 20) (hy' : 0 ≤ y' ∧ y' ≤ 63) (h : (c * 21 + x) * 64 + y = (c' * 21 + x') * 64 + y') : c = c' ∧ x = x' ∧ y = y' := by
  have h1 : c * 21 + x = c' * 21 + x' := by omega
  exact ⟨by omega, by omega, by omega⟩
theorem code_one {lv cm lv' cm' : List Int} : ∀ {k : Nat}, (∀ i, i < k → (0 ≤ lv.getD i 0 ∧ lv.getD i 0 ≤ 20) ∧ (0 ≤ cm.getD i 0 ∧ cm.getD i 0 ≤ 63)) → (∀ i, i < k → (0 ≤ lv'.getD i 0 ∧ lv'.getD i 0 ≤ 20) ∧ (0 ≤ cm'.getD i 0 ∧ cm'.getD i 0 ≤ 63)) → codeK lv cm k = codeK lv' cm' k → ∀ i, i < k → lv.getD i 0 = lv'.getD i 0 ∧ cm.getD i 0 = cm'.getD i 0
  | 0, _, _, _, i, hi => by omega
  | k + 1, h1, h2, he, i, hi => by
    obtain ⟨a1, a2⟩ := h1 k (by omega)
    obtain ⟨b1, b2⟩ := h2 k (by omega)
    obtain ⟨e1, e2, e3⟩ := code_step a1 a2 b1 b2 he
    by_cases hc : i = k
    · rw [hc]; exact ⟨e2, e3⟩
    · exact code_one (k := k) (fun j hj => h1 j (by omega)) (fun j hj => h2 j (by omega)) e1 i (by omega)
/-- The same number, the same stand. -/
theorem code_stand {ls : List LakeM} {L : Nat} (hok : ∀ k ∈ ls, LakeOk k) (hl : ls.length = L) (hL : L ≤ 2) {s s' : Stnd} (g : Good ls L s) (g' : Good ls L s') (h : codeK (listOf s.l0 s.l1 L) (listOf s.u0 s.u1 L) L = codeK (listOf s'.l0 s'.l1 L) (listOf s'.u0 s'.u1 L) L) : s = s' := by
  have q := good_bounds hok hl g
  have q' := good_bounds hok hl g'
  have rng : ∀ {t : Stnd}, ((0 ≤ t.l0 ∧ t.l0 ≤ 20 ∧ 0 ≤ t.l1 ∧ t.l1 ≤ 20) ∧ t.u0 = 0 ∧ 0 ≤ t.u1 ∧ t.u1 ≤ 30) → ∀ i, i < L → (0 ≤ (listOf t.l0 t.l1 L).getD i 0 ∧ (listOf t.l0 t.l1 L).getD i 0 ≤ 20) ∧ (0 ≤ (listOf t.u0 t.u1 L).getD i 0 ∧ (listOf t.u0 t.u1 L).getD i 0 ≤ 63) := fun {t} ht i hi => by
    have hi2 : i = 0 ∨ i = 1 := by omega
    rcases hi2 with rfl | rfl
    · rw [list_at0 _ _ hi, list_at0 _ _ hi]; omega
    · rw [list_at1 _ _ hi, list_at1 _ _ hi]; omega
  have one := code_one (rng q) (rng q') h
  have e0 : s.l0 = s'.l0 := by
    by_cases h0 : 0 < L
    · have := (one 0 h0).1; rwa [list_at0 _ _ h0, list_at0 _ _ h0] at this
    · rw [g.a' h0, g'.a' h0]
  have e1 : s.l1 = s'.l1 := by
    by_cases h0 : 1 < L
    · have := (one 1 h0).1; rwa [list_at1 _ _ h0, list_at1 _ _ h0] at this
    · rw [g.b' h0, g'.b' h0]
  have e2 : s.u0 = s'.u0 := by rw [g.u, g'.u]
  have e3 : s.u1 = s'.u1 := by
    by_cases h0 : 1 < L
    · have := (one 1 h0).2; rwa [list_at1 _ _ h0, list_at1 _ _ h0] at this
    · rw [g.v' h0, g'.v' h0]
  obtain ⟨a, b, c, d⟩ := s
  obtain ⟨a', b', c', d'⟩ := s'
  simp only at e0 e1 e2 e3
  rw [e0, e1, e2, e3]
end Go.Proofs.Ytnhddmcdmcpkeaj
