/- Fill. -/
import Derived.Test.YtmbgjmkndhjilakN3
namespace Go.Proofs.Ytmbgjmkndhjilak
open Go.RowKit Go.Shelf

theorem info_parts {P : Program} {t : TypeId} {z : Option Value} {s b : Nat} (h : (P.info? t).map (fun i => (i.zero, i.size, i.bytes)) = some (z, s, b)) : ∃ i, P.info? t = some i ∧ i.zero = z ∧ i.size = s ∧ i.bytes = b := by
  cases e : P.info? t with
  | none => rw [e] at h; cases h
  | some i => rw [e] at h; cases h; exact ⟨i, rfl, rfl, rfl, rfl⟩
theorem Try.info3' : (Try.prog.info? 3).map (fun i => (i.zero, i.size, i.bytes)) = some (some (.int .i64 0), 1, 8) := by kernel_rfl
theorem made_int (n : Nat) : (madeCells (Value.int .i64 0).cells (n * 1)).toList = ints (List.replicate n 0) := by
  apply List.ext_getElem
  · simp [madeCells, ints]
  · intro i h1 h2
    simp [madeCells, Value.cells, Nat.mod_one, ints]
theorem ints_own {w : World} {B T n : Nat} {l : List Int} (h : w.heap[T]? = some (.cells (ints l).toArray 3 (0, 0))) (hs : B ≤ T) (hl : l.length = n) (hn : n ≤ 1000) : w.ownsRow B 3 1 (.slice (some ⟨T, 0, none⟩) n n) n (ints l) := by
  subst hl
  exact ⟨by simp [ints], .inr ⟨T, _, _, rfl, hs, h, Nat.le_refl _, by unfold maxLen; omega, by simp [ints], by rw [List.take_of_length_le (by simp [ints])]⟩⟩
theorem ints_set' (l : List Int) (j : Nat) (x : Int) : (ints l).toArray.setIfInBounds j (.int .i64 x) = (ints (l.set j x)).toArray := by
  rw [List.setIfInBounds_toArray]
  unfold ints
  rw [List.map_set]
def fillE (ts vs qs : List Int) : Int :=
  if sizedB ts.length vs.length = false ∨ 50 < qs.length then 2 else if (toB 1000000000 ts && toB 1000000000 qs && toB 4294967295 vs) = false then 4 else if orderB ts vs = false then 14 else 0
theorem toB_get {m : Int} {l : List Int} (h : toB m l = true) {k : Nat} (hk : k < l.length) : 0 ≤ l.getD k 0 ∧ l.getD k 0 ≤ m := by
  have := List.all_eq_true.1 h _ (List.getElem_mem hk)
  rw [withinB_iff] at this
  rw [getD_get hk]
  exact this
theorem known_ok {ts vs : List Int} (h1 : sizedB ts.length vs.length = true) (h2 : toB 1000000000 ts = true) (h3 : toB 4294967295 vs = true) (h4 : orderB ts vs = true) : KnownOk ts vs := by
  unfold sizedB at h1
  unfold orderB at h4
  rw [Bool.and_eq_true, withinB_iff, decide_eq_true_eq] at h1
  rw [Bool.and_eq_true] at h4
  refine ⟨by omega, by omega, h1.2, fun k hk => toB_get h2 hk, fun k hk => toB_get h3 (by omega), fun k hk => ?_, fun k hk => ?_⟩
  · have := each_get ts h4.1 k hk
    rw [getD_get (by omega), getD_get hk]
    exact of_decide_eq_true this
  · have := each_get vs h4.2 k (by omega)
    rw [getD_get (by omega), getD_get (by omega)]
    exact of_decide_eq_true this
/-- What is filled in, up to k. -/
def Fld (ts vs qs out : List Int) (k : Nat) : Prop := out.length = qs.length ∧ ∀ j, j < k → j < qs.length → ∃ p, AtP ts (qs.getD j 0) p ∧ out.getD j 0 = valP ts vs p (qs.getD j 0)
theorem Fld.next {ts vs qs out : List Int} {k p : Nat} (h : Fld ts vs qs out k) (hk : k < qs.length) (hp : AtP ts (qs.getD k 0) p) : Fld ts vs qs (out.set k (valP ts vs p (qs.getD k 0))) (k + 1) := by
  refine ⟨by rw [List.length_set]; exact h.1, fun j hj hl => ?_⟩
  by_cases e : j = k
  · subst e
    exact ⟨p, hp, by rw [List.getD_eq_getElem?_getD, List.getElem?_set_self (by rw [h.1]; exact hl)]; rfl⟩
  · obtain ⟨p', h1, h2⟩ := h.2 j (by omega) hl
    exact ⟨p', h1, by rw [List.getD_eq_getElem?_getD, List.getElem?_set_ne (by omega), ← List.getD_eq_getElem?_getD]; exact h2⟩
/-- What Fill answers. -/
def FillO (ts vs qs : List Int) (w : World) (e : Ending) (w' : World) : Prop :=
  ((fillE ts vs qs ≠ 0 ∧ e = .returned (.tuple #[.slice none 0 0, .int .i64 (fillE ts vs qs)])) ∨
    (fillE ts vs qs = 0 ∧ ∃ v out, e = .returned (.tuple #[v, .int .i64 0]) ∧ w'.ownsRow w.heap.size 3 1 v qs.length (ints out) ∧ Fld ts vs qs out qs.length)) ∧ Below w.heap.size w w'
theorem fill_no {ts vs qs : List Int} {w w' : World} {c : Int} (h : fillE ts vs qs = c) (hc : c ≠ 0) (hb : Below w.heap.size w w') : FillO ts vs qs w (.returned (.tuple #[.slice none 0 0, .int .i64 c])) w' := ⟨.inl ⟨by rw [h]; exact hc, by rw [h]⟩, hb⟩
set_option maxRecDepth 100000 in
set_option maxHeartbeats 4000000 in
theorem Fill_any (ts vs qs : List Int) (u v a : Value) (w : World) (hu : RowAt w u ts.length 1 (ints ts)) (hv : RowAt w v vs.length 1 (ints vs)) (ha : RowAt w a qs.length 1 (ints qs)) (hn : ts.length ≤ 9000000000000000000) (hm : vs.length ≤ 9000000000000000000) (hl : qs.length ≤ 9000000000000000000) :
    Calls Try.prog 14 #[u, v, a] w fun e w' => FillO ts vs qs w e w' := by
  obtain ⟨i3, hi3, h30, h31, h32⟩ := info_parts Try.info3'
  have HFO : Hid (∀ e w' v out, KnownOk ts vs → fillE ts vs qs = 0 → e = .returned (.tuple #[v, .int .i64 0]) → w'.ownsRow w.heap.size 3 1 v qs.length (ints out) → Fld ts vs qs out qs.length → Below w.heap.size w w' → FillO ts vs qs w e w') := fun e w' v out _ h0 h1 h2 h3 h4 => ⟨.inr ⟨h0, v, out, h1, h2, h3⟩, h4⟩
  have HA := hide' ha
  have HTO : Hid (∀ m l x W, RowAt w x l.length 1 (ints l) → l.length ≤ 9000000000000000000 → Below w.heap.size w W → Calls Try.prog 30 #[.int .i64 m, x] W fun e w' => e = .returned (.bool (toB m l)) ∧ Below W.heap.size W w') := fun m l x W hx hn hb => allTo_any m l x W (hx.below hb (Nat.le_refl _)) hn
  have HT1 := hide' (fun W => HTO.out 1000000000 ts u W hu hn)
  have HT2 := hide' (fun W => HTO.out 1000000000 qs a W ha hl)
  have HT3 := hide' (fun W => HTO.out 4294967295 vs v W hv hm)
  have HIO : Hid (∀ W, Below w.heap.size w W → Calls Try.prog 31 #[.agg #[u, v]] W fun e w' => e = .returned (.bool (orderB ts vs)) ∧ Below W.heap.size W w') := fun W hb => inOrder_any ts vs u v W (hu.below hb (Nat.le_refl _)) (hv.below hb (Nat.le_refl _)) hn hm
  have HAT : Hid (∀ W x, KnownOk ts vs → Below w.heap.size w W → 0 ≤ x → x ≤ 1000000000 → Calls Try.prog 32 #[.agg #[u, v], .int .i64 x] W fun e w' => AtO ts vs x e ∧ Below W.heap.size W w') := fun W x ho hb h0 h1 => at_any ts vs x u v W (hu.below hb (Nat.le_refl _)) (hv.below hb (Nat.le_refl _)) ho h0 h1
  obtain ⟨au, cu, rfl⟩ := rowAt_slice hu
  obtain ⟨av, cv, rfl⟩ := rowAt_slice hv
  obtain ⟨aa, ca, rfl⟩ := rowAt_slice ha
  have HSZ := hide' (sized_any au av ts.length vs.length cu cv)
  have HFE : Hid (fillE ts vs qs = if sizedB ts.length vs.length = false ∨ 50 < qs.length then 2 else if (toB 1000000000 ts && toB 1000000000 qs && toB 4294967295 vs) = false then 4 else if orderB ts vs = false then 14 else 0) := rfl
  have HKO := hide' (known_ok (ts := ts) (vs := vs))
  have HTG : Hid (∀ q, q = toB 1000000000 qs → q = true → ∀ k, k < qs.length → 0 ≤ qs.getD k 0 ∧ qs.getD k 0 ≤ 1000000000) := fun q h0 h k hk => toB_get (h0.symm.trans h) hk
  obtain ⟨q1, hq1⟩ : ∃ x, x = sizedB ts.length vs.length := ⟨_, rfl⟩
  obtain ⟨q2, hq2⟩ : ∃ x, x = toB 1000000000 ts := ⟨_, rfl⟩
  obtain ⟨q3, hq3⟩ : ∃ x, x = toB 1000000000 qs := ⟨_, rfl⟩
  obtain ⟨q4, hq4⟩ : ∃ x, x = toB 4294967295 vs := ⟨_, rfl⟩
  obtain ⟨q5, hq5⟩ : ∃ x, x = orderB ts vs := ⟨_, rfl⟩
  have HTG2 := hide' (HTG.out q3 hq3)
  rw [← hq1] at HSZ HFE HKO
  rw [← hq2] at HT1 HFE HKO
  rw [← hq3] at HT2 HFE
  rw [← hq4] at HT3 HFE HKO
  rw [← hq5] at HIO HFE HKO
  obtain ⟨n, hn'⟩ : ∃ n, n = ts.length := ⟨_, rfl⟩
  obtain ⟨m, hm'⟩ : ∃ n, n = vs.length := ⟨_, rfl⟩
  obtain ⟨l, hl'⟩ : ∃ n, n = qs.length := ⟨_, rfl⟩
  rw [← hn'] at HSZ HT1 HIO HAT hn ⊢
  rw [← hm'] at HSZ HT3 HIO HAT hm ⊢
  have HEL := hide' hl'
  rw [← hl'] at HT2 HFE HTG2 HFO HA hl ⊢
  clear hq1 hq2 hq3 hq4 hq5 hn' hm' hl' hu hv ha HTG HTO
  go_enter Try.func14, Try.ntmps14
  go_upto_block 0 with fail
  have hb1 := below_al w (.cells #[.slice au n cu, .slice av m cv] 67)
  have hq := alloc_new w (.cells #[.slice au n cu, .slice av m cv] 67)
  obtain ⟨w1, hw1⟩ : ∃ x, x = w.alloc (.cells #[.slice au n cu, .slice av m cv] 67) := ⟨_, rfl⟩
  rw [← hw1] at hb1 hq ⊢
  obtain ⟨K, hK⟩ : ∃ x, x = w.heap.size := ⟨_, rfl⟩
  have HKW : Hid (w.heap.size ≤ K) := by show _ ≤ _; omega
  rw [← hK] at hq
  rw [show (Value.pointer (some { block := w.heap.size, off := 0 })) = Value.pointer (some { block := K, off := 0 }) by rw [hK]]
  have HQ1 := hide' hq
  have HB1 := hide' hb1
  have y0 : w1.cell? ⟨K, 0, none⟩ = some (.slice au n cu) := (cells_at hq 0).trans rfl
  have y1 : w1.cell? ⟨K, 1, none⟩ = some (.slice av m cv) := (cells_at hq 1).trans rfl
  clear hq hb1 hw1 hK
  go_wp2_with fail
  refine (HSZ.out w1).mono ?_
  rintro e w2 ⟨rfl, hb2⟩
  have HB2 := hide' (HB1.out.trans (hb2.mono HB1.out.size))
  have HQ2 : Hid (w2.heap[K]? = some (.cells #[.slice au n cu, .slice av m cv] 67 (0, 0))) := (hb2.block K (Array.getElem?_eq_some_iff.1 HQ1.out).1).trans HQ1.out
  clear hb2 y0 y1 HB1 HQ1
  cases q1 with
  | false =>
    have HR : Hid (fillE ts vs qs = 2) := by rw [HFE.out, if_pos (Or.inl rfl)]; exact rfl
    go_wp2
    go_ret2
    exact fill_no HR.out (by decide) HB2.out
  | true =>
    by_cases h50 : (50 : Int) < l
    · have HR : Hid (fillE ts vs qs = 2) := by rw [HFE.out, if_pos (Or.inr (by omega))]; exact rfl
      go_wp2
      go_ret2
      exact fill_no HR.out (by decide) HB2.out
    · have HF2 : Hid (fillE ts vs qs = if (q2 && q3 && q4) = false then 4 else if q5 = false then 14 else 0) := by
        rw [HFE.out, if_neg (fun h => by rcases h with h | h; exact absurd h (by decide); omega)]; exact rfl
      have hl50 : l ≤ 50 := by omega
      clear HFE
      go_wp2_with fail
      refine (HT1.out w2 HB2.out).mono ?_
      rintro e w3 ⟨rfl, hb3⟩
      have HB3 := hide' (HB2.out.trans (hb3.mono HB2.out.size))
      have HQ3 : Hid (w3.heap[K]? = some (.cells #[.slice au n cu, .slice av m cv] 67 (0, 0))) := (hb3.block K (Array.getElem?_eq_some_iff.1 HQ2.out).1).trans HQ2.out
      clear hb3 HB2 HQ2
      cases q2 with
      | false =>
        have HR : Hid (fillE ts vs qs = 4) := HF2.out
        go_wp2
        go_ret2
        exact fill_no HR.out (by decide) HB3.out
      | true =>
        go_wp2_with fail
        refine (HT2.out w3 HB3.out).mono ?_
        rintro e w4 ⟨rfl, hb4⟩
        have HB4 := hide' (HB3.out.trans (hb4.mono HB3.out.size))
        have HQ4 : Hid (w4.heap[K]? = some (.cells #[.slice au n cu, .slice av m cv] 67 (0, 0))) := (hb4.block K (Array.getElem?_eq_some_iff.1 HQ3.out).1).trans HQ3.out
        clear hb4 HB3 HQ3
        cases q3 with
        | false =>
          have HR : Hid (fillE ts vs qs = 4) := HF2.out
          go_wp2
          go_ret2
          exact fill_no HR.out (by decide) HB4.out
        | true =>
          go_wp2_with fail
          refine (HT3.out w4 HB4.out).mono ?_
          rintro e w5 ⟨rfl, hb5⟩
          have HB5 := hide' (HB4.out.trans (hb5.mono HB4.out.size))
          have HQ5 : Hid (w5.heap[K]? = some (.cells #[.slice au n cu, .slice av m cv] 67 (0, 0))) := (hb5.block K (Array.getElem?_eq_some_iff.1 HQ4.out).1).trans HQ4.out
          clear hb5 HB4 HQ4
          cases q4 with
          | false =>
            have HR : Hid (fillE ts vs qs = 4) := HF2.out
            go_wp2
            go_ret2
            exact fill_no HR.out (by decide) HB5.out
          | true =>
            have y0 : w5.cell? ⟨K, 0, none⟩ = some (.slice au n cu) := (cells_at HQ5.out 0).trans rfl
            have y1 : w5.cell? ⟨K, 1, none⟩ = some (.slice av m cv) := (cells_at HQ5.out 1).trans rfl
            go_wp2_with fail
            refine (HIO.out w5 HB5.out).mono ?_
            rintro e w6 ⟨rfl, hb6⟩
            have HB6 := hide' (HB5.out.trans (hb6.mono HB5.out.size))
            have HQ6 : Hid (w6.heap[K]? = some (.cells #[.slice au n cu, .slice av m cv] 67 (0, 0))) := (hb6.block K (Array.getElem?_eq_some_iff.1 HQ5.out).1).trans HQ5.out
            clear hb6 HB5 HQ5 y0 y1
            cases q5 with
            | false =>
              have HR : Hid (fillE ts vs qs = 14) := HF2.out
              go_wp2
              go_ret2
              exact fill_no HR.out (by decide) HB6.out
            | true =>
              have HR : Hid (fillE ts vs qs = 0) := HF2.out
              have HOK : Hid (KnownOk ts vs) := by have := HKO.out; simp only [forall_const] at this; exact this
              have HTG3 : Hid (∀ k, k < l → 0 ≤ qs.getD k 0 ∧ qs.getD k 0 ≤ 1000000000) := by have := HTG2.out; simp only [forall_const] at this; exact this
              clear HF2 HKO HTG2
              go_wp2_with (at_make; refine wpList_make_full _ rfl _ _ 23 rfl w6.heap.size 3 i3 (.int .i64 0) 1 Try.underlying23 hi3 h30 h31 .i64 .i64 _ _ l rfl rfl rfl rfl (by rw [h32]; omega) (by unfold maxLen; omega) (Nat.le_refl _) ?_; intro w7 hown7 hgr7; refine Still.go ?_)
              unfold Still
              have HG7 : Hid (w7.heap[w6.heap.size]? = some (.cells (ints (List.replicate l 0)).toArray 3 (0, 0))) := by
                rw [made_int] at hown7
                exact row_cells hown7
              have hb7 : Below w6.heap.size w6 w7 := (Below.refl _ w6).grown hgr7 (Nat.le_refl _) (fun k e => by cases e)
              have HB7 := hide' (HB6.out.trans (hb7.mono HB6.out.size))
              have HQ7 : Hid (w7.heap[K]? = some (.cells #[.slice au n cu, .slice av m cv] 67 (0, 0))) := (hb7.block K (Array.getElem?_eq_some_iff.1 HQ6.out).1).trans HQ6.out
              obtain ⟨G, hG⟩ : ∃ x, x = w6.heap.size := ⟨_, rfl⟩
              rw [← hG] at HG7
              rw [show (Value.slice (some { block := w6.heap.size, off := 0 }) l l) = Value.slice (some { block := G, off := 0 }) l l by rw [hG]]
              have HGG : Hid (w.heap.size ≤ G ∧ K ≠ G) := ⟨by rw [hG]; exact HB6.out.size, by have := (Array.getElem?_eq_some_iff.1 HQ6.out).1; omega⟩
              clear hown7 hgr7 hG hb7 HB6 HQ6
              go_wp2_with fail
              go_loopw [47] (fun iv wr => ∃ (k : Nat) (out : List Int), iv = .int .i64 k ∧ k ≤ l ∧ Hid (Fld ts vs qs out k) ∧ Hid (wr.heap[G]? = some (.cells (ints out).toArray 3 (0, 0)) ∧ wr.heap[K]? = some (.cells #[.slice au n cu, .slice av m cv] 67 (0, 0)) ∧ Below w.heap.size w wr)) (fun iv _ => l - (intOf iv).toNat)
              case atStart => exact ⟨0, List.replicate l 0, rfl, Nat.zero_le _, ⟨by rw [List.length_replicate, HEL.out], fun j h => absurd h (Nat.not_lt_zero j)⟩, HG7.out, HQ7.out, HB7.out⟩
              case round =>
                obtain ⟨k, out, rfl, hk, HFL, HW⟩ := hrel
                by_cases hlt : k < l
                · have hka : k < qs.length := by rw [← HEL.out]; exact hlt
                  obtain ⟨bt, ot, ct, ex, hct⟩ := ints_cell2 HA.out k hka
                  simp only [Value.slice.injEq] at ex
                  obtain ⟨rfl, _, rfl⟩ := ex
                  have hc := up_cell HW.out.2.2 hct
                  have HNX : Hid (∀ p, AtP ts (qs.getD k 0) p → Fld ts vs qs (out.set k (valP ts vs p (qs.getD k 0))) (k + 1)) := fun p hp => HFL.out.next hka hp
                  have hbx := HTG3.out k hlt
                  have hlo : out.length = l := by rw [HFL.out.1, HEL.out]
                  obtain ⟨x, hx⟩ : ∃ x, x = qs.getD k 0 := ⟨_, rfl⟩
                  rw [← hx] at hc HNX hbx
                  have HC := hide' (HAT.out wr x HOK.out HW.out.2.2 hbx.1 hbx.2)
                  have y0 : wr.cell? ⟨K, 0, none⟩ = some (.slice au n cu) := (cells_at HW.out.2.1 0).trans rfl
                  have y1 : wr.cell? ⟨K, 1, none⟩ = some (.slice av m cv) := (cells_at HW.out.2.1 1).trans rfl
                  clear hx hct hbx hka
                  go_wp2_with fail
                  refine HC.out.mono ?_
                  rintro e z ⟨⟨p, hp, rfl⟩, hz⟩
                  have HN := hide' (HNX.out p hp)
                  obtain ⟨y, hy⟩ : ∃ y, y = valP ts vs p x := ⟨_, rfl⟩
                  rw [← hy] at HN ⊢
                  have hzg : z.heap[G]? = some (.cells (ints out).toArray 3 (0, 0)) := (hz.block G (Array.getElem?_eq_some_iff.1 HW.out.1).1).trans HW.out.1
                  have hzk : z.heap[K]? = some (.cells #[.slice au n cu, .slice av m cv] 67 (0, 0)) := (hz.block K (Array.getElem?_eq_some_iff.1 HW.out.2.1).1).trans HW.out.2.1
                  have HZB := hide' (HW.out.2.2.trans (hz.mono HW.out.2.2.size))
                  have hlj : k < (ints out).length := by rw [ints_len, hlo]; exact hlt
                  have g0 : z.cell? ⟨G, k, none⟩ = some ((ints out)[k]'hlj) := (cells_at hzg k).trans (by rw [List.getElem?_toArray, List.getElem?_eq_getElem hlj])
                  obtain ⟨gv, hgv⟩ : ∃ x, x = (ints out)[k]'hlj := ⟨_, rfl⟩
                  rw [← hgv] at g0
                  have t0 := frozen_no hzg k
                  have HSET : Hid ((z.setCell ⟨G, k, none⟩ (.int .i64 y)).heap[G]? = some (.cells (ints (out.set k y)).toArray 3 (0, 0)) ∧ (z.setCell ⟨G, k, none⟩ (.int .i64 y)).heap[K]? = some (.cells #[.slice au n cu, .slice av m cv] 67 (0, 0)) ∧ Below w.heap.size w (z.setCell ⟨G, k, none⟩ (.int .i64 y))) :=
                    ⟨by rw [set_any hzg k (.int .i64 y), ints_set'], (Below.heap_setCell _ _ _ K HGG.out.2).trans hzk, HZB.out.setCell (p := ⟨G, k, none⟩) HGG.out.1 _⟩
                  clear hy hz hzg hzk hlj hgv HW HC HNX hp y0 y1 hc
                  go_wp2_with fail
                  go_roundw
                  case rel => exact ⟨k + 1, out.set k y, by go_num, by omega, HN, HSET⟩
                  case measure => simp [intOf]; omega
                · obtain rfl : k = l := by omega
                  have HRO := hide' (ints_own (B := w.heap.size) HW.out.1 HGG.out.1 (HFL.out.1.trans HEL.out.symm) (by omega))
                  go_wp2
                  go_ret2
                  exact HFO.out _ _ _ out HOK.out HR.out rfl HRO.out HFL.out HW.out.2.2
end Go.Proofs.Ytmbgjmkndhjilak
