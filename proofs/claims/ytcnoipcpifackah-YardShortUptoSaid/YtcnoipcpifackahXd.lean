/- Which devices are closed, as bits of a number: the program's and the document's. -/
import Derived.Test.YtcnoipcpifackahXc
import Derived.Test.YtcnoipcpifackahYa
namespace Go.Proofs.Ytcnoipcpifackah
open Go.RowKit Go.Shelf

def shuts (ds : List DevM) : List Bool := ds.map DevM.shut
theorem shuts_len (ds : List DevM) : (shuts ds).length = ds.length := by unfold shuts; rw [List.length_map]
theorem shuts_take (ds : List DevM) {k : Nat} (hk : k < ds.length) : codeB ((shuts ds).take (k + 1)) = codeB ((shuts ds).take k) + (if ds[k].shut then 2 ^ k else 0) := by
  have hk' : k < (shuts ds).length := by rw [shuts_len]; exact hk
  rw [List.take_add_one, List.getElem?_eq_getElem hk']
  show codeB ((shuts ds).take k ++ [(shuts ds)[k]]) = _
  have e : (shuts ds)[k] = ds[k].shut := by simp [shuts]
  rw [code_snoc, List.length_take, Nat.min_eq_left (by omega), e]
set_option maxRecDepth 100000 in
set_option maxHeartbeats 2000000 in
theorem shut_any (d : DevM) (w : World) : Calls Try.prog 40 #[.agg #[.int .i64 d.kind, .int .i64 d.a, .int .i64 d.b, .bool d.shut]] w fun e w' => e = .returned (.bool d.shut) ∧ Below w.heap.size w w' := by
  obtain ⟨kd, da, db, sg⟩ := d
  simp only
  go_enter Try.func40, Try.ntmps40
  go_upto_region 1 with fail
  have hqY := alloc_new w (.cells #[.int .i64 kd, .int .i64 da, .int .i64 db, .bool sg] 45)
  have hb1 := below_al w (.cells #[.int .i64 kd, .int .i64 da, .int .i64 db, .bool sg] 45)
  obtain ⟨w1, hw1⟩ : ∃ x, x = (w.alloc (.cells #[.int .i64 kd, .int .i64 da, .int .i64 db, .bool sg] 45)) := ⟨_, rfl⟩
  rw [← hw1] at hqY hb1 ⊢
  obtain ⟨Y, hnY⟩ : ∃ x, x = w.heap.size := ⟨_, rfl⟩
  have HNE : Hid (w.heap.size ≤ Y) := by show _ ≤ _; omega
  rw [← hnY] at hqY
  rw [show (Value.pointer (some { block := w.heap.size, off := 0 })) = Value.pointer (some { block := Y, off := 0 }) by rw [hnY]]
  have HQY := hide' hqY
  have HB1 := hide' hb1
  clear hqY hb1 hw1 hnY
  have c3 : w1.cell? ⟨Y, 3, none⟩ = some (.bool sg) := (cells_at HQY.out 3).trans rfl
  go_wp2
  go_ret
  exact ⟨rfl, HB1.out⟩
set_option maxRecDepth 100000 in
set_option maxHeartbeats 2000000 in
theorem bitsDev_any (ds : List DevM) (v : Value) (w : World) (hx : RowAt w v ds.length 4 (ds.flatMap DevM.cells)) (hn : ds.length ≤ 20) : Calls Try.prog 39 #[v, .func (.func 40) #[] #[]] w fun e w' => e = .returned (.int .i64 ((codeB (shuts ds) : Nat) : Int)) ∧ Below w.heap.size w w' := by
  have HX := hide' hx
  obtain ⟨ar, cr, rfl⟩ := rowAt_slice hx
  clear hx
  go_enter Try.func39, Try.ntmps39
  go_wp2_with fail
  go_loopw [5, 10] (fun sv iv wr => ∃ (k : Nat), iv = .int .i64 k ∧ k ≤ ds.length ∧ sv = .int .i64 ((codeB ((shuts ds).take k) : Nat) : Int) ∧ Hid (Below w.heap.size w wr)) (fun _ iv _ => ds.length - (intOf iv).toNat)
  case atStart => exact ⟨0, rfl, Nat.zero_le _, rfl, Below.refl _ w⟩
  case round =>
    obtain ⟨k, rfl, hk, rfl, HBE⟩ := hrel
    by_cases hlt : k < ds.length
    · obtain ⟨b1, o1, c1, ex1, _, hce⟩ := row_elem (f := DevM.cells) (sz := 4) (fun _ => rfl) (HX.out.below HBE.out (Nat.le_refl _)) k hlt (by decide)
      cases ex1
      have hcs := shuts_take ds hlt
      have hcl := code_lt ((shuts ds).take k)
      rw [List.length_take, shuts_len, Nat.min_eq_left (by omega)] at hcl
      obtain ⟨d, hd⟩ : ∃ d, d = ds[k] := ⟨_, rfl⟩
      obtain ⟨c, hc⟩ : ∃ c, c = codeB ((shuts ds).take k) := ⟨_, rfl⟩
      rw [← hd] at hce hcs
      rw [← hc] at hcs hcl ⊢
      have HCS := hide' hcs
      have HSH := hide' (fun z => shut_any d z)
      obtain ⟨kd, da, db, sg⟩ := d
      simp only at HSH HCS
      have m0 : wr.cell? ⟨b1, o1 + k * 4, none⟩ = some (.int .i64 kd) := hce 0 _ rfl
      have m1 : wr.cell? ⟨b1, o1 + k * 4 + 1, none⟩ = some (.int .i64 da) := hce 1 _ rfl
      have m2 : wr.cell? ⟨b1, o1 + k * 4 + 2, none⟩ = some (.int .i64 db) := hce 2 _ rfl
      have m3 : wr.cell? ⟨b1, o1 + k * 4 + 3, none⟩ = some (.bool sg) := hce 3 _ rfl
      clear hd hc hcs hce
      go_upto_region 5 with fail
      have hqY := alloc_new wr (.cells #[.int .i64 kd, .int .i64 da, .int .i64 db, .bool sg] 45)
      have hb1 := below_al wr (.cells #[.int .i64 kd, .int .i64 da, .int .i64 db, .bool sg] 45)
      obtain ⟨w1, hw1⟩ : ∃ x, x = (wr.alloc (.cells #[.int .i64 kd, .int .i64 da, .int .i64 db, .bool sg] 45)) := ⟨_, rfl⟩
      rw [← hw1] at hqY hb1 ⊢
      obtain ⟨Y, hnY⟩ : ∃ x, x = wr.heap.size := ⟨_, rfl⟩
      have HNE : Hid (wr.heap.size ≤ Y) := by show _ ≤ _; omega
      rw [← hnY] at hqY
      rw [show (Value.pointer (some { block := wr.heap.size, off := 0 })) = Value.pointer (some { block := Y, off := 0 }) by rw [hnY]]
      have HQY := hide' hqY
      have HB1 := hide' hb1
      clear hqY hb1 hw1 hnY
      have HBW : Hid (Below w.heap.size w w1) := HBE.out.trans (HB1.out.mono HBE.out.size)
      have c0 : w1.cell? ⟨Y, 0, none⟩ = some (.int .i64 kd) := (cells_at HQY.out 0).trans rfl
      have c1 : w1.cell? ⟨Y, 1, none⟩ = some (.int .i64 da) := (cells_at HQY.out 1).trans rfl
      have c2 : w1.cell? ⟨Y, 2, none⟩ = some (.int .i64 db) := (cells_at HQY.out 2).trans rfl
      have c3 : w1.cell? ⟨Y, 3, none⟩ = some (.bool sg) := (cells_at HQY.out 3).trans rfl
      clear m0 m1 m2 m3 HQY HNE HB1 HBE
      go_wp2_with fail
      refine (HSH.out w1).mono ?_
      rintro e w2 ⟨rfl, hb2⟩
      have HB2 : Hid (Below w.heap.size w w2) := HBW.out.trans (hb2.mono HBW.out.size)
      clear hb2 HSH HBW c0 c1 c2 c3
      cases sg with
      | false =>
        go_wp2_with fail
        go_roundw
        case rel => exact ⟨k + 1, by go_num, by omega, by rw [HCS.out]; rfl, HB2.out⟩
        case measure => simp [intOf]; omega
      | true =>
        have HOR := hide' (or_pow hcl (by omega))
        have HC2 : Hid (codeB ((shuts ds).take (k + 1)) = c + 2 ^ k) := HCS.out
        go_upto_region 7 with fail
        rw [HOR.out]
        go_wp2_with fail
        go_roundw
        case rel => exact ⟨k + 1, by go_num, by omega, by rw [HC2.out], HB2.out⟩
        case measure => simp [intOf]; omega
    · have HE : Hid (codeB ((shuts ds).take k) = codeB (shuts ds)) := by show _ = _; rw [List.take_of_length_le (by rw [shuts_len]; omega)]
      go_wp2
      go_ret
      exact ⟨by rw [← HE.out]; rfl, HBE.out⟩
theorem drop_code (l : List Bool) {k : Nat} (hk : k < l.length) : codeB (l.drop k) = (if l.getD k false then 1 else 0) + 2 * codeB (l.drop (k + 1)) := by
  rw [List.drop_eq_getElem_cons hk, List.getD_eq_getElem?_getD, List.getElem?_eq_getElem hk]
  rfl
theorem drop_code_le (l : List Bool) (k : Nat) : codeB (l.drop k) < 2 ^ l.length := by
  have h := code_lt (l.drop k)
  rw [List.length_drop] at h
  exact Nat.lt_of_lt_of_le h (Nat.pow_le_pow_right (by decide) (Nat.sub_le _ _))
set_option maxRecDepth 100000 in
set_option maxHeartbeats 2000000 in
theorem yardCode_any (y : YardM) (af ad as' : Option Addr) (cf cd cs : Nat) (w : World) (hx : RowAt w (.slice as' y.devs.length cs) y.devs.length 4 (y.devs.flatMap DevM.cells)) (hn : y.devs.length ≤ 20) : Calls Try.prog 27 #[.agg #[.int .i64 y.points, .slice af y.fed.length cf, .slice ad y.drawn.length cd, .slice as' y.devs.length cs]] w fun e w' => e = .returned (.int .i64 ((codeB (shuts y.devs) : Nat) : Int)) ∧ Below w.heap.size w w' := by
  have HX := hide' hx
  clear hx
  obtain ⟨pt, fd, dr, ds⟩ := y
  simp only at HX hn ⊢
  obtain ⟨lf, hlf⟩ : ∃ x, x = fd.length := ⟨_, rfl⟩
  obtain ⟨ld, hld⟩ : ∃ x, x = dr.length := ⟨_, rfl⟩
  rw [← hlf, ← hld]
  clear hlf hld
  go_enter Try.func27, Try.ntmps27
  go_upto_region 1 with fail
  have hqY := alloc_new w (.cells #[.int .i64 pt, .slice af lf cf, .slice ad ld cd, .slice as' ds.length cs] 25)
  have hb1 := below_al w (.cells #[.int .i64 pt, .slice af lf cf, .slice ad ld cd, .slice as' ds.length cs] 25)
  obtain ⟨w1, hw1⟩ : ∃ x, x = (w.alloc (.cells #[.int .i64 pt, .slice af lf cf, .slice ad ld cd, .slice as' ds.length cs] 25)) := ⟨_, rfl⟩
  rw [← hw1] at hqY hb1 ⊢
  obtain ⟨Y, hnY⟩ : ∃ x, x = w.heap.size := ⟨_, rfl⟩
  have HNE : Hid (w.heap.size ≤ Y) := by show _ ≤ _; omega
  rw [← hnY] at hqY
  rw [show (Value.pointer (some { block := w.heap.size, off := 0 })) = Value.pointer (some { block := Y, off := 0 }) by rw [hnY]]
  have HQY := hide' hqY
  have HB1 := hide' hb1
  clear hqY hb1 hw1 hnY
  have c3 : w1.cell? ⟨Y, 3, none⟩ = some (.slice as' ds.length cs) := (cells_at HQY.out 3).trans rfl
  have HX1 := hide' (HX.out.below HB1.out (Nat.le_refl _))
  clear HX HQY
  go_wp2_with fail
  go_loopw [3, 4] (fun sv iv wr => ∃ (k m : Nat), iv = .int .i64 ((k : Int) - 1) ∧ k ≤ ds.length ∧ sv = .int .i64 (m : Int) ∧ Hid (m = codeB ((shuts ds).drop k)) ∧ wr = w1) (fun _ iv _ => (intOf iv + 1).toNat)
  case atStart => exact ⟨ds.length, 0, rfl, Nat.le_refl _, rfl, (by show _ = _; rw [List.drop_of_length_le (by rw [shuts_len]; exact Nat.le_refl _)]; rfl), rfl⟩
  case round =>
    obtain ⟨k, m, rfl, hk, rfl, HM, rfl⟩ := hrel
    by_cases h0 : k = 0
    · subst h0
      have HE : Hid (m = codeB (shuts ds)) := by show _ = _; rw [HM.out, List.drop_zero]
      go_wp2_with fail
      go_ret
      exact ⟨by rw [← HE.out]; rfl, HB1.out⟩
    · obtain ⟨j, rfl⟩ : ∃ j, k = j + 1 := ⟨k - 1, by omega⟩
      rw [show ((j + 1 : Nat) : Int) - 1 = (j : Int) by omega]
      obtain ⟨b1, o1, c1, ex1, _, hce⟩ := row_elem (f := DevM.cells) (sz := 4) (fun _ => rfl) HX1.out j (by omega) (by decide)
      cases ex1
      have hjl : j < (shuts ds).length := by rw [shuts_len]; omega
      have hdc := drop_code (shuts ds) hjl
      have hle := drop_code_le (shuts ds) j
      rw [shuts_len] at hle
      have hps := pow_small hn
      rw [← HM.out] at hdc
      have hsg : (shuts ds).getD j false = (ds[j]'(by omega)).shut := by
        have e : (shuts ds)[j] = (ds[j]'(by omega)).shut := by simp [shuts]
        rw [List.getD_eq_getElem?_getD, List.getElem?_eq_getElem hjl, e]
        rfl
      rw [hsg] at hdc
      obtain ⟨d, hd⟩ : ∃ d, d = ds[j]'(by omega) := ⟨_, rfl⟩
      rw [← hd] at hce hdc
      obtain ⟨t, ht⟩ : ∃ t, t = codeB ((shuts ds).drop j) := ⟨_, rfl⟩
      rw [← ht] at hdc hle
      have HT := hide' ht
      obtain ⟨kd, da, db, sg⟩ := d
      have m3 : wr.cell? ⟨b1, o1 + j * 4 + 3, none⟩ = some (.bool sg) := hce 3 _ rfl
      simp only at hdc
      clear hd ht hce hsg hjl HM h0
      cases sg with
      | false =>
        have HTI : Hid (2 * (m : Int) = (t : Int)) := by show _ = _; simp at hdc; omega
        have hmb : m ≤ 1048576 := by simp at hdc; omega
        clear hdc
        go_wp2_with fail
        go_roundw
        case rel => exact ⟨j, t, by go_num, by omega, by rw [← HTI.out]; try rfl, HT.out, trivial⟩
        case measure => simp only [intOf]; omega
      | true =>
        have HTI : Hid (2 * (m : Int) + 1 = (t : Int)) := by show _ = _; simp at hdc; omega
        have hmb : m ≤ 1048576 := by simp at hdc; omega
        clear hdc
        go_wp2_with fail
        go_roundw
        case rel => exact ⟨j, t, by go_num, by omega, by rw [← HTI.out]; try rfl, HT.out, trivial⟩
        case measure => simp only [intOf]; omega
end Go.Proofs.Ytcnoipcpifackah
