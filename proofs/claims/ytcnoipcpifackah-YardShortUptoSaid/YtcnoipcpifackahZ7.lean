/- Whether a yard is sound, in the document's answer. -/
import Derived.Test.YtcnoipcpifackahZ6
import Derived.Test.YtcnoipcpifackahY9
namespace Go.Proofs.Ytcnoipcpifackah
open Go.RowKit Go.Shelf

theorem row_bit {w : World} {L n c : Nat} {l : List Bool} (h : RowAt w (.slice (some ⟨L, 0, none⟩) n c) n 1 (l.map Value.bool)) {p : Nat} (hp : p < n) : w.cell? ⟨L, p, none⟩ = some (.bool (l.getD p false)) := row_bool h hp
set_option maxRecDepth 100000 in
set_option maxHeartbeats 2000000 in
theorem Sound_any (y : YardM) (hm : MayY y) (af ad as' : Option Addr) (cf cd cs : Nat) (w : World) (hy : YardAt w af ad as' cf cd cs y) :
    Calls Try.prog 23 #[.agg #[.int .i64 y.points, .slice af y.fed.length cf, .slice ad y.drawn.length cd, .slice as' y.devs.length cs]] w fun e w' => e = .returned (.bool (soundB y)) ∧ Below w.heap.size w w' := by
  obtain ⟨hn1, hn10, hpn⟩ := hm.n_le
  have HLI : Hid (∀ w', Below w.heap.size w w' → Calls Try.prog 34 #[.agg #[.int .i64 y.points, .slice af y.fed.length cf, .slice ad y.drawn.length cd, .slice as' y.devs.length cs]] w' fun e w2 => ∃ T c, e = .returned (.slice (some ⟨T, 0, none⟩) y.n c) ∧ w2.ownsRow w'.heap.size 4 1 (.slice (some ⟨T, 0, none⟩) y.n c) y.n (y.live.map Value.bool) ∧ Below w'.heap.size w' w2) := fun w' hb => LiveIn_any y hm af ad as' cf cd cs w' (hy.below hb (Nat.le_refl _))
  have HEI : Hid (∀ w', Below w.heap.size w w' → Calls Try.prog 35 #[.agg #[.int .i64 y.points, .slice af y.fed.length cf, .slice ad y.drawn.length cd, .slice as' y.devs.length cs]] w' fun e w2 => ∃ T c, e = .returned (.slice (some ⟨T, 0, none⟩) y.n c) ∧ w2.ownsRow w'.heap.size 4 1 (.slice (some ⟨T, 0, none⟩) y.n c) y.n (y.earthed.map Value.bool) ∧ Below w'.heap.size w' w2) := fun w' hb => EarthedIn_any y hm af ad as' cf cd cs w' (hy.below hb (Nat.le_refl _))
  have HSB : Hid (soundB y = (List.range y.n).all fun p => !(y.live.getD p false && y.earthed.getD p false)) := rfl
  rw [hpn] at HLI HEI ⊢
  obtain ⟨n, hn⟩ : ∃ n, n = y.n := ⟨_, rfl⟩
  obtain ⟨lf, hlf⟩ : ∃ l, l = y.fed.length := ⟨_, rfl⟩
  obtain ⟨ld, hld⟩ : ∃ l, l = y.drawn.length := ⟨_, rfl⟩
  obtain ⟨ls, hls⟩ : ∃ l, l = y.devs.length := ⟨_, rfl⟩
  rw [← hn, ← hlf, ← hld, ← hls] at HLI HEI ⊢
  rw [← hn] at HSB hn1 hn10
  clear hy hm hn hlf hld hls hpn
  go_enter Try.func23, Try.ntmps23
  go_upto_region 1 with fail
  have HQ1 := hide' (alloc_new w (.cells #[.int .i64 n, .slice af lf cf, .slice ad ld cd, .slice as' ls cs] 25))
  have HB1 := hide' (below_al w (.cells #[.int .i64 n, .slice af lf cf, .slice ad ld cd, .slice as' ls cs] 25))
  obtain ⟨w1, hw1⟩ : ∃ x, x = w.alloc (.cells #[.int .i64 n, .slice af lf cf, .slice ad ld cd, .slice as' ls cs] 25) := ⟨_, rfl⟩
  obtain ⟨Y, hY⟩ : ∃ Y, Y = w.heap.size := ⟨_, rfl⟩
  rw [← hw1] at HQ1 HB1 ⊢
  rw [← hY] at HQ1
  rw [show (Value.pointer (some { block := w.heap.size, off := 0 })) = Value.pointer (some { block := Y, off := 0 }) by rw [hY]]
  clear hw1 hY
  have p0 : w1.cell? ⟨Y, 0, none⟩ = some (.int .i64 n) := (cells_at HQ1.out 0).trans rfl
  have p1 : w1.cell? ⟨Y, 1, none⟩ = some (.slice af lf cf) := (cells_at HQ1.out 1).trans rfl
  have p2 : w1.cell? ⟨Y, 2, none⟩ = some (.slice ad ld cd) := (cells_at HQ1.out 2).trans rfl
  have p3 : w1.cell? ⟨Y, 3, none⟩ = some (.slice as' ls cs) := (cells_at HQ1.out 3).trans rfl
  go_wp2_with fail
  refine wp_region_tail (fun W => W.cell? ⟨Y, 0, none⟩ = some (.int .i64 n) ∧ W.cell? ⟨Y, 1, none⟩ = some (.slice af lf cf) ∧ W.cell? ⟨Y, 2, none⟩ = some (.slice ad ld cd) ∧ W.cell? ⟨Y, 3, none⟩ = some (.slice as' ls cs)) 5 (by kernel_rfl) ?_
  refine wpAnyD_takeAt 0 (some 6) (v := ?_) rfl (by kernel_rfl) (by kernel_rfl) (by kernel_rfl) (by kernel_rfl) (by kernel_rfl) (fun _ _ _ h => h) (by exact ⟨p0, p1, p2, p3⟩) (fun o hop => ?_) ?_
  rotate_left
  · injection hop with hop
    subst hop
    refine ⟨rfl, fun W hW => ?_⟩
    obtain ⟨s0, s1, s2, s3⟩ := hW
    go_simp
    first
    | rfl
    | rw [if_neg (by omega)]
  try simp only [Act.put, List.setIfInBounds_toArray, List.set_cons_zero, List.set_cons_succ]
  refine wpAnyD_takeAt 2 (some 8) (v := ?_) rfl (by kernel_rfl) (by kernel_rfl) (by kernel_rfl) (by kernel_rfl) (by kernel_rfl) (fun _ _ _ h => h) (by exact ⟨p0, p1, p2, p3⟩) (fun o hop => ?_) ?_
  rotate_left
  · injection hop with hop
    subst hop
    refine ⟨rfl, fun W hW => ?_⟩
    obtain ⟨s0, s1, s2, s3⟩ := hW
    go_simp
    first
    | rfl
    | rw [if_neg (by omega)]
  try simp only [Act.put, List.setIfInBounds_toArray, List.set_cons_zero, List.set_cons_succ]
  refine wpAnyT_one (i := 1) (by kernel_rfl) rfl rfl (fun K' hK => ?_)
  go_simp
  go_at_call 34
  refine (HLI.out w1.drew HB1.out.drew).mono ?_
  rintro e w2 ⟨T, c, rfl, hown, hb2⟩
  have HB2 : Hid (Below w.heap.size w w2) := HB1.out.drew.trans (hb2.mono HB1.out.size)
  have HQ2 := hide' ((((Below.refl w1.heap.size w1).drew.trans hb2).block Y (Array.getElem?_eq_some_iff.1 HQ1.out).1).trans HQ1.out)
  have HOW := hide' hown
  have q0 : w2.cell? ⟨Y, 0, none⟩ = some (.int .i64 n) := (cells_at HQ2.out 0).trans rfl
  have q1 : w2.cell? ⟨Y, 1, none⟩ = some (.slice af lf cf) := (cells_at HQ2.out 1).trans rfl
  have q2 : w2.cell? ⟨Y, 2, none⟩ = some (.slice ad ld cd) := (cells_at HQ2.out 2).trans rfl
  have q3 : w2.cell? ⟨Y, 3, none⟩ = some (.slice as' ls cs) := (cells_at HQ2.out 3).trans rfl
  refine hK.out _ _ (fun _ => by exact ⟨q0, q1, q2, q3⟩) ?_
  clear hK K' p0 p1 p2 p3 hown hb2
  refine wpAnyT_one (i := 3) (by kernel_rfl) rfl rfl (fun K' hK => ?_)
  go_simp
  go_at_call 35
  refine (HEI.out w2 HB2.out).mono ?_
  rintro e w3 ⟨T2, c2, rfl, hown, hb3⟩
  have HB3 : Hid (Below w.heap.size w w3) := HB2.out.trans (hb3.mono HB2.out.size)
  have HQ3 := hide' ((hb3.block Y (Array.getElem?_eq_some_iff.1 HQ2.out).1).trans HQ2.out)
  have HLR : Hid (∀ p, p < n → w3.cell? ⟨T, p, none⟩ = some (.bool (y.live.getD p false))) := fun p hp => row_bit (rowAt_of_own (own_below HOW.out hb3 (Nat.le_refl _))) hp
  have HER : Hid (∀ p, p < n → w3.cell? ⟨T2, p, none⟩ = some (.bool (y.earthed.getD p false))) := fun p hp => row_bit (rowAt_of_own hown) hp
  have r0 : w3.cell? ⟨Y, 0, none⟩ = some (.int .i64 n) := (cells_at HQ3.out 0).trans rfl
  have r1 : w3.cell? ⟨Y, 1, none⟩ = some (.slice af lf cf) := (cells_at HQ3.out 1).trans rfl
  have r2 : w3.cell? ⟨Y, 2, none⟩ = some (.slice ad ld cd) := (cells_at HQ3.out 2).trans rfl
  have r3 : w3.cell? ⟨Y, 3, none⟩ = some (.slice as' ls cs) := (cells_at HQ3.out 3).trans rfl
  refine hK.out _ _ (fun _ => by exact ⟨r0, r1, r2, r3⟩) ?_
  clear hK K' q0 q1 q2 q3 hown hb3
  refine wpAnyT_one (i := 4) (by kernel_rfl) rfl rfl (fun K' hK => ?_)
  go_simp
  refine hK.out _ _ (fun _ => by exact ⟨r0, r1, r2, r3⟩) ?_
  clear hK K'
  refine wpAnyT_one (i := 5) (by kernel_rfl) rfl rfl (fun K' hK => ?_)
  go_simp
  refine hK.out _ _ (fun h => absurd rfl h) ?_
  clear hK K' r1 r2 r3
  refine wpAnyT_done (by kernel_rfl) ?_ _
  go_wp2_with fail
  go_loopw [5] (fun i wr => ∃ (k : Nat), i = .int .i64 k ∧ k ≤ n ∧ Hid (∀ j, j < k → (!(y.live.getD j false && y.earthed.getD j false)) = true) ∧ wr = w3) (fun i _ => n - (intOf i).toNat)
  case atStart => exact ⟨0, rfl, Nat.zero_le _, fun j h => absurd h (Nat.not_lt_zero j), rfl⟩
  case round =>
    obtain ⟨k, rfl, hk, HOK, rfl⟩ := hrel
    by_cases hlt : k < n
    · have hl := HLR.out k hlt
      have he := HER.out k hlt
      have HNX : Hid ((!(y.live.getD k false && y.earthed.getD k false)) = true → ∀ j, j < k + 1 → (!(y.live.getD j false && y.earthed.getD j false)) = true) := fun h j hj => by
        by_cases e : j = k
        · subst e; exact h
        · exact HOK.out j (by omega)
      have HNO : Hid ((!(y.live.getD k false && y.earthed.getD k false)) = false → soundB y = false) := fun h => by
        rw [HSB.out, List.all_eq_false]
        exact ⟨k, List.mem_range.2 hlt, by rw [h]; decide⟩
      obtain ⟨bl, hbl⟩ : ∃ b, b = y.live.getD k false := ⟨_, rfl⟩
      obtain ⟨be, hbe⟩ : ∃ b, b = y.earthed.getD k false := ⟨_, rfl⟩
      rw [← hbl] at hl HNX HNO
      rw [← hbe] at he HNX HNO
      clear hbl hbe HOK
      cases bl with
      | false =>
        have HY := hide' (HNX.out rfl)
        go_wp2
        go_roundw
        case rel => exact ⟨k + 1, by go_num, by omega, HY.out, trivial⟩
        case measure => simp [intOf]; omega
      | true =>
        cases be with
        | false =>
          have HY := hide' (HNX.out rfl)
          go_wp2
          go_roundw
          case rel => exact ⟨k + 1, by go_num, by omega, HY.out, trivial⟩
          case measure => simp [intOf]; omega
        | true =>
          have HY := hide' (HNO.out rfl)
          go_wp2
          go_ret
          exact ⟨by rw [HY.out]; rfl, HB3.out⟩
    · have HALL : Hid (soundB y = true) := by
        show _ = _
        rw [HSB.out, List.all_eq_true]
        exact fun j hj => HOK.out j (by have := List.mem_range.1 hj; omega)
      go_wp2
      go_ret
      exact ⟨by rw [HALL.out]; rfl, HB3.out⟩
/-- Is one of these among them? -/
def someB (b : List Bool) (l : List Int) : Bool := l.any fun q => b.getD q.toNat false
set_option maxRecDepth 100000 in
set_option maxHeartbeats 2000000 in
theorem someIn_any (b : List Bool) (l : List Int) (n c T : Nat) (v : Value) (w : World) (hb : RowAt w (.slice (some ⟨T, 0, none⟩) n c) n 1 (b.map Value.bool)) (hx : RowAt w v l.length 1 (ints l)) (hq : ∀ q ∈ l, 0 ≤ q ∧ q < n) (hll : l.length ≤ 9000000000000000000) :
    Calls Try.prog 55 #[.slice (some ⟨T, 0, none⟩) n c, v] w fun e w' => e = .returned (.bool (someB b l)) ∧ w' = w := by
  have HB := hide' hb
  have HX := hide' hx
  have HQ := hide' hq
  obtain ⟨al, cl, rfl⟩ := rowAt_slice hx
  clear hb hx hq
  go_enter Try.func55, Try.ntmps55
  go_wp2_with fail
  go_loopw [5] (fun i wr => ∃ (k : Nat), i = .int .i64 k ∧ k ≤ l.length ∧ Hid (∀ (j : Nat) (q : Int), l[j]? = some q → j < k → b.getD q.toNat false = false) ∧ wr = w) (fun i _ => l.length - (intOf i).toNat)
  case atStart => exact ⟨0, rfl, Nat.zero_le _, fun j _ _ h => absurd h (Nat.not_lt_zero j), rfl⟩
  case round =>
    obtain ⟨k, rfl, hk, HOK, rfl⟩ := hrel
    by_cases hlt : k < l.length
    · obtain ⟨bt, ot, ct, ex, hc⟩ := ints_cell HX.out k hlt
      cases ex
      have hqk := HQ.out l[k] (List.getElem_mem hlt)
      have HK : Hid (l.getD k 0 = l[k]) := by show _ = _; rw [List.getD_eq_getElem?_getD, List.getElem?_eq_getElem hlt]; rfl
      obtain ⟨q, hqe⟩ : ∃ q : Nat, l[k] = (q : Int) := ⟨l[k].toNat, by omega⟩
      rw [HK.out, hqe] at hc
      have hqn : q < n := by omega
      have g0 := row_bit HB.out hqn
      have HNX : Hid (b.getD q false = false → ∀ (j : Nat) (x : Int), l[j]? = some x → j < k + 1 → b.getD x.toNat false = false) := fun h j x hx hj => by
        by_cases e : j = k
        · subst e; rw [List.getElem?_eq_getElem hlt, hqe] at hx; cases hx; rw [Int.toNat_natCast]; exact h
        · exact HOK.out j x hx (by omega)
      have HYS : Hid (b.getD q false = true → someB b l = true) := fun h => by
        rw [someB, List.any_eq_true]
        exact ⟨l[k], List.getElem_mem hlt, by rw [hqe, Int.toNat_natCast]; exact h⟩
      obtain ⟨x, hx⟩ : ∃ x, x = b.getD q false := ⟨_, rfl⟩
      rw [← hx] at g0 HNX HYS
      clear hqk HK hqe hx HOK
      cases x with
      | true =>
        have HY := hide' (HYS.out rfl)
        go_wp2
        go_ret
        exact ⟨by rw [HY.out]; rfl, rfl⟩
      | false =>
        have HY := hide' (HNX.out rfl)
        go_wp2
        go_roundw
        case rel => exact ⟨k + 1, by go_num, by omega, HY.out, trivial⟩
        case measure => simp [intOf]; omega
    · have HALL : Hid (someB b l = false) := by
        show _ = _
        rw [someB, List.any_eq_false]
        intro x hx
        obtain ⟨i, hi, rfl⟩ := List.getElem_of_mem hx
        rw [HOK.out i _ (List.getElem?_eq_getElem hi) (by omega)]
        decide
      go_wp2
      go_ret
      exact ⟨by rw [HALL.out]; rfl, rfl⟩
end Go.Proofs.Ytcnoipcpifackah
