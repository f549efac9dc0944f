/- Whether a yard at work is sound, in the program. -/
import Derived.Test.YtcnoipcpifackahY8
namespace Go.Proofs.Ytcnoipcpifackah
open Go.RowKit Go.Shelf

/-- Nothing is live and earthed. -/
def soundB (y : YardM) : Bool := (List.range y.n).all fun p => !(y.live.getD p false && y.earthed.getD p false)
/-- Where a yard at work lies. -/
structure Places where
  af : Option Addr
  ad : Option Addr
  as' : Option Addr
  cf : Nat
  cd : Nat
  cs : Nat
  G : Nat
  cg : Nat
  L : Nat
  E : Nat
  D : Nat
def workV (y : YardM) (p : Places) : Value := .agg #[.int .i64 y.points, .slice p.af y.fed.length p.cf, .slice p.ad y.drawn.length p.cd, .slice p.as' y.devs.length p.cs, .slice (some ⟨p.G, 0, none⟩) y.n p.cg, .slice (some ⟨p.L, 0, none⟩) y.n y.n, .slice (some ⟨p.E, 0, none⟩) y.n y.n, .slice (some ⟨p.D, 0, none⟩) y.n y.n]
/-- A yard at work lies there. -/
structure WorkAt (w : World) (y : YardM) (p : Places) : Prop where
  yard : YardAt w p.af p.ad p.as' p.cf p.cd p.cs y
  grp : RowAt w (.slice (some ⟨p.G, 0, none⟩) y.n p.cg) y.n 1 (ints y.grp)
  live : RowAt w (.slice (some ⟨p.L, 0, none⟩) y.n y.n) y.n 1 (y.live.map Value.bool)
  ear : RowAt w (.slice (some ⟨p.E, 0, none⟩) y.n y.n) y.n 1 (y.earthed.map Value.bool)
  load : RowAt w (.slice (some ⟨p.D, 0, none⟩) y.n y.n) y.n 1 (y.load.map Value.bool)
theorem WorkAt.below {w w' : World} {B : Nat} {y : YardM} {p : Places} (h : WorkAt w y p) (hb : Below B w w') (hs : w.heap.size ≤ B) : WorkAt w' y p := ⟨h.yard.below hb hs, h.grp.below hb hs, h.live.below hb hs, h.ear.below hb hs, h.load.below hb hs⟩
theorem row_bool {w : World} {L n c : Nat} {l : List Bool} (h : RowAt w (.slice (some ⟨L, 0, none⟩) n c) n 1 (l.map Value.bool)) {p : Nat} (hp : p < n) : w.cell? ⟨L, p, none⟩ = some (.bool (l.getD p false)) := by
  obtain ⟨h1, a, c', e, h2⟩ := h
  cases e
  have hl : l.length = n := by simpa using h1
  obtain ⟨b, off, e2, h3⟩ := h2 p (.bool (l.getD p false)) (by rw [List.getElem?_map, List.getElem?_eq_getElem (by omega), List.getD_eq_getElem?_getD, List.getElem?_eq_getElem (by omega)]; rfl)
  cases e2
  rw [Nat.zero_add] at h3
  exact h3
theorem row_int {w : World} {L n c : Nat} {l : List Int} (h : RowAt w (.slice (some ⟨L, 0, none⟩) n c) n 1 (ints l)) {p : Nat} (hp : p < n) : w.cell? ⟨L, p, none⟩ = some (.int .i64 (l.getD p 0)) := by
  obtain ⟨h1, a, c', e, h2⟩ := h
  cases e
  have hl : l.length = n := by rw [ints_len] at h1; omega
  obtain ⟨b, off, e2, h3⟩ := h2 p (.int .i64 (l.getD p 0)) (by rw [ints, List.getElem?_map, List.getElem?_eq_getElem (by omega), List.getD_eq_getElem?_getD, List.getElem?_eq_getElem (by omega)]; rfl)
  cases e2
  rw [Nat.zero_add] at h3
  exact h3
set_option maxRecDepth 100000 in
set_option maxHeartbeats 2000000 in
theorem sound_any (y : YardM) (hm : MayY y) (p : Places) (w : World) (hw : WorkAt w y p) : Calls Try.prog 30 #[workV y p] w fun e w' => e = .returned (.bool (soundB y)) ∧ Below w.heap.size w w' := by
  obtain ⟨hn1, hn10, hpn⟩ := hm.n_le
  unfold workV
  rw [hpn]
  have HA : Hid (∀ o, Below w.heap.size w (w.alloc o)) := fun o => below_al w o
  have HLV : Hid (∀ o q, q < y.n → (w.alloc o).cell? ⟨p.L, q, none⟩ = some (.bool (y.live.getD q false))) := fun o q hq => row_bool (hw.live.below (HA.out o) (Nat.le_refl _)) hq
  have HEV : Hid (∀ o q, q < y.n → (w.alloc o).cell? ⟨p.E, q, none⟩ = some (.bool (y.earthed.getD q false))) := fun o q hq => row_bool (hw.ear.below (HA.out o) (Nat.le_refl _)) hq
  have HSB : Hid (soundB y = (List.range y.n).all fun p => !(y.live.getD p false && y.earthed.getD p false)) := rfl
  obtain ⟨af, ad, as', cf, cd, cs, G, cg, L, E, D⟩ := p
  dsimp only at HLV HEV ⊢
  obtain ⟨n, hn⟩ : ∃ n, n = y.n := ⟨_, rfl⟩
  obtain ⟨lf, hlf⟩ : ∃ l, l = y.fed.length := ⟨_, rfl⟩
  obtain ⟨ld, hld⟩ : ∃ l, l = y.drawn.length := ⟨_, rfl⟩
  obtain ⟨ls, hls⟩ : ∃ l, l = y.devs.length := ⟨_, rfl⟩
  rw [← hn, ← hlf, ← hld, ← hls]
  rw [← hn] at HLV HEV HSB hn1 hn10
  clear hw hm hn hlf hld hls hpn
  go_enter Try.func30, Try.ntmps30
  go_upto_region 1 with fail
  obtain ⟨bv, hbv⟩ : ∃ v : Array Value, v = #[.int .i64 n, .slice af lf cf, .slice ad ld cd, .slice as' ls cs, .slice (some ⟨G, 0, none⟩) n cg, .slice (some ⟨L, 0, none⟩) n n, .slice (some ⟨E, 0, none⟩) n n, .slice (some ⟨D, 0, none⟩) n n] := ⟨_, rfl⟩
  have hbx := alloc_new w (.cells bv 50)
  have HB1 := hide' (HA.out (.cells bv 50))
  have HL1 := hide' (HLV.out (.cells bv 50))
  have HE1 := hide' (HEV.out (.cells bv 50))
  rw [← hbv]
  obtain ⟨w1, hw1⟩ : ∃ x, x = w.alloc (.cells bv 50) := ⟨_, rfl⟩
  obtain ⟨B, hB⟩ : ∃ B, B = w.heap.size := ⟨_, rfl⟩
  rw [← hw1] at hbx HB1 HL1 HE1 ⊢
  rw [← hB] at hbx
  rw [show (Value.pointer (some { block := w.heap.size, off := 0 })) = Value.pointer (some { block := B, off := 0 }) by rw [hB]]
  have b0 : w1.cell? ⟨B, 0, none⟩ = some (.int .i64 n) := (cells_at hbx 0).trans (by rw [hbv]; rfl)
  have b5 : w1.cell? ⟨B, 5, none⟩ = some (.slice (some ⟨L, 0, none⟩) n n) := (cells_at hbx 5).trans (by rw [hbv]; rfl)
  have b6 : w1.cell? ⟨B, 6, none⟩ = some (.slice (some ⟨E, 0, none⟩) n n) := (cells_at hbx 6).trans (by rw [hbv]; rfl)
  clear hw1 hB hbx hbv HA HLV HEV
  go_wp2_with fail
  go_loopw [7] (fun i wr => ∃ (k : Nat), i = .int .i64 k ∧ k ≤ n ∧ Hid (∀ j, j < k → (!(y.live.getD j false && y.earthed.getD j false)) = true) ∧ wr = w1) (fun i _ => n - (intOf i).toNat)
  case atStart => exact ⟨0, rfl, Nat.zero_le _, fun j h => absurd h (Nat.not_lt_zero j), rfl⟩
  case round =>
    obtain ⟨k, rfl, hk, HOK, rfl⟩ := hrel
    by_cases hlt : k < n
    · have hl := HL1.out k hlt
      have he := HE1.out k hlt
      have HNX : Hid ((!(y.live.getD k false && y.earthed.getD k false)) = true → ∀ j, j < k + 1 → (!(y.live.getD j false && y.earthed.getD j false)) = true) := fun h j hj => by
        by_cases e : j = k
        · subst e; exact h
        · exact HOK.out j (by omega)
      have HNO : Hid ((!(y.live.getD k false && y.earthed.getD k false)) = false → soundB y = false) := fun h => by
        rw [HSB.out, List.all_eq_false]
        exact ⟨k, List.mem_range.2 hlt, by rw [h]; decide⟩
      obtain ⟨bl, hbl⟩ : ∃ b, b = y.live.getD k false := ⟨_, rfl⟩
      obtain ⟨be, hbe⟩ : ∃ b, b = y.earthed.getD k false := ⟨_, rfl⟩
      rw [← hbl] at hl HNX HNO
      rw [← hbe] at he HNX HNO
      clear hbl hbe HOK
      cases bl with
      | false =>
        have HY := hide' (HNX.out rfl)
        go_wp2
        go_roundw
        case rel => exact ⟨k + 1, by go_num, by omega, HY.out, trivial⟩
        case measure => simp [intOf]; omega
      | true =>
        cases be with
        | false =>
          have HY := hide' (HNX.out rfl)
          go_wp2
          go_roundw
          case rel => exact ⟨k + 1, by go_num, by omega, HY.out, trivial⟩
          case measure => simp [intOf]; omega
        | true =>
          have HY := hide' (HNO.out rfl)
          go_wp2
          go_ret
          exact ⟨by rw [HY.out]; rfl, HB1.out⟩
    · have HALL : Hid (soundB y = true) := by
        show _ = _
        rw [HSB.out, List.all_eq_true]
        exact fun j hj => HOK.out j (by have := List.mem_range.1 hj; omega)
      go_wp2
      go_ret
      exact ⟨by rw [HALL.out]; rfl, HB1.out⟩
end Go.Proofs.Ytcnoipcpifackah
