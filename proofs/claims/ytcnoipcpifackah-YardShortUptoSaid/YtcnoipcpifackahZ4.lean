/- The document's rounds over a yard's devices. -/
import Derived.Test.YtcnoipcpifackahZ3
namespace Go.Proofs.Ytcnoipcpifackah
open Go.RowKit Go.Shelf

theorem own_bit {w : World} {B T n c : Nat} {l : List Bool} (h : w.ownsRow B 4 1 (.slice (some ⟨T, 0, none⟩) n c) n (l.map Value.bool)) {p : Nat} (hp : p < n) : w.cell? ⟨T, p, none⟩ = some (.bool (l.getD p false)) ∧ w.frozen? ⟨T, p, none⟩ = false := by
  have hl : l.length = n := by have := h.1; simpa using this
  rcases h.2 with ⟨h1, _⟩ | ⟨g, cap, cur, h1, _, h2, h3, _, h4, h5⟩
  · cases h1
  · cases h1
    refine ⟨?_, frozen_no h2 _⟩
    rw [cells_at h2]
    have h6 : (cur.toList.take (n * 1))[p]? = some (.bool (l.getD p false)) := by
      rw [h5, List.getElem?_map, List.getElem?_eq_getElem (by omega), List.getD_eq_getElem?_getD, List.getElem?_eq_getElem (by omega)]
      rfl
    rw [List.getElem?_take_of_lt (by omega)] at h6
    simpa using h6
theorem own_bit_set {w : World} {B T n c : Nat} {l : List Bool} (h : w.ownsRow B 4 1 (.slice (some ⟨T, 0, none⟩) n c) n (l.map Value.bool)) (p : Nat) (x : Bool) : (w.setCell ⟨T, p, none⟩ (.bool x)).ownsRow B 4 1 (.slice (some ⟨T, 0, none⟩) n c) n ((l.set p x).map Value.bool) := by
  rcases h.2 with ⟨h1, _⟩ | ⟨g, cap, cur, h1, h0, h2, h3, h3', h4, h5⟩
  · cases h1
  · cases h1
    refine ⟨by have := h.1; simpa using this, .inr ⟨T, c, _, rfl, h0, set_any h2 p _, h3, h3', by simpa using h4, ?_⟩⟩
    rw [Array.toList_setIfInBounds, List.take_set, h5, List.map_set]
/-- The signs at work, beside a yard's box. -/
structure QSt (w wr : World) (Y T n c : Nat) (bv : Array Value) (l : List Bool) : Prop where
  hY : wr.heap[Y]? = some (.cells bv 25 (0, 0))
  own : wr.ownsRow w.heap.size 4 1 (.slice (some ⟨T, 0, none⟩) n c) n (l.map Value.bool)
  bel : Below w.heap.size w wr
theorem QSt.more {w wr wr' : World} {Y T n c : Nat} {bv : Array Value} {l : List Bool} (h : QSt w wr Y T n c bv l) (hb : Below wr.heap.size wr wr') : QSt w wr' Y T n c bv l :=
  ⟨(hb.block Y (Array.getElem?_eq_some_iff.1 h.hY).1).trans h.hY, own_below h.own hb (Nat.le_refl _), h.bel.trans (hb.mono h.bel.size)⟩
theorem QSt.set {w wr : World} {Y T n c : Nat} {bv : Array Value} {l : List Bool} (h : QSt w wr Y T n c bv l) (p : Nat) (x : Bool) : QSt w (wr.setCell ⟨T, p, none⟩ (.bool x)) Y T n c bv (l.set p x) := by
  obtain ⟨cur, hc⟩ := own_blk h.own
  refine ⟨(Below.heap_setCell _ _ _ Y (fun e => ?_)).trans h.hY, own_bit_set h.own p x, h.bel.setCell (p := ⟨T, p, none⟩) (own_at h.own T rfl) _⟩
  have e' : Y = T := e
  have h1 := h.hY
  rw [e', hc] at h1
  cases h1
theorem stepT_snoc {ds : List DevM} {k : Nat} {d : DevM} (h : ds[k]? = some d) (l : List Bool) : roundT (ds.take (k + 1)) l = stepT (roundT (ds.take k) l) d := by
  obtain ⟨hk, rfl⟩ := (List.getElem?_eq_some_iff.1 h)
  unfold roundT
  rw [List.take_succ_eq_append_getElem hk, List.foldl_append]
  rfl
set_option maxRecDepth 100000 in
set_option maxHeartbeats 2000000 in
theorem together_any (y : YardM) (hm : MayY y) (l : List Bool) (af ad as' : Option Addr) (cf cd cs : Nat) (v : Value) (w : World) (hy : YardAt w af ad as' cf cd cs y) (hx : RowAt w v y.n 1 (l.map Value.bool)) (hl : l.length = y.n) :
    Calls Try.prog 53 #[.agg #[.int .i64 y.points, .slice af y.fed.length cf, .slice ad y.drawn.length cd, .slice as' y.devs.length cs], v] w fun e w' => ∃ T c, e = .returned (.slice (some ⟨T, 0, none⟩) y.n c) ∧ w'.ownsRow w.heap.size 4 1 (.slice (some ⟨T, 0, none⟩) y.n c) y.n ((togL y.n y.devs l).map Value.bool) ∧ Below w.heap.size w w' := by
  obtain ⟨i4, hi4, h40, h41, h42⟩ := info_parts Try.info4
  obtain ⟨hn1, hn10, hpn⟩ := hm.n_le
  have hd10 := hm.d
  have HM := hide' hm
  have HX := hide' hx
  rw [hpn]
  obtain ⟨n, hn⟩ : ∃ n, n = y.n := ⟨_, rfl⟩
  obtain ⟨lf, hlf⟩ : ∃ l, l = y.fed.length := ⟨_, rfl⟩
  obtain ⟨ld, hld⟩ : ∃ l, l = y.drawn.length := ⟨_, rfl⟩
  obtain ⟨ls, hls⟩ : ∃ l, l = y.devs.length := ⟨_, rfl⟩
  have HROW : Hid (RowAt w (.slice as' ls cs) ls 4 (y.devs.flatMap DevM.cells)) := by have h5 := hy.s; rw [← hls] at h5; exact h5
  have HLS := hide' hls
  have HNN := hide' hn
  have HPN := hide' hpn
  rw [← hn, ← hlf, ← hld, ← hls]
  rw [← hn] at hn1 hn10 HX hl
  rw [← hls] at hd10
  have HL := hide' hl
  obtain ⟨av, cv, rfl⟩ := rowAt_slice hx
  rw [← hn] at HX ⊢
  clear hy hx hm hn hlf hld hls hpn hl
  go_enter Try.func53, Try.ntmps53
  go_upto_region 1 with fail
  have HQ1 := hide' (alloc_new w (.cells #[.int .i64 n, .slice af lf cf, .slice ad ld cd, .slice as' ls cs] 25))
  have HB1 := hide' (below_al w (.cells #[.int .i64 n, .slice af lf cf, .slice ad ld cd, .slice as' ls cs] 25))
  obtain ⟨w1, hw1⟩ : ∃ x, x = w.alloc (.cells #[.int .i64 n, .slice af lf cf, .slice ad ld cd, .slice as' ls cs] 25) := ⟨_, rfl⟩
  obtain ⟨Y, hY⟩ : ∃ Y, Y = w.heap.size := ⟨_, rfl⟩
  rw [← hw1] at HQ1 HB1 ⊢
  rw [← hY] at HQ1
  rw [show (Value.pointer (some { block := w.heap.size, off := 0 })) = Value.pointer (some { block := Y, off := 0 }) by rw [hY]]
  clear hw1 hY
  have HR1 := hide' (HX.out.below HB1.out (Nat.le_refl _))
  have hsz : w.heap.size ≤ w1.heap.size := HB1.out.size
  go_wp2_with (at_builtin; refine wpList_append_any _ rfl _ _ 32 rfl w.heap.size 4 i4 _ 1 1 Try.underlying32 hi4 h40 h41 h42 rfl (by decide) _ _ _ rfl (World.ownsRow_nil _ _ _ _) _ _ _ rfl HR1.out (bools_one l) (by unfold maxLen; omega) (by omega) hsz ?_; intro v' w2 hown hgrow; refine Still.go ?_)
  unfold Still
  have HQS0 : Hid (∃ T c, v' = .slice (some ⟨T, 0, none⟩) n c ∧ QSt w w2 Y T n c #[.int .i64 n, .slice af lf cf, .slice ad ld cd, .slice as' ls cs] (togK y.devs 0 l)) := by
    have h1 : w2.ownsRow w.heap.size 4 1 v' n (l.map Value.bool) := by have h := hown; simpa using h
    have hb : Below w.heap.size w w2 := HB1.out.grown hgrow HB1.out.size (fun k e => by cases e)
    have hg0 : w1.grownBy w2 none := hgrow
    have hYb : w2.heap[Y]? = w1.heap[Y]? := hg0.block Y (Array.getElem?_eq_some_iff.1 HQ1.out).1 (by simp)
    rcases h1.2 with ⟨_, h2⟩ | ⟨T, c, _, rfl, _⟩
    · omega
    · exact ⟨T, c, rfl, hYb.trans HQ1.out, h1, hb⟩
  obtain ⟨T, c, rfl, hqs⟩ := HQS0.out
  have HQS := hide' hqs
  clear hown hgrow HQS0 HQ1 HB1 HR1 hqs HX
  go_wp2_with fail
  go_loopw [6] (fun i wr => ∃ (k : Nat), i = .int .i64 k ∧ k ≤ n ∧ Hid (QSt w wr Y T n c #[.int .i64 n, .slice af lf cf, .slice ad ld cd, .slice as' ls cs] (togK y.devs k l))) (fun i _ => n - (intOf i).toNat)
  case atStart => exact ⟨0, rfl, Nat.zero_le _, HQS⟩
  case round =>
    clear HQS
    obtain ⟨k, rfl, hk, HQS⟩ := hrel
    have y0 : wr.cell? ⟨Y, 0, none⟩ = some (.int .i64 n) := (cells_at HQS.out.hY 0).trans rfl
    by_cases hlt : k < n
    · go_wp2_with fail
      clear y0
      go_loopw [7] (fun i wi => ∃ (j : Nat), i = .int .i64 j ∧ j ≤ ls ∧ Hid (QSt w wi Y T n c #[.int .i64 n, .slice af lf cf, .slice ad ld cd, .slice as' ls cs] (roundT (y.devs.take j) (togK y.devs k l)))) (fun i _ => ls - (intOf i).toNat)
      case atStart => exact ⟨0, rfl, Nat.zero_le _, HQS⟩
      case round =>
        clear HQS
        obtain ⟨j, rfl, hj, HQS⟩ := hrel
        have y3 : wr.cell? ⟨Y, 3, none⟩ = some (.slice as' ls cs) := (cells_at HQS.out.hY 3).trans rfl
        by_cases hjl : j < ls
        · obtain ⟨bt, ot, ct', ex, hbt, hct⟩ := row_elem (f := DevM.cells) (xs := y.devs) (fun _ => rfl) HROW.out j (by rw [← HLS.out]; exact hjl) (by decide)
          cases ex
          have hkl : j < y.devs.length := by rw [← HLS.out]; exact hjl
          obtain ⟨u, hu⟩ : ∃ u, u = y.devs[j]'hkl := ⟨_, rfl⟩
          rw [← hu] at hct
          have HK : Hid (y.devs[j]? = some u) := by show _ = _; rw [hu]; exact List.getElem?_eq_getElem hkl
          have HOK : Hid (DevOk y.points u) := HM.out.o u (by rw [hu]; exact List.getElem_mem hkl)
          have d0 := up_cell HQS.out.bel (hct 0 _ rfl)
          have d1 := up_cell HQS.out.bel (hct 1 _ rfl)
          have d2 := up_cell HQS.out.bel (hct 2 _ rfl)
          have d3 := up_cell HQS.out.bel (hct 3 _ rfl)
          rw [Nat.add_zero] at d0
          have HSN := hide' (stepT_snoc HK.out (togK y.devs k l))
          obtain ⟨lc, hlc⟩ : ∃ x, x = roundT (y.devs.take j) (togK y.devs k l) := ⟨_, rfl⟩
          have HLC : Hid (lc.length = n) := by show _ = _; rw [hlc, roundT_len, togK_len]; exact HL.out
          rw [← hlc] at HSN HQS
          have HA : Hid (∀ o, QSt w (wr.alloc o) Y T n c #[.int .i64 n, .slice af lf cf, .slice ad ld cd, .slice (some ⟨bt, ot, none⟩) ls cs] lc) := fun o => HQS.out.more (below_al _ o)
          obtain ⟨x0, x1, x2, x3⟩ := u
          dsimp only at d0 d1 d2 d3
          have HTL : Hid (T < wr.heap.size) := (HQS.out.own.lt T rfl).2
          clear hct hu hbt hkl hlc HQS
          cases x3 with
          | false =>
            have HF : Hid (∀ o, QSt w (wr.alloc o) Y T n c #[.int .i64 n, .slice af lf cf, .slice ad ld cd, .slice (some ⟨bt, ot, none⟩) ls cs] (roundT (y.devs.take (j + 1)) (togK y.devs k l))) := fun o => by rw [HSN.out]; exact HA.out o
            go_wp2
            go_roundw
            case rel => exact ⟨j + 1, by go_num, by omega, HF.out _⟩
            case measure => simp [intOf]; omega
          | true =>
            by_cases h3 : x0 = 3
            · subst h3
              have HF : Hid (∀ o, QSt w (wr.alloc o) Y T n c #[.int .i64 n, .slice af lf cf, .slice ad ld cd, .slice (some ⟨bt, ot, none⟩) ls cs] (roundT (y.devs.take (j + 1)) (togK y.devs k l))) := fun o => by rw [HSN.out]; exact HA.out o
              go_wp2
              go_roundw
              case rel => exact ⟨j + 1, by go_num, by omega, HF.out _⟩
              case measure => simp [intOf]; omega
            · have k3 : (x0 != 3) = true := by simp [h3]
              obtain ⟨a, b, rfl, rfl, ha, hb⟩ : ∃ a b : Nat, x1 = (a : Int) ∧ x2 = (b : Int) ∧ a < n ∧ b < n := by
                have h5 := HPN.out
                have h6 := HNN.out
                rcases HOK.out with ⟨_, h1, h2, _⟩ | ⟨h1, _⟩
                · dsimp only at h1 h2
                  exact ⟨x1.toNat, x2.toNat, by omega, by omega, by omega, by omega⟩
                · exact absurd h1 h3
              have HST : Hid (stepT lc ⟨x0, a, b, true⟩ = if (lc.getD a false || lc.getD b false) = true then (lc.set a true).set b true else lc) := by
                show _ = _
                unfold stepT DevM.joins
                simp [h3]
              rw [HST.out] at HSN
              have la : ∀ o, (wr.alloc o).cell? ⟨T, a, none⟩ = some (.bool (lc.getD a false)) := fun o => (own_bit (HA.out o).own ha).1
              have lb : ∀ o, (wr.alloc o).cell? ⟨T, b, none⟩ = some (.bool (lc.getD b false)) := fun o => (own_bit (HA.out o).own hb).1
              have fa : ∀ o, (wr.alloc o).frozen? ⟨T, a, none⟩ = false := fun o => (own_bit (HA.out o).own ha).2
              have HS2 : Hid (∀ o, QSt w (((wr.alloc o).setCell ⟨T, a, none⟩ (.bool true)).setCell ⟨T, b, none⟩ (.bool true)) Y T n c #[.int .i64 n, .slice af lf cf, .slice ad ld cd, .slice (some ⟨bt, ot, none⟩) ls cs] ((lc.set a true).set b true)) := fun o => ((HA.out o).set a true).set b true
              have lb2 : ∀ o, ∃ u, ((wr.alloc o).setCell ⟨T, a, none⟩ (.bool true)).cell? ⟨T, b, none⟩ = some (.bool u) := fun o => ⟨_, (own_bit ((HA.out o).set a true).own hb).1⟩
              have fb2 : ∀ o, ((wr.alloc o).setCell ⟨T, a, none⟩ (.bool true)).frozen? ⟨T, b, none⟩ = false := fun o => (own_bit ((HA.out o).set a true).own hb).2
              obtain ⟨xa, hxa⟩ : ∃ x, x = lc.getD a false := ⟨_, rfl⟩
              obtain ⟨xb, hxb⟩ : ∃ x, x = lc.getD b false := ⟨_, rfl⟩
              rw [← hxa] at la HSN
              rw [← hxb] at lb HSN
              clear hxa hxb HST
              by_cases hab : (xa || xb) = true
              · rw [if_pos hab] at HSN
                have HF : Hid (∀ o, QSt w (((wr.alloc o).setCell ⟨T, a, none⟩ (.bool true)).setCell ⟨T, b, none⟩ (.bool true)) Y T n c #[.int .i64 n, .slice af lf cf, .slice ad ld cd, .slice (some ⟨bt, ot, none⟩) ls cs] (roundT (y.devs.take (j + 1)) (togK y.devs k l))) := fun o => by rw [HSN.out]; exact HS2.out o
                obtain ⟨u2, hu2⟩ := lb2 (.cells #[.int .i64 x0, .int .i64 a, .int .i64 b, .bool true] 45)
                have hf2 := fb2 (.cells #[.int .i64 x0, .int .i64 a, .int .i64 b, .bool true] 45)
                have hdv2 : ((wr.alloc (.cells #[.int .i64 x0, .int .i64 a, .int .i64 b, .bool true] 45)).setCell ⟨T, a, none⟩ (.bool true)).cell? ⟨wr.heap.size, 2, none⟩ = some (.int .i64 b) := by
                  refine (World.cell?_of_block (Below.heap_setCell _ _ _ _ (show wr.heap.size ≠ T by have := HTL.out; omega))).trans ?_
                  exact (cells_at (alloc_new _ _) 2).trans rfl
                clear HS2 lb2 fb2
                cases xa with
                | true =>
                  go_wp2
                  go_roundw
                  case rel => exact ⟨j + 1, by go_num, by omega, HF.out _⟩
                  case measure => simp [intOf]; omega
                | false =>
                  cases xb with
                  | true =>
                    go_wp2
                    go_roundw
                    case rel => exact ⟨j + 1, by go_num, by omega, HF.out _⟩
                    case measure => simp [intOf]; omega
                  | false => cases hab
              · rw [if_neg hab] at HSN
                have HF : Hid (∀ o, QSt w (wr.alloc o) Y T n c #[.int .i64 n, .slice af lf cf, .slice ad ld cd, .slice (some ⟨bt, ot, none⟩) ls cs] (roundT (y.devs.take (j + 1)) (togK y.devs k l))) := fun o => by rw [HSN.out]; exact HA.out o
                cases xa with
                | true => exact absurd rfl hab
                | false =>
                  cases xb with
                  | true => exact absurd rfl hab
                  | false =>
                    clear hab HS2 lb2 fb2 fa
                    go_wp2
                    go_roundw
                    case rel => exact ⟨j + 1, by go_num, by omega, HF.out _⟩
                    case measure => simp [intOf]; omega
        · have HFIN : Hid (QSt w wr Y T n c #[.int .i64 n, .slice af lf cf, .slice ad ld cd, .slice as' ls cs] (togK y.devs (k + 1) l)) := by
            have h1 := HQS.out
            rw [List.take_of_length_le (by have := HLS.out; omega)] at h1
            exact h1
          clear HQS
          go_wp2
          go_roundw
          case rel => exact ⟨k + 1, by go_num, by omega, HFIN⟩
          case measure => simp [intOf]; omega
    · have hke : k = n := by omega
      have HOW : Hid (wr.ownsRow w.heap.size 4 1 (.slice (some ⟨T, 0, none⟩) n c) n ((togL n y.devs l).map Value.bool)) := by
        have h1 := HQS.out.own
        rw [hke] at h1
        exact h1
      have HB := hide' HQS.out.bel
      clear HQS hke
      go_wp2
      go_ret
      exact ⟨T, c, rfl, HOW.out, HB.out⟩
end Go.Proofs.Ytcnoipcpifackah
