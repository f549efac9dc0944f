/- RemoteOnce answers true. -/
import Derived.Test.YtjhmendiefojoamYc
import Derived.Test.YtjhmendiefojoamOv
import Derived.Test.YtjhmendiefojoamOw
namespace Go.Proofs.Ytjhmendiefojoam
open Go.RowKit Go.Shelf

/-- Both ends lie at K, and T ticks have gone. -/
def LineI (pat lim P : Int) (w : World) (K T : Nat) (V : Wl) (z : World) : Prop := (∃ pv dv uv ov av cv, WAt z w.heap.size K V pv dv uv ov av cv) ∧ Inv pat lim P T V ∧ Sz T V ∧ Below w.heap.size w z
theorem line_step {pat lim P : Int} {w z : World} {K T : Nat} {V : Wl} (h : LineI pat lim P w K T V z) (hT : T ≤ 239) (t : TuM) (ht : I6 t.ask ∧ I6 t.mix ∧ I6 t.lose ∧ I6 t.again) : Calls Try.prog 22 #[.pointer (some ⟨K, 0, none⟩), .agg #[.int .i64 t.ask, .bool t.want, .int .i64 t.come, .int .i64 t.lose, .int .i64 t.again, .int .i64 t.mix, .bool t.deaf]] z fun e z' => e = .returned (.bool true) ∧ LineI pat lim P w K (T + 1) (tickW V t) z' := by
  obtain ⟨⟨pv, dv, uv, ov, av, cv, hW⟩, hI, hS, hb⟩ := h
  refine (lineTick_any V w.heap.size K pv dv uv ov av cv t z hW hI hS (by omega) ht.1 ht.2.1 ht.2.2.1 ht.2.2.2).mono ?_
  rintro e z' ⟨rfl, hw, hb'⟩
  exact ⟨rfl, hw, hI.tick t (by omega), hS.tick (by omega) t, hb.trans hb'.b⟩
theorem LineI.below {pat lim P : Int} {w z z' : World} {K T : Nat} {V : Wl} (h : LineI pat lim P w K T V z) (hb : Below z.heap.size z z') : LineI pat lim P w K T V z' := by
  obtain ⟨⟨pv, dv, uv, ov, av, cv, hW⟩, hI, hS, hbw⟩ := h
  exact ⟨⟨pv, dv, uv, ov, av, cv, hW.below hb⟩, hI, hS, hbw.trans (hb.mono hbw.size)⟩
theorem LineI.mono {pat lim P : Int} {w z : World} {K T T' : Nat} {V : Wl} (h : LineI pat lim P w K T V z) (hT : T ≤ T') : LineI pat lim P w K T' V z := by
  obtain ⟨hW, hI, hS, hbw⟩ := h
  exact ⟨hW, hI.mono hT, ⟨by have := hS.a; omega, by have := hS.o; omega, by have := hS.c; omega⟩, hbw⟩
theorem apart_nil (u : Value) : Apart (.slice none 0 0) u := fun k hk => by cases hk
/-- What is on the way is gone. -/
theorem LineI.clear {pat lim P : Int} {w z : World} {K T : Nat} {V : Wl} (h : LineI pat lim P w K T V z) : LineI pat lim P w K T ((V.down1 []).up1 []) ((z.setCell ⟨K, 17, none⟩ (.slice none 0 0)).setCell ⟨K, 18, none⟩ (.slice none 0 0)) := by
  obtain ⟨⟨pv, dv, uv, ov, av, cv, hW⟩, hI, hS, hbw⟩ := h
  obtain ⟨w1, b1⟩ := hW.dnN (d := []) (dv' := .slice none 0 0) (World.ownsRow_nil _ _ _ _) rfl (apart_nil _) (apart_nil _) (apart_nil _)
  obtain ⟨w2, b2⟩ := w1.upN (d := []) (uv' := .slice none 0 0) (World.ownsRow_nil _ _ _ _) rfl (apart_nil _) (apart_nil _) (apart_nil _)
  refine ⟨⟨_, _, _, _, _, _, w2⟩, (hI.less (d := []) (fun x hx => by cases hx)).less' (d := []) (fun x hx => by cases hx), ⟨Nat.zero_le _, hS.o, hS.c⟩, (hbw.trans b1.b).trans b2.b⟩
theorem line_start {p : Int} {w z : World} {K : Nat} {pa : Option Addr} {pc : Nat} (h3 : 0 ≤ pickedI p 3 ∧ pickedI p 3 < 3) (h9 : 0 ≤ pickedI p 9 ∧ pickedI p 9 < 9) (h5 : 0 ≤ pickedI p 5 ∧ pickedI p 5 < 5) (hK : z.heap[K]? = some (.cells #[.int .i64 0, .int .i64 0, .int .i64 0, .int .i64 0, .bool false, .int .i64 0, .int .i64 (2 + pickedI p 3), .int .i64 0, .int .i64 (3 + pickedI p 9), .bool false, .slice pa 4 pc, .int .i64 (-1), .int .i64 (-1), .int .i64 0, .bool false, .int .i64 0, .int .i64 (20 + pickedI p 5), .slice none 0 0, .slice none 0 0, .slice none 0 0, .slice none 0 0, .slice none 0 0] 52 (0, 0))) (hB : w.heap.size ≤ K) (hp : z.ownsRow 0 4 1 (.slice pa 4 pc) 4 [.bool false, .bool false, .bool false, .bool false]) (hb : Below w.heap.size w z) : LineI (2 + pickedI p 3) (3 + pickedI p 9) (20 + pickedI p 5) w K 0 (⟨⟨0, 0, 0, 0, false, 0, 2 + pickedI p 3, 0, 3 + pickedI p 9, false⟩, [false, false, false, false], ⟨-1, -1, 0, false, 0, 20 + pickedI p 5⟩, [], [], [], [], []⟩ : Wl) z := by
  refine ⟨⟨_, _, _, _, _, _, hK, hB, hp, World.ownsRow_nil _ _ _ _, World.ownsRow_nil _ _ _ _, World.ownsRow_nil _ _ _ _, World.ownsRow_nil _ _ _ _, World.ownsRow_nil _ _ _ _, ?_, ?_, ?_, ?_, ?_, ?_⟩, ?_, ⟨Nat.le_refl _, Nat.le_refl _, Nat.le_refl _⟩, hb⟩
  · intro k hk; cases hk
  · intro k hk; cases hk
  · intro k hk; cases hk
  · intro k hk; cases hk
  · intro k hk; cases hk
  · intro k hk; cases hk
  · refine ⟨⟨by constructor <;> simp only <;> omega, by constructor <;> simp only <;> omega, by simp only; omega, .inl rfl⟩, ⟨rfl, rfl⟩, rfl, Nat.le_refl _, rfl, ?_, rfl, ?_, ?_, ?_, ?_, ?_, by simp only; decide, ?_, .inl ⟨rfl, rfl⟩⟩
    · rw [mayS_iff]
      exact ⟨by decide, ⟨by simp only; omega, by simp only; omega⟩, ⟨by show (-1 : Int) ≤ -1; decide, by show (-1 : Int) ≤ 1000000000; decide⟩, .inl ⟨rfl, rfl, rfl, rfl⟩⟩
    · intro k c h; simp at h
    · intro x h; cases h
    · intro x h; cases h
    · intro x h; cases h
    · intro h; exact absurd rfl h
    · intro h; exact absurd rfl h
set_option maxRecDepth 1000000 in
set_option maxHeartbeats 8000000 in
theorem RemoteOnce_any (p : Int) (hp : I6 p) (ts : List TuM) (hts : ∀ t ∈ ts, I6 t.ask ∧ I6 t.mix ∧ I6 t.lose ∧ I6 t.again) (n : Nat) (tv : Value) (w : World) (hr : RowAt w tv n 7 (ts.flatMap fun t => t.cells.toList)) (hn : ts.length = n) (_hn2 : n ≤ 2000000) : Calls Try.prog 7 #[.int .i64 p, tv] w fun e w' => e = .returned (.bool true) ∧ Below w.heap.size w w' := by
  obtain ⟨ta, tc, rfl⟩ := rowAt_slice hr
  have HR := hide' hr
  have HTS := hide' hts
  have HLN := hide' hn
  clear hr hts hn
  have HP3 : Hid (0 ≤ pickedI p 3 ∧ pickedI p 3 < 3) := picked_bd (n := p) (f := 3) (by decide)
  have HP9 : Hid (0 ≤ pickedI p 9 ∧ pickedI p 9 < 9) := picked_bd (n := p) (f := 9) (by decide)
  have HP5 : Hid (0 ≤ pickedI p 5 ∧ pickedI p 5 < 5) := picked_bd (n := p) (f := 5) (by decide)
  have HC3 : Hid (∀ z, Calls Try.prog 20 #[.int .i64 p, .int .i64 3] z fun e z' => e = .returned (.int .i64 (pickedI p 3)) ∧ z' = z) := fun z => picked_any p 3 hp (by decide) (by decide) z
  have HC9 : Hid (∀ z, Calls Try.prog 20 #[.int .i64 p, .int .i64 9] z fun e z' => e = .returned (.int .i64 (pickedI p 9)) ∧ z' = z) := fun z => picked_any p 9 hp (by decide) (by decide) z
  have HCO : Hid (∀ z, Calls Try.prog 21 #[.int .i64 (2 + pickedI p 3), .int .i64 (3 + pickedI p 9)] z fun e z' => e = .returned (.tuple #[.agg #[.int .i64 0, .int .i64 0, .int .i64 0, .int .i64 0, .bool false, .int .i64 0, .int .i64 (2 + pickedI p 3), .int .i64 0, .int .i64 (3 + pickedI p 9), .bool false], .int .i64 0]) ∧ Below z.heap.size z z') := fun z => Open_any (2 + pickedI p 3) (3 + pickedI p 9) (2 + pickedI p 3) (3 + pickedI p 9) 0 z (.inl ⟨by unfold okM; have := HP3.out; have := HP9.out; simp only [Bool.and_eq_true, decide_eq_true_eq]; omega, rfl, rfl, rfl⟩)
  have HW2 : Hid (wrap64 (2 + pickedI p 3) = 2 + pickedI p 3) := wrap64_ok (by have := HP3.out; unfold I6; omega)
  have HW3 : Hid (wrap64 (3 + pickedI p 9) = 3 + pickedI p 9) := wrap64_ok (by have := HP9.out; unfold I6; omega)
  go_enter Try.func7, Try.ntmps7
  refine wp_seq_k fun K0 hK0 => ?_
  have HK0 := hide' hK0
  clear hK0
  go_wp2_with fail
  refine HK0.out _ _ ?_
  clear HK0 K0
  refine wp_seq_k fun K1 hK1 => ?_
  have HK1 := hide' hK1
  clear hK1
  refine wp_mono (start1 p hp _ w) ?_
  rintro e a w1 ⟨rfl, A, pa, pc, g14, g15, g16, g17, g18, g19, g20, g21, rfl, hA, hown, hb1, hAB⟩
  have HA := hide' hA
  have HB1 : Hid (Below w.heap.size w w1 ∧ w1.ownsRow 0 4 1 (.slice pa 4 pc) 4 [.bool false, .bool false, .bool false, .bool false]) := ⟨hb1, hown⟩
  clear hA hown hb1
  dsimp only
  refine HK1.out _ _ ?_
  clear HK1 K1
  go_wp2_with fail
  refine (HC3.out _).mono ?_
  rintro e zz ⟨rfl, hzz⟩
  rw [hzz]
  clear hzz zz
  go_wp2_with fail
  refine (HC9.out _).mono ?_
  rintro e zz ⟨rfl, hzz⟩
  rw [hzz]
  clear hzz zz
  go_wp2_with fail
  rw [HW2.out, HW3.out]
  refine (HCO.out _).mono ?_
  rintro e w2 ⟨rfl, hb2⟩
  have HA2 : Hid (w2.heap[A]? = some (.cells #[.slice pa 4 pc, .int .i64 (-1), .int .i64 (-1), .int .i64 0, .bool false, .int .i64 0, .int .i64 (20 + pickedI p 5)] 24 (0, 0))) := (hb2.block A (lt_heap HA.out)).trans HA.out
  have HB2 : Hid (Below w.heap.size w w2 ∧ w2.ownsRow 0 4 1 (.slice pa 4 pc) 4 [.bool false, .bool false, .bool false, .bool false]) := ⟨HB1.out.1.trans (hb2.mono HB1.out.1.size), own_below HB1.out.2 hb2 (Nat.le_refl _)⟩
  clear hb2 HA HB1 HC3 HC9 HCO
  go_upto_region 3 with fail
  have hqE := alloc_new w2 (.cells #[.int .i64 0, .int .i64 0, .int .i64 0, .int .i64 0, .bool false, .int .i64 0, .int .i64 (2 + pickedI p 3), .int .i64 0, .int .i64 (3 + pickedI p 9), .bool false] 32)
  have hb1 := below_al w2 (.cells #[.int .i64 0, .int .i64 0, .int .i64 0, .int .i64 0, .bool false, .int .i64 0, .int .i64 (2 + pickedI p 3), .int .i64 0, .int .i64 (3 + pickedI p 9), .bool false] 32)
  obtain ⟨w3, hw1⟩ : ∃ x, x = (w2.alloc (.cells #[.int .i64 0, .int .i64 0, .int .i64 0, .int .i64 0, .bool false, .int .i64 0, .int .i64 (2 + pickedI p 3), .int .i64 0, .int .i64 (3 + pickedI p 9), .bool false] 32)) := ⟨_, rfl⟩
  rw [← hw1] at hqE hb1 ⊢
  obtain ⟨E, hnE⟩ : ∃ x, x = w2.heap.size := ⟨_, rfl⟩
  have HNE : Hid (w2.heap.size ≤ E) := by show _ ≤ _; omega
  rw [← hnE] at hqE
  rw [show (Value.pointer (some { block := w2.heap.size, off := 0 })) = Value.pointer (some { block := E, off := 0 }) by rw [hnE]]
  have HQE := hide' hqE
  have HB1 := hide' hb1
  clear hqE hb1 hw1 hnE
  have HA3 : Hid (w3.heap[A]? = some (.cells #[.slice pa 4 pc, .int .i64 (-1), .int .i64 (-1), .int .i64 0, .bool false, .int .i64 0, .int .i64 (20 + pickedI p 5)] 24 (0, 0))) := (HB1.out.block A (lt_heap HA2.out)).trans HA2.out
  have HB3 : Hid (Below w.heap.size w w3 ∧ w3.ownsRow 0 4 1 (.slice pa 4 pc) 4 [.bool false, .bool false, .bool false, .bool false]) := ⟨HB2.out.1.trans (HB1.out.mono HB2.out.1.size), own_below HB2.out.2 HB1.out (Nat.le_refl _)⟩
  clear HA2 HB2 HB1 HNE
  obtain ⟨c0, c1, c2, c3, c4, c5, c6⟩ := cellsP7 HA3.out
  obtain ⟨d0, d1, d2, d3, d4, d5, d6, d7, d8, d9⟩ := cellsP10 HQE.out
  go_upto_region 6 with fail
  clear c0 c1 c2 c3 c4 c5 c6 d0 d1 d2 d3 d4 d5 d6 d7 d8 d9 HA3 HQE
  have hqK := alloc_new w3 (.cells #[.int .i64 0, .int .i64 0, .int .i64 0, .int .i64 0, .bool false, .int .i64 0, .int .i64 (2 + pickedI p 3), .int .i64 0, .int .i64 (3 + pickedI p 9), .bool false, .slice pa 4 pc, .int .i64 (-1), .int .i64 (-1), .int .i64 0, .bool false, .int .i64 0, .int .i64 (20 + pickedI p 5), .slice none 0 0, .slice none 0 0, .slice none 0 0, .slice none 0 0, .slice none 0 0] 52)
  have hb1 := below_al w3 (.cells #[.int .i64 0, .int .i64 0, .int .i64 0, .int .i64 0, .bool false, .int .i64 0, .int .i64 (2 + pickedI p 3), .int .i64 0, .int .i64 (3 + pickedI p 9), .bool false, .slice pa 4 pc, .int .i64 (-1), .int .i64 (-1), .int .i64 0, .bool false, .int .i64 0, .int .i64 (20 + pickedI p 5), .slice none 0 0, .slice none 0 0, .slice none 0 0, .slice none 0 0, .slice none 0 0] 52)
  obtain ⟨w4, hw1⟩ : ∃ x, x = (w3.alloc (.cells #[.int .i64 0, .int .i64 0, .int .i64 0, .int .i64 0, .bool false, .int .i64 0, .int .i64 (2 + pickedI p 3), .int .i64 0, .int .i64 (3 + pickedI p 9), .bool false, .slice pa 4 pc, .int .i64 (-1), .int .i64 (-1), .int .i64 0, .bool false, .int .i64 0, .int .i64 (20 + pickedI p 5), .slice none 0 0, .slice none 0 0, .slice none 0 0, .slice none 0 0, .slice none 0 0] 52)) := ⟨_, rfl⟩
  rw [← hw1] at hqK hb1 ⊢
  obtain ⟨K, hnK⟩ : ∃ x, x = w3.heap.size := ⟨_, rfl⟩
  have HNE : Hid (w3.heap.size ≤ K) := by show _ ≤ _; omega
  rw [← hnK] at hqK
  rw [show (Value.pointer (some { block := w3.heap.size, off := 0 })) = Value.pointer (some { block := K, off := 0 }) by rw [hnK]]
  have HQK := hide' hqK
  have HB1 := hide' hb1
  clear hqK hb1 hw1 hnK
  have HL0 : Hid (LineI (2 + pickedI p 3) (3 + pickedI p 9) (20 + pickedI p 5) w K 0 (⟨⟨0, 0, 0, 0, false, 0, 2 + pickedI p 3, 0, 3 + pickedI p 9, false⟩, [false, false, false, false], ⟨-1, -1, 0, false, 0, 20 + pickedI p 5⟩, [], [], [], [], []⟩ : Wl) w4) := line_start HP3.out HP9.out HP5.out HQK.out (Nat.le_trans HB3.out.1.size HNE.out) (own_below HB3.out.2 HB1.out (Nat.le_refl _)) (HB3.out.1.trans (HB1.out.mono HB3.out.1.size))
  clear HQK HNE HB1 HB3
  go_wp2_with fail
  go_loopw [10] (fun i wr => ∃ (k : Nat) (V : Wl), i = .int .i64 k ∧ k ≤ n ∧ k ≤ 200 ∧ Hid (LineI (2 + pickedI p 3) (3 + pickedI p 9) (20 + pickedI p 5) w K k V wr)) (fun i _ => 200 - (intOf i).toNat)
  case atStart => exact ⟨0, _, rfl, Nat.zero_le _, Nat.zero_le _, HL0.out⟩
  case round =>
    obtain ⟨k, V, rfl, hk1, hk2, HL⟩ := hrel
    clear HL0
    by_cases hlt : k < n ∧ k < 200
    · obtain ⟨hlt1, hlt2⟩ := hlt
      have hkl : k < ts.length := by rw [HLN.out]; exact hlt1
      obtain ⟨b, off, c, ev, hbl, hce⟩ := row_elem (f := fun t : TuM => t.cells.toList) (sz := 7) (fun _ => rfl) (HR.out.below HL.out.2.2.2 (Nat.le_refl _)) k hkl (by decide)
      cases ev
      obtain ⟨t, ht⟩ : ∃ t, t = ts[k] := ⟨_, rfl⟩
      rw [← ht] at hce
      have HST := hide' (line_step HL.out (by omega) t (HTS.out t (by rw [ht]; exact List.getElem_mem hkl)))
      have c0 : wr.cell? ⟨b, off + k * 7, none⟩ = some (.int .i64 t.ask) := hce 0 _ rfl
      have c1 : wr.cell? ⟨b, off + k * 7 + 1, none⟩ = some (.bool t.want) := hce 1 _ rfl
      have c2 : wr.cell? ⟨b, off + k * 7 + 2, none⟩ = some (.int .i64 t.come) := hce 2 _ rfl
      have c3 : wr.cell? ⟨b, off + k * 7 + 3, none⟩ = some (.int .i64 t.lose) := hce 3 _ rfl
      have c4 : wr.cell? ⟨b, off + k * 7 + 4, none⟩ = some (.int .i64 t.again) := hce 4 _ rfl
      have c5 : wr.cell? ⟨b, off + k * 7 + 5, none⟩ = some (.int .i64 t.mix) := hce 5 _ rfl
      have c6 : wr.cell? ⟨b, off + k * 7 + 6, none⟩ = some (.bool t.deaf) := hce 6 _ rfl
      clear hce ht hbl HL
      go_wp2_with fail
      refine HST.out.mono ?_
      rintro e z ⟨rfl, hz⟩
      have HZ := hide' hz
      clear hz HST c0 c1 c2 c3 c4 c5 c6
      go_wp2
      go_roundw
      case rel => exact ⟨k + 1, _, by go_num, by omega, by omega, HZ.out⟩
      case measure => simp [intOf]; omega
    · have HL1 := hide' (HL.out.clear.mono hk2)
      have HQ0 : Hid (QI 0 ((V.down1 []).up1 [])) := QI.start HL1.out.2.1 (by have := HP3.out; omega) rfl rfl
      obtain ⟨V1, hV1⟩ : ∃ x, x = (V.down1 []).up1 [] := ⟨_, rfl⟩
      rw [← hV1] at HL1 HQ0
      obtain ⟨⟨pv, dv, uv, ov, av, cv, hW⟩, _⟩ := HL.out
      obtain ⟨-, -, -, -, -, -, -, -, -, -, -, -, -, -, -, -, -, c17, c18⟩ := cellsP19 hW.cell
      obtain ⟨-, -, -, -, -, -, -, -, -, -, -, -, -, -, -, -, -, e17, e18⟩ := frozenP19 hW.cell
      clear hW HL hV1 HR HTS HLN
      go_upto_region 11 with fail
      all_goals
        go_upto_region 12 with fail
        obtain ⟨wo, hwo⟩ : ∃ x, x = ((wr.setCell ⟨K, 17, none⟩ (.slice none 0 0)).setCell ⟨K, 18, none⟩ (.slice none 0 0)) := ⟨_, rfl⟩
        rw [← hwo] at HL1 ⊢
        clear hwo c17 c18 e17 e18 hk1 hk2 hlt
        go_wp2_with fail
        go_loopw [11] (fun i wr => ∃ (k : Nat) (V : Wl), i = .int .i64 k ∧ k ≤ 40 ∧ Hid (LineI (2 + pickedI p 3) (3 + pickedI p 9) (20 + pickedI p 5) w K (200 + k) V wr ∧ QI k V)) (fun i _ => 40 - (intOf i).toNat)
        case atStart => exact ⟨0, V1, rfl, Nat.zero_le _, HL1.out, HQ0.out⟩
        case round =>
          clear HL1 HQ0
          obtain ⟨k, V, rfl, hk, HL⟩ := hrel
          by_cases hlt : k < 40
          · go_upto_region 16 with fail
            have hqD := alloc_new wr (.cells #[.int .i64 0, .bool false, .int .i64 9, .int .i64 0, .int .i64 0, .int .i64 0, .bool false] 55)
            have hb1 := below_al wr (.cells #[.int .i64 0, .bool false, .int .i64 9, .int .i64 0, .int .i64 0, .int .i64 0, .bool false] 55)
            obtain ⟨wq, hw1⟩ : ∃ x, x = (wr.alloc (.cells #[.int .i64 0, .bool false, .int .i64 9, .int .i64 0, .int .i64 0, .int .i64 0, .bool false] 55)) := ⟨_, rfl⟩
            rw [← hw1] at hqD hb1 ⊢
            obtain ⟨D, hnD⟩ : ∃ x, x = wr.heap.size := ⟨_, rfl⟩
            have HNE : Hid (wr.heap.size ≤ D) := by show _ ≤ _; omega
            rw [← hnD] at hqD
            rw [show (Value.pointer (some { block := wr.heap.size, off := 0 })) = Value.pointer (some { block := D, off := 0 }) by rw [hnD]]
            have HQD := hide' hqD
            have HB1 := hide' hb1
            clear hqD hb1 hw1 hnD
            obtain ⟨⟨pv, dv, uv, ov, av, cv, hW⟩, _⟩ := (HL.out.1.below HB1.out)
            have c1 : wq.cell? ⟨K, 1, none⟩ = some (.int .i64 V.m.ph) := (cells_at hW.cell 1).trans rfl
            clear hW
            obtain ⟨d0, d1, d2, d3, d4, d5, d6⟩ := cellsP7 HQD.out
            obtain ⟨e0, e1, e2, e3, e4, e5, e6⟩ := frozenP7 HQD.out
            by_cases hq : V.m.ph = 0 ∧ k < 10
            · have HQQ := hide' hq
              have HST := hide' (line_step (HL.out.1.below ((HB1.out.setCell (p := ⟨D, 0, none⟩) HNE.out (.int .i64 3)).setCell (p := ⟨D, 1, none⟩) HNE.out (.bool true))) (by omega) ⟨3, true, 9, 0, 0, 0, false⟩ ⟨by unfold I6; decide, by unfold I6; decide, by unfold I6; decide, by unfold I6; decide⟩)
              have hk10 := hq.2
              rw [hq.1] at c1
              clear hq HB1 HQD HNE
              go_wp2_with fail
              refine HST.out.mono ?_
              rintro e z ⟨rfl, hz⟩
              rw [← show qturn k V = _ from if_pos HQQ.out] at hz
              have HZ : Hid (LineI (2 + pickedI p 3) (3 + pickedI p 9) (20 + pickedI p 5) w K (200 + k + 1) (tickW V (qturn k V)) z ∧ QI (k + 1) (tickW V (qturn k V))) := ⟨hz, QI.step HL.out.1.2.1 (by have := HP5.out; omega) (by have := HP3.out; omega) HL.out.2⟩
              clear hz HST HL
              go_wp2
              go_roundw
              case rel => exact ⟨k + 1, _, by go_num, by omega, HZ.out⟩
              case measure => simp [intOf]; omega
            · have HQQ := hide' hq
              have HST := hide' (line_step (HL.out.1.below HB1.out) (by omega) ⟨0, false, 9, 0, 0, 0, false⟩ ⟨by unfold I6; decide, by unfold I6; decide, by unfold I6; decide, by unfold I6; decide⟩)
              by_cases hp0 : V.m.ph = 0
              · have hk10 : ¬ k < 10 := fun h => hq ⟨hp0, h⟩
                rw [hp0] at c1
                clear hq HB1 HQD HNE hp0
                go_wp2_with fail
                refine HST.out.mono ?_
                rintro e z ⟨rfl, hz⟩
                rw [← show qturn k V = _ from if_neg HQQ.out] at hz
                have HZ : Hid (LineI (2 + pickedI p 3) (3 + pickedI p 9) (20 + pickedI p 5) w K (200 + k + 1) (tickW V (qturn k V)) z ∧ QI (k + 1) (tickW V (qturn k V))) := ⟨hz, QI.step HL.out.1.2.1 (by have := HP5.out; omega) (by have := HP3.out; omega) HL.out.2⟩
                clear hz HST HL
                go_wp2
                go_roundw
                case rel => exact ⟨k + 1, _, by go_num, by omega, HZ.out⟩
                case measure => simp [intOf]; omega
              · clear hq HB1 HQD HNE
                go_wp2_with fail
                refine HST.out.mono ?_
                rintro e z ⟨rfl, hz⟩
                rw [← show qturn k V = _ from if_neg HQQ.out] at hz
                have HZ : Hid (LineI (2 + pickedI p 3) (3 + pickedI p 9) (20 + pickedI p 5) w K (200 + k + 1) (tickW V (qturn k V)) z ∧ QI (k + 1) (tickW V (qturn k V))) := ⟨hz, QI.step HL.out.1.2.1 (by have := HP5.out; omega) (by have := HP3.out; omega) HL.out.2⟩
                clear hz HST HL
                go_wp2
                go_roundw
                case rel => exact ⟨k + 1, _, by go_num, by omega, HZ.out⟩
                case measure => simp [intOf]; omega
          · have hk40 : k = 40 := by omega
            subst hk40
            have hG := QI.end HL.out.1.2.1 HL.out.2
            obtain ⟨⟨pv, dv, uv, ov, av, cv, hW⟩, hI, _, hbw⟩ := HL.out.1
            obtain ⟨aa, ac, hae⟩ := own_slice hW.ak
            subst hae
            rcases hI.ac with ⟨_, hl1⟩ | ⟨l, hal, hl0⟩
            · exfalso
              have h1 := hG.la
              have h2 := hG.n0
              omega
            · obtain ⟨cb, off, cc, hce, hcl⟩ : ∃ b off c, cv = .slice (some ⟨b, off, none⟩) (l.length + 1) c ∧ wr.cell? ⟨b, off + l.length, none⟩ = some (.int .i64 V.s.last) := by
                obtain ⟨_, a', c', ex, h2⟩ := rowAt_of_own hW.ac
                obtain ⟨b, off, e1, e2⟩ := h2 l.length (.int .i64 V.s.last) (by rw [hal]; unfold ints; simp)
                refine ⟨b, off, c', ?_, by simpa using e2⟩
                rw [ex, e1, hal, List.length_append]
                rfl
              subst hce
              obtain ⟨m, hm⟩ : ∃ m, m = l.length := ⟨_, rfl⟩
              rw [← hm] at hcl
              obtain ⟨na, hna⟩ : ∃ x, x = V.asked.length := ⟨_, rfl⟩
              have hpos : 0 < na := by rw [hna]; exact hG.n0
              have hn3 : na ≤ 240 := by rw [hna]; exact hI.nT
              have hla : V.s.last = (na : Int) - 1 := by rw [hna]; exact hG.la
              have hm3 : m + 1 ≤ 240000 := by
                have := HL.out.1.2.2.1.c
                rw [hal, List.length_append] at this
                have h1 : [V.s.last].length = 1 := rfl
                omega
              rw [hla] at hcl
              have c1 : wr.cell? ⟨K, 1, none⟩ = some (.int .i64 0) := (cells_at hW.cell 1).trans (by rw [← hG.ph]; rfl)
              have c9 : wr.cell? ⟨K, 9, none⟩ = some (.bool false) := (cells_at hW.cell 9).trans (by rw [← hG.gv]; rfl)
              have c20 : wr.cell? ⟨K, 20, none⟩ = some (.slice aa na ac) := (cells_at hW.cell 20).trans (by rw [hna]; rfl)
              have c21 : wr.cell? ⟨K, 21, none⟩ = some (.slice (some ⟨cb, off, none⟩) (m + 1) cc) := (cells_at hW.cell 21).trans (by rw [hm]; rfl)
              have HBW := hide' hbw
              clear hW hI hG hbw hal hl0 HL hm hna hla
              go_upto_region 22 with fail
              go_quiet (fail)
              go_wp2
              go_ret
              exact ⟨rfl, below_drewN HBW.out _⟩
  done
end Go.Proofs.Ytjhmendiefojoam
