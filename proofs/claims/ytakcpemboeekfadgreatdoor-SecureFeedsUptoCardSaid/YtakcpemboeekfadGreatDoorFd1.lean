/- A list of numbers copied; whether each generator can generate what the plan tells of it. -/
import Derived.Test.YtakcpemboeekfadGreatDoorFd0
namespace Go.Proofs.YtakcpemboeekfadGreatDoor.Bar
open Go.RowKit Go.Shelf Doc

theorem ints_one (l : List Int) : ∀ u ∈ ints l, u.oneCell' = true := by
  intro u hu
  obtain ⟨x, _, rfl⟩ := List.mem_map.1 hu
  rfl
theorem ints_len (l : List Int) : (ints l).length = l.length := List.length_map _
theorem ints_cell2 {w : World} {v : Value} {l : List Int} {n : Nat} (h : RowAt w v n 1 (ints l)) (k : Nat) (hk : k < l.length) : ∃ b off c, v = .slice (some ⟨b, off, none⟩) n c ∧ w.cell? ⟨b, off + k, none⟩ = some (.int .i64 (l.getD k 0)) := by
  obtain ⟨-, a, c, rfl, hc⟩ := h
  obtain ⟨b, off, rfl, hcell⟩ := hc k (.int .i64 (l.getD k 0)) (by rw [ints, List.getElem?_map, (getD_in hk).1]; rfl)
  exact ⟨b, off, c, rfl, hcell⟩
set_option maxRecDepth 100000 in
theorem ints_any (l : List Int) (v : Value) (w : World) (hx : RowAt w v l.length 1 (ints l)) (hl : l.length ≤ 2000000) :
    Calls Tryz.prog 6 #[v] w fun e w' => ∃ v', e = .returned v' ∧ w'.ownsRow w.heap.size 3 1 v' l.length (ints l) ∧ Below w.heap.size w w' := by
  obtain ⟨i0, hi0, hzz0, hzz1, hzz2⟩ := info_parts Doc.Tryz.info3
  obtain ⟨hn, ao, c, rfl, hc⟩ := hx
  have HC := hide' hc
  have HN := hide' hn
  clear hc hn
  go_enter Tryz.func6, Tryz.ntmps6
  go_wp2_with (at_builtin; refine wpList_append_all _ rfl _ _ 29 rfl w.heap.size 3 i0 _ 8 Tryz.underlying29 hi0 hzz0 hzz1 hzz2 rfl rfl ao l.length c (ints l) rfl HN.out HC.out (ints_one l) (by unfold maxLen; omega) (by omega) (Nat.le_refl _) ?_; intro v' w3 hown' hgrow; refine Still.go ?_)
  unfold Still
  have HB : Hid (Below w.heap.size w w3) := (Below.refl _ w).grown hgrow (Nat.le_refl _) (fun k e => by cases e)
  have HO := hide' hown'
  clear hgrow hown'
  go_wp2
  go_ret
  exact ⟨v', rfl, HO.out, HB.out⟩

def AbleOut (gs : List GenM) (plan : List Int) (w : World) (e : Ending) (w' : World) : Prop := (∃ r : Bool, e = .returned (.bool r) ∧ (r = true ↔ AbleM gs plan)) ∧ Below w.heap.size w w'
set_option maxRecDepth 100000 in
set_option maxHeartbeats 2000000 in
theorem able_any (gs : List GenM) (plan : List Int) (gv pv : Value) (w : World) (hg : RowAt w gv gs.length 5 (gs.flatMap GenM.cells)) (hp : RowAt w pv gs.length 1 (ints plan)) (hl : plan.length = gs.length) (h12 : gs.length ≤ 12) :
    Calls Tryz.prog 10 #[gv, pv] w (AbleOut gs plan w) := by
  have HG := hide' hg
  have HP := hide' hp
  have HL := hide' hl
  obtain ⟨ag, cg, rfl⟩ := rowAt_slice hg
  obtain ⟨ap, cp, rfl⟩ := rowAt_slice hp
  clear hg hp hl
  go_enter Tryz.func10, Tryz.ntmps10
  go_wp2_with fail
  go_loopw [9] (fun i wr => ∃ (k : Nat), i = .int .i64 k ∧ k ≤ gs.length ∧ Hid (∀ j g, j < k → gs[j]? = some g → OkG g (plan.getD j 0)) ∧ Hid (Below w.heap.size w wr)) (fun i _ => gs.length - (intOf i).toNat)
  case atStart => exact ⟨0, rfl, Nat.zero_le _, fun j _ h => absurd h (Nat.not_lt_zero j), Below.refl _ w⟩
  case round =>
    obtain ⟨k, rfl, hk, HOK, HBE⟩ := hrel
    by_cases hlt : k < gs.length
    · obtain ⟨bt, ot, ct', ex, hbt, hct⟩ := row_elem (f := GenM.cells) (fun _ => rfl) HG.out k hlt (by decide)
      cases ex
      obtain ⟨bp, op, cp', exp, hcp⟩ := ints_cell2 HP.out k (by rw [HL.out]; exact hlt)
      cases exp
      obtain ⟨g, hgk⟩ : ∃ g, g = gs[k] := ⟨_, rfl⟩
      rw [← hgk] at hct
      obtain ⟨p, hpk⟩ : ∃ p, p = plan.getD k 0 := ⟨_, rfl⟩
      rw [← hpk] at hcp
      have HK : Hid (gs[k]? = some g) := by show _ = _; rw [hgk]; exact List.getElem?_eq_getElem hlt
      have HPK := hide' hpk
      have up : ∀ (c j : Nat) (u : Value), w.cell? ⟨c, j, none⟩ = some u → wr.cell? ⟨c, j, none⟩ = some u := fun c j u h => (HBE.out.cell (World.block_lt_of_cell? w _ h)).trans h
      have d0 := up _ _ _ (hct 0 _ rfl)
      have d1 := up _ _ _ (hct 1 _ rfl)
      have d2 := up _ _ _ (hct 2 _ rfl)
      have d3 := up _ _ _ (hct 3 _ rfl)
      have d4 := up _ _ _ (hct 4 _ rfl)
      have d5 := up _ _ _ hcp
      rw [Nat.add_zero] at d0
      have HOG : Hid (OkG g p ↔ (p = 0 ∨ (g.least ≤ p ∧ p ≤ g.most))) := Iff.rfl
      obtain ⟨x0, hx0⟩ : ∃ x, x = g.name := ⟨_, rfl⟩
      obtain ⟨x1, hx1⟩ : ∃ x, x = g.bus := ⟨_, rfl⟩
      obtain ⟨x2, hx2⟩ : ∃ x, x = g.least := ⟨_, rfl⟩
      obtain ⟨x3, hx3⟩ : ∃ x, x = g.most := ⟨_, rfl⟩
      obtain ⟨x4, hx4⟩ : ∃ x, x = g.cost := ⟨_, rfl⟩
      rw [← hx0] at d0
      rw [← hx1] at d1
      rw [← hx2] at d2 HOG
      rw [← hx3] at d3 HOG
      rw [← hx4] at d4
      have HBA : Hid (∀ o, Below w.heap.size w (wr.alloc o)) := fun o => HBE.out.alloc HBE.out.size o
      have HNEXT : Hid (OkG g p → ∀ j g', j < k + 1 → gs[j]? = some g' → OkG g' (plan.getD j 0)) := fun h j g' hj hg' => by
        by_cases e : j = k
        · rw [e] at hg' ⊢
          rw [HK.out] at hg'
          cases hg'
          rw [← HPK.out]
          exact h
        · exact HOK.out j g' (by omega) hg'
      have HBAD : Hid (¬ OkG g p → ¬ AbleM gs plan) := fun h ha => h (by rw [HPK.out]; exact ha k g HK.out)
      obtain ⟨W2, hW2⟩ : ∃ W2, W2 = wr.alloc (.cells #[.string x0, .int .i64 x1, .int .i64 x2, .int .i64 x3, .int .i64 x4] 40) := ⟨_, rfl⟩
      have m2 : W2.cell? ⟨wr.heap.size, 2, none⟩ = some (.int .i64 x2) := by rw [hW2]; exact cell_news wr [.string x0, .int .i64 x1, .int .i64 x2, .int .i64 x3, .int .i64 x4] 40 2 _ rfl
      have m3 : W2.cell? ⟨wr.heap.size, 3, none⟩ = some (.int .i64 x3) := by rw [hW2]; exact cell_news wr [.string x0, .int .i64 x1, .int .i64 x2, .int .i64 x3, .int .i64 x4] 40 3 _ rfl
      have m5 : W2.cell? ⟨bp, op + k, none⟩ = some (.int .i64 p) := by rw [hW2]; exact later d5 _
      have HW2 := hide' hW2
      have HB2 : Hid (Below w.heap.size w W2) := by rw [hW2]; exact HBA.out _
      clear hct hgk hcp hpk up hx0 hx1 hx2 hx3 hx4 hbt hW2 HBE HOK d5
      go_wp2_with fail
      rw [← HW2.out]
      clear d0 d1 d2 d3 d4
      by_cases hp0 : p = 0
      · subst hp0
        go_quiet (fail)
        go_wp2
        go_roundw
        case rel => exact ⟨k + 1, by go_num, by omega, HNEXT.out (HOG.out.2 (.inl rfl)), below_drewN HB2.out _⟩
        case measure => simp [intOf]; omega
      · have hb0 : (p != 0) = true := bne_iff_ne.2 hp0
        by_cases hp2 : p < x2
        · have HNO : Hid (¬ OkG g p) := fun h => by rcases HOG.out.1 h with h | h <;> omega
          clear hp0
          go_quiet (fail)
          go_wp2
          go_ret
          exact ⟨⟨false, rfl, ⟨fun h => (by cases h), fun h => absurd h (HBAD.out HNO.out)⟩⟩, below_drewN HB2.out _⟩
        · by_cases hp3 : x3 < p
          · have HNO : Hid (¬ OkG g p) := fun h => by rcases HOG.out.1 h with h | h <;> omega
            clear hp0
            go_quiet (fail)
            go_wp2
            go_ret
            exact ⟨⟨false, rfl, ⟨fun h => (by cases h), fun h => absurd h (HBAD.out HNO.out)⟩⟩, below_drewN HB2.out _⟩
          · have HYES : Hid (OkG g p) := HOG.out.2 (.inr (by omega))
            clear hp0
            go_quiet (fail)
            go_wp2
            go_roundw
            case rel => exact ⟨k + 1, by go_num, by omega, HNEXT.out HYES.out, below_drewN HB2.out _⟩
            case measure => simp [intOf]; omega
    · have HALL : Hid (AbleM gs plan) := fun j g hj => HOK.out j g (by have := (List.getElem?_eq_some_iff.1 hj).1; omega) hj
      go_wp2
      go_ret
      exact ⟨⟨true, rfl, ⟨fun _ => HALL.out, fun _ => rfl⟩⟩, HBE.out⟩
end Go.Proofs.YtakcpemboeekfadGreatDoor.Bar
