/- ProtectFirst. -/
import Derived.Test.YtpejnkngmnabfaiP5
namespace Go.Proofs.Ytpejnkngmnabfai
open Go.RowKit Go.Shelf

theorem getD_snoc_lt {l : List Int} {i : Nat} {x y : Int} (h : i < l.length) : (l ++ [x]).getD i y = l.getD i y := by
  rw [List.getD_eq_getElem?_getD, List.getD_eq_getElem?_getD, List.getElem?_append_left h]
theorem getD_snoc_eq {l : List Int} {x y : Int} : (l ++ [x]).getD l.length y = x := by simp
theorem Ahead.snoc {l : List Int} (h : Ahead l) {x : Int} (h0 : -1 ≤ x) (h1 : x < (l.length : Int)) : Ahead (l ++ [x]) := fun k hk => by
  rw [List.length_append, List.length_singleton] at hk
  by_cases e : k < l.length
  · rw [getD_snoc_lt e]; exact h k e
  · rw [show k = l.length by omega, getD_snoc_eq]; exact ⟨h0, h1⟩
theorem grade_ok {bs : List Int} (h : Ahead bs) {b s : Nat} (hb : b < 1000) (hs : s < 1000) : gradeB bs (b : Int) (s : Int) = true := by
  unfold gradeB
  rw [aheadB_iff.2 h, inB_iff.2 (by omega), inB_iff.2 (by omega)]
  rfl
theorem timed_two {T : List Int} (h : Timed [-1, 0] 5 3 0 T) : T = [8, 5] := by
  refine Timed.one (bs := [-1, 0]) (base := 5) (step := 3) (aheadB_iff.1 rfl) h ?_
  refine ⟨rfl, fun k hk => ?_, fun k hk => ?_, fun c k _ hc hk => ?_, fun k hk => ?_⟩
  · match k, hk with
    | 0, _ => decide
    | 1, _ => decide
  · match k, hk with
    | 0, _ => decide
    | 1, _ => decide
  · match c, hc with
    | 0, _ => exact absurd hk (by simp)
    | 1, _ =>
      have : k = 0 := by simp at hk; omega
      subst this
      decide
  · match k, hk with
    | 0, _ => exact .inr ⟨1, by decide, by decide, by decide, by decide⟩
    | 1, _ => exact .inl (by decide)
set_option maxRecDepth 100000 in
set_option maxHeartbeats 2000000 in
theorem ProtectFirst_any (raw : List Int) (base step : Int) (v : Value) (w : World) (hx : RowAt w v raw.length 1 (ints raw)) (hI : ∀ x ∈ raw, I6 x) (hbI : I6 base) (hsI : I6 step) (_hl : raw.length ≤ 2000000) :
    Calls Try.prog 6 #[v, .int .i64 base, .int .i64 step] w fun e w' => e = .returned (.bool true) ∧ Below w.heap.size w w' := by
  obtain ⟨i0, hi0, hzz0, hzz1, hzz2⟩ := info_parts Try.info3
  have HX := hide' hx
  have HI := hide' hI
  obtain ⟨ag, cg, rfl⟩ := rowAt_slice hx
  obtain ⟨b, hb, hbc⟩ := picked_is base 1000 hbI (by decide) (by decide)
  obtain ⟨s, hs, hsc⟩ := picked_is step 1000 hsI (by decide) (by decide)
  have HBC := hide' hbc
  have HSC := hide' hsc
  clear hx hI hbc hsc hbI hsI
  go_enter Try.func6, Try.ntmps6
  go_wp2_with fail
  refine (HBC.out _).mono ?_
  rintro e w' ⟨rfl, hw'⟩
  obtain rfl := hw'.symm
  go_wp2_with fail
  refine (HSC.out _).mono ?_
  rintro e w' ⟨rfl, hw'⟩
  obtain rfl := hw'.symm
  go_wp2_with fail
  go_loopw [9, 10] (fun lv iv wr => ∃ (k : Nat) (l : List Int), iv = .int .i64 k ∧ k ≤ raw.length ∧ k ≤ 20 ∧ l.length = k ∧ Hid (Ahead l) ∧ Hid (wr.ownsRow w.heap.size 3 1 lv l.length (l.map (Value.int .i64))) ∧ Hid (Below w.heap.size w wr)) (fun _ iv _ => 20 - (intOf iv).toNat)
  case atStart => exact ⟨0, [], rfl, Nat.zero_le _, Nat.zero_le _, rfl, fun i h => absurd h (Nat.not_lt_zero i), World.ownsRow_nil _ _ _ _, Below.refl _ w⟩
  case round =>
    obtain ⟨k, l, rfl, hk, hk20, hlk, HR, HOWN, HBE⟩ := hrel
    by_cases hlt : k < raw.length ∧ k < 20
    · obtain ⟨hkr, hk2⟩ := hlt
      obtain ⟨bt, ot, ct', ex, hct⟩ := ints_cell2 HX.out k hkr
      cases ex
      have d0 := (HBE.out.cell (World.block_lt_of_cell? w _ hct)).trans hct
      have hxI := HI.out _ (getD_in hkr).2
      obtain ⟨x, hx⟩ : ∃ x, x = raw.getD k 0 := ⟨_, rfl⟩
      rw [← hx] at d0 hxI
      obtain ⟨p, hp, hpc⟩ := picked_is x (k + 1) hxI (by omega) (by omega)
      rw [Int.natCast_add] at hpc
      have HPC := hide' hpc
      have HN2 := hide' (HR.out.snoc (x := (p : Int) - 1) (by omega) (by omega))
      have hwk : IntKind.i64.wrap ((k : Int) + 1) = (k : Int) + 1 := Go.IntWalk.i64_in _ (by omega)
      have hwp : IntKind.i64.wrap ((p : Int) - 1) = (p : Int) - 1 := Go.IntWalk.i64_in _ (by omega)
      clear hct hpc hx hxI
      go_wp2_with fail
      refine (HPC.out _).mono ?_
      rintro e w' ⟨rfl, rfl⟩
      go_wp2_with (at_builtin; refine wpList_append_own _ rfl _ _ 22 rfl w.heap.size 3 i0 (.int .i64 0) 1 8 Try.underlying22 hi0 hzz0 hzz1 hzz2 rfl (by decide) _ _ _ rfl (HOWN.out.alloc _) ⟨w'.heap.size, 0, none⟩ 1 1 [.int .i64 ((p : Int) - 1)] rfl rfl (cell_one_new _ _ _) (one_cell rfl) (by unfold maxLen; omega) (by omega) (by have := HBE.out.size; simp; omega) ?_; intro v' w2 hown' hgrow _; refine Still.go ?_)
      unfold Still
      have HOWN2 := hide' (own_snoc hown')
      have HB2 := hide' (below_app HBE.out HOWN.out (Nat.le_refl _) HBE.out.size hgrow)
      clear hown' hgrow
      go_wp2
      go_roundw
      case rel => exact ⟨k + 1, _, by go_num, by omega, by omega, by simp; omega, HN2, HOWN2, HB2⟩
      case measure => simp [intOf]; omega
    · have HE : Hid (RowAt wr u9 l.length 1 (ints l)) := rowAt_of_own HOWN.out
      have HLE := hide' hlk
      have HL20 : Hid (l.length ≤ 20) := by show _ ≤ _; omega
      obtain ⟨al, cl, hul⟩ := rowAt_slice HE.out
      subst hul
      have HG := hide' (Grade_any l (b : Int) (s : Int) _ wr HE.out (by omega))
      have HGB := hide' (grade_ok HR.out hb hs)
      clear hlk HX HI HBC HSC
      by_cases h20 : k < raw.length
      all_goals
        go_wp2_with fail
        refine HG.out.mono ?_
        intro e w1 hgo
        obtain ⟨hgo, hb1⟩ := hgo
        obtain ⟨T, F, rfl, hT, hoT⟩ : ∃ T F, e = .returned (.tuple #[.slice (some ⟨F, 0, none⟩) l.length l.length, .int .i64 0]) ∧ Timed l (b : Int) (s : Int) 0 T ∧ w1.ownsRow wr.heap.size 3 1 (.slice (some ⟨F, 0, none⟩) l.length l.length) l.length (ints T) := by
          rcases hgo with ⟨h, _⟩ | ⟨_, h, _⟩ | ⟨_, _, h⟩
          · have := HL20.out; omega
          · rw [HGB.out] at h; cases h
          · exact h
        have HT := hide' hT
        have HO1 := hide' hoT
        have HB1 : Hid (Below w.heap.size w w1) := HBE.out.trans (hb1.mono HBE.out.size)
        have HE1 := hide' (HE.out.below hb1 (Nat.le_refl _))
        clear hgo hb1 hT hoT HG HGB
        have HG2 := hide' (Grade_any [-1, 0] 5 3 (.slice (some ⟨w1.heap.size, 0, none⟩) 2 2) (w1.alloc (.cells #[.int .i64 (-1), .int .i64 0] 3)) (rowAt_ints (alloc_new w1 (.cells #[.int .i64 (-1), .int .i64 0] 3)) rfl) (by decide))
        go_wp2_with fail
        refine HG2.out.mono ?_
        intro e w2 hgo
        obtain ⟨hgo, hb2⟩ := hgo
        obtain ⟨T1, F1, rfl, hT1, ho2⟩ : ∃ T1 F1, e = .returned (.tuple #[.slice (some ⟨F1, 0, none⟩) 2 2, .int .i64 0]) ∧ Timed [-1, 0] 5 3 0 T1 ∧ w2.ownsRow (w1.alloc (.cells #[.int .i64 (-1), .int .i64 0] 3)).heap.size 3 1 (.slice (some ⟨F1, 0, none⟩) 2 2) 2 (ints T1) := by
          rcases hgo with ⟨h, _⟩ | ⟨_, h, _⟩ | ⟨_, _, h⟩
          · exact absurd h (by decide)
          · exact absurd h (by decide)
          · exact h
        rw [timed_two hT1] at ho2
        have hbb : Below w1.heap.size w1 w2 := (below_al w1 _).trans (hb2.mono (below_al w1 _).size)
        have o0 := (own_cell ho2 (j := 0) (u := .int .i64 8) rfl).1
        have o1 := (own_cell ho2 (j := 1) (u := .int .i64 5) rfl).1
        have HO2 := hide' (rowAt_of_own (own_below HO1.out hbb (Nat.le_refl _)))
        have HB2 : Hid (Below w.heap.size w w2) := HB1.out.trans (hbb.mono HB1.out.size)
        have HE2 := hide' (HE1.out.below hbb (Nat.le_refl _))
        clear hgo hb2 hT1 ho2 hbb HG2 HO1 HB1 HE1
        go_wp2_with fail
        go_loopw [15] (fun iv wx => ∃ (m : Nat), iv = .int .i64 m ∧ m ≤ l.length ∧ Hid (Below w2.heap.size w2 wx)) (fun iv _ => l.length - (intOf iv).toNat)
        case atStart => exact ⟨0, rfl, Nat.zero_le _, Below.refl _ w2⟩
        case round =>
          obtain ⟨m, rfl, hm, HBX⟩ := hrel
          have HBD : Hid (∀ z, Below w2.heap.size w2 (wr.drewN z)) := fun z => below_drewN HBX.out z
          have hl20 : l.length ≤ 20 := HL20.out
          by_cases hlt2 : m < l.length
          · obtain ⟨bl, ol, cl', ex, hcl⟩ := ints_cell HE2.out m hlt2
            cases ex
            have hah := HR.out m hlt2
            rw [get_same hlt2] at hah
            have htl := HT.out.len
            have lo := HT.out.lo m hlt2
            have hi := HT.out.hi m hlt2
            have hms : (s : Int) * ((l.length - 1 - m : Nat) : Int) ≤ 20000 := by
              have e1 : (s : Int) * ((l.length - 1 - m : Nat) : Int) ≤ (s : Int) * 20 := Int.mul_le_mul_of_nonneg_left (by have := HL20.out; omega) (by omega)
              omega
            obtain ⟨bt, ot, ct', ex, hct⟩ := ints_cell2 HO2.out m (by omega)
            cases ex
            have c0 := up_cell HBX.out hcl
            have c1 := up_cell HBX.out hct
            rw [Nat.zero_add] at c1
            have hup := HT.out.up m (l.getD m 0).toNat (Nat.zero_le _) hlt2
            rw [get_same hlt2] at hup
            have hcc : ∀ c : Nat, c < l.length → w2.cell? ⟨F, c, none⟩ = some (.int .i64 (T.getD c 0)) := fun c hc => by
              obtain ⟨b2, o2, c2, ex2, hc2⟩ := ints_cell2 HO2.out c (by omega)
              simp only [Value.slice.injEq, Option.some.injEq, Addr.mk.injEq] at ex2
              obtain ⟨⟨e1, e2, _⟩, _⟩ := ex2
              rw [← e1, ← e2, Nat.zero_add] at hc2
              exact hc2
            obtain ⟨x, hx⟩ : ∃ x, x = l.getD m 0 := ⟨_, rfl⟩
            obtain ⟨tm, htm⟩ : ∃ x, x = T.getD m 0 := ⟨_, rfl⟩
            rw [← hx] at c0 hah hup
            rw [← htm] at c1 lo hi hup
            have hwr : IntKind.i64.wrap (tm + (s : Int)) = tm + (s : Int) := Go.IntWalk.i64_in _ (by omega)
            have hnl : ¬ tm < (b : Int) := by omega
            clear hcl hct hx htm
            by_cases hx0 : x < 0
            · have hd0 : decide ((0 : Int) ≤ x) = false := by simp; omega
              have hd1 : decide (tm < (b : Int)) = false := by simp; omega
              clear hup hi lo hcc
              go_wp2_with fail
              go_quiet (fail)
              go_wp2
              go_roundw
              case rel => exact ⟨m + 1, by go_num, by omega, HBD.out _⟩
              case measure => simp [intOf]; omega
            · obtain ⟨c, rfl⟩ : ∃ c : Nat, x = (c : Int) := ⟨x.toNat, by omega⟩
              have c2 := up_cell HBX.out (hcc c (by omega))
              have hup2 := hup (by omega)
              rw [Int.toNat_natCast] at hup2
              obtain ⟨tc, htc⟩ : ∃ x, x = T.getD c 0 := ⟨_, rfl⟩
              rw [← htc] at c2 hup2
              have hd0 : decide ((0 : Int) ≤ (c : Int)) = true := by simp
              have hd1 : decide (tm < (b : Int)) = false := by simp; omega
              have hd2 : decide (tc < tm + (s : Int)) = false := by simp; omega
              clear hup hi lo hcc htc hup2
              go_wp2_with fail
              go_quiet (fail)
              go_wp2
              go_roundw
              case rel => exact ⟨m + 1, by go_num, by omega, HBD.out _⟩
              case measure => simp [intOf]; omega
          · have HEND : Hid (Below w.heap.size w wr) := HB2.out.trans (HBX.out.mono HB2.out.size)
            go_wp2
            go_ret
            exact ⟨rfl, HEND.out⟩
end Go.Proofs.Ytpejnkngmnabfai
