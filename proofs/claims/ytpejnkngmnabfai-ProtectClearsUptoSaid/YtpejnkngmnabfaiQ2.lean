/- Rows of signs: copied, compared; breakers that stand between parts. -/
import Derived.Test.YtpejnkngmnabfaiQ1
import Derived.Test.YtpejnkngmnabfaiP1
namespace Go.Proofs.Ytpejnkngmnabfai
open Go.RowKit Go.Shelf

set_option maxRecDepth 100000 in
set_option maxHeartbeats 2000000 in
theorem CloneB_any (l : List Bool) (n : Nat) (v : Value) (w : World) (hx : RowAt w v n 1 (l.map Value.bool)) (hl : n ≤ 1000) :
    Calls Try.prog 29 #[v] w fun e w' => ∃ a c, e = .returned (.slice a n c) ∧ w'.ownsRow w.heap.size 4 1 (.slice a n c) n (l.map Value.bool) ∧ Below w.heap.size w w' := by
  obtain ⟨i0, hi0, hzz0, hzz1, hzz2⟩ := info_parts Try.info4
  have q30 : ∀ (w : World) (a : Option Addr) (n c n' c' : Nat), (binOp .eql 30 (.slice a n c) (.slice none n' c')).run Try.prog w = .ok (.bool a.isNone) w := fun w a n c n' c' => Lib.run_eql_slice_nil w _ _ a n c n' c' Try.underlying30
  obtain ⟨a, c, rfl⟩ := rowAt_slice hx
  cases a with
  | none =>
    obtain ⟨h1, a', c', ex, h2⟩ := hx
    cases ex
    have h0 : n = 0 := by
      rcases Nat.eq_zero_or_pos n with h | h
      · exact h
      · obtain ⟨b, off, e, _⟩ := h2 0 _ (List.getElem?_eq_getElem (by omega))
        cases e
    subst h0
    have hl0 : l.map Value.bool = [] := List.length_eq_zero_iff.1 (by simpa using h1)
    rw [hl0]
    clear h1 h2 hl0
    go_enter Try.func29, Try.ntmps29
    go_wp2
    go_ret
    exact ⟨none, 0, rfl, World.ownsRow_nil _ _ _ _, Below.refl _ _⟩
  | some ad =>
    have HA : Hid (∀ o, RowAt (w.alloc o) (.slice (some ad) n c) n 1 (l.map Value.bool)) := fun o => hx.below (below_al w o) (Nat.le_refl _)
    clear hx
    go_enter Try.func29, Try.ntmps29
    go_wp2_with (at_builtin; refine wpList_append_any _ rfl _ _ 30 rfl w.heap.size 4 i0 _ 1 1 Try.underlying30 hi0 hzz0 hzz1 hzz2 rfl (by decide) _ _ _ rfl (World.ownsRow_made w #[] 0 (Nat.le_refl _) (Nat.zero_le _) (by simp)) _ _ _ rfl (HA.out _) (bools_one l) (by unfold maxLen; omega) (by omega) (by simp) ?_; intro v' w1 hown hgrow; refine Still.go ?_)
    unfold Still
    have HOW := hide' hown
    have hg : (w.alloc (.cells #[] 4)).grownBy w1 (some w.heap.size) := hgrow
    have HB : Hid (Below w.heap.size w w1) := ((Below.refl _ w).alloc (Nat.le_refl _) _).grown hg (by simp) (fun k e => by cases e; exact Nat.le_refl _)
    clear hown hgrow hg
    go_wp2
    go_ret
    have h1 : w1.ownsRow w.heap.size 4 1 v' n (l.map Value.bool) := by have := HOW.out; simpa using this
    obtain ⟨a, c, rfl⟩ := own_slice h1
    exact ⟨a, c, rfl, h1, HB.out⟩

theorem bool_cell2 {w : World} {v : Value} {l : List Bool} {n : Nat} (h : RowAt w v n 1 (l.map Value.bool)) (k : Nat) (hk : k < n) : ∃ b off c, v = .slice (some ⟨b, off, none⟩) n c ∧ w.cell? ⟨b, off + k, none⟩ = some (.bool (l.getD k false)) := by
  obtain ⟨hl, a, c, rfl, h2⟩ := h
  have hk' : k < l.length := by simpa using (show k < (l.map Value.bool).length by rw [hl]; omega)
  obtain ⟨b, off, rfl, h3⟩ := h2 k (.bool (l.getD k false)) (by rw [List.getElem?_map, List.getElem?_eq_getElem hk', List.getD_eq_getElem?_getD, List.getElem?_eq_getElem hk']; rfl)
  exact ⟨b, off, c, rfl, h3⟩
theorem bools_ext {l l' : List Bool} {n : Nat} (h1 : l.length = n) (h2 : l'.length = n) (h : ∀ k, k < n → l.getD k false = l'.getD k false) : l = l' := by
  refine List.ext_getElem (by omega) fun k a b => ?_
  have := h k (by omega)
  rw [List.getD_eq_getElem?_getD, List.getD_eq_getElem?_getD, List.getElem?_eq_getElem a, List.getElem?_eq_getElem b] at this
  exact this
set_option maxRecDepth 100000 in
set_option maxHeartbeats 2000000 in
theorem EqualB_any (l l' : List Bool) (n : Nat) (u v : Value) (w : World) (hu : RowAt w u n 1 (l.map Value.bool)) (hv : RowAt w v n 1 (l'.map Value.bool)) (hn : n ≤ 1000) :
    Calls Try.prog 30 #[u, v] w fun e w' => e = .returned (.bool (decide (l = l'))) ∧ Below w.heap.size w w' := by
  have HU := hide' hu
  have HV := hide' hv
  have HL : Hid (l.length = n ∧ l'.length = n) := ⟨by have h := hu.1; simpa using h, by have h := hv.1; simpa using h⟩
  obtain ⟨au, cu, rfl⟩ := rowAt_slice hu
  obtain ⟨av, cv, rfl⟩ := rowAt_slice hv
  clear hu hv
  obtain ⟨r, hr⟩ : ∃ r, r = decide (l = l') := ⟨_, rfl⟩
  have HR := hide' hr
  rw [← hr]
  clear hr
  go_enter Try.func30, Try.ntmps30
  go_wp2_with fail
  go_loopw [13] (fun i wr => ∃ (k : Nat), i = .int .i64 k ∧ k ≤ n ∧ Hid (∀ j, j < k → l.getD j false = l'.getD j false) ∧ Hid (Below w.heap.size w wr)) (fun i _ => n - (intOf i).toNat)
  case atStart => exact ⟨0, rfl, Nat.zero_le _, fun j h => absurd h (Nat.not_lt_zero j), Below.refl _ w⟩
  case round =>
    obtain ⟨k, rfl, hk, HOK, HBE⟩ := hrel
    by_cases hlt : k < n
    · obtain ⟨b1, o1, c1, ex1, hc1⟩ := bool_cell2 HU.out k hlt
      cases ex1
      obtain ⟨b2, o2, c2, ex2, hc2⟩ := bool_cell2 HV.out k hlt
      cases ex2
      have e1 := up_cell HBE.out hc1
      have e2 := up_cell HBE.out hc2
      have HBD : Hid (∀ m, Below w.heap.size w (wr.drewN m)) := fun m => below_drewN HBE.out m
      obtain ⟨x, hx⟩ : ∃ x, x = l.getD k false := ⟨_, rfl⟩
      obtain ⟨y, hy⟩ : ∃ y, y = l'.getD k false := ⟨_, rfl⟩
      rw [← hx] at e1
      rw [← hy] at e2
      have HXY : Hid (x = y → ∀ j, j < k + 1 → l.getD j false = l'.getD j false) := fun h j hj => by
        by_cases e : j = k
        · subst e; rw [← hx, ← hy]; exact h
        · exact HOK.out j (by omega)
      have HNO : Hid (x ≠ y → r = false) := fun h => by
        rw [HR.out]
        simp only [decide_eq_false_iff_not]
        intro e; rw [hx, hy, e] at h; exact h rfl
      clear hc1 hc2 hx hy HBE HOK
      cases x <;> cases y
      · have HX := hide' (HXY.out rfl)
        go_wp2_with fail
        go_quiet (fail)
        go_wp2
        go_roundw
        case rel => exact ⟨k + 1, by go_num, by omega, HX, HBD.out _⟩
        case measure => simp [intOf]; omega
      · have HX := hide' (HNO.out (by decide))
        go_wp2_with fail
        go_quiet (fail)
        go_wp2
        go_ret
        exact ⟨by rw [HX.out]; rfl, HBD.out _⟩
      · have HX := hide' (HNO.out (by decide))
        go_wp2_with fail
        go_quiet (fail)
        go_wp2
        go_ret
        exact ⟨by rw [HX.out]; rfl, HBD.out _⟩
      · have HX := hide' (HXY.out rfl)
        go_wp2_with fail
        go_quiet (fail)
        go_wp2
        go_roundw
        case rel => exact ⟨k + 1, by go_num, by omega, HX, HBD.out _⟩
        case measure => simp [intOf]; omega
    · have HY : Hid (r = true) := by
        show _ = _
        rw [HR.out, decide_eq_true_iff]
        exact bools_ext HL.out.1 HL.out.2 (fun j hj => HOK.out j (by omega))
      go_wp2
      go_ret
      exact ⟨by rw [HY.out]; rfl, HBE.out⟩
def cellsZ (c : Int × Int) : List Value := [.int .i64 c.1, .int .i64 c.2]
def inP (n : Nat) (x : Int) : Bool := decide (0 ≤ x) && decide (x ≤ (n : Int) - 1)
def cutB (n : Nat) (c : Int × Int) : Bool := inP n c.1 && (inP n c.2 && !(c.1 == c.2))
def placedB (n : Nat) (cz : List (Int × Int)) : Bool := cz.all (cutB n)
set_option maxRecDepth 100000 in
set_option maxHeartbeats 2000000 in
theorem arePlaced_any (cz : List (Int × Int)) (n : Nat) (hn : 1 ≤ n ∧ n ≤ 1000) (hl : cz.length ≤ 1000) (v : Value) (w : World) (hr : RowAt w v cz.length 2 (cz.flatMap cellsZ)) :
    Calls Try.prog 23 #[v, .int .i64 n] w fun e w' => e = .returned (.bool (placedB n cz)) ∧ Below w.heap.size w w' := by
  have HG := hide' hr
  obtain ⟨a, cap, rfl⟩ := rowAt_slice hr
  clear hr
  have HUP : Hid (∀ (x : Int) (w' : World), Calls Try.prog 19 #[.int .i64 ((n : Int) - 1), .int .i64 x] w' fun e w2 => e = .returned (.bool (inP n x)) ∧ w2 = w') := fun x w' => isUpTo_any _ x w'
  have hwn : IntKind.i64.wrap ((n : Int) - 1) = (n : Int) - 1 := Go.IntWalk.i64_in _ (by omega)
  go_enter Try.func23, Try.ntmps23
  go_wp2_with fail
  go_loopw [9] (fun i wr => ∃ (k : Nat), i = .int .i64 k ∧ k ≤ cz.length ∧ Hid (∀ j c, cz[j]? = some c → j < k → cutB n c = true) ∧ Hid (Below w.heap.size w wr)) (fun i _ => cz.length - (intOf i).toNat)
  case atStart => exact ⟨0, rfl, Nat.zero_le _, fun j _ _ h => absurd h (Nat.not_lt_zero j), Below.refl _ w⟩
  case round =>
    obtain ⟨k, rfl, hk, HOK, HBE⟩ := hrel
    by_cases hlt : k < cz.length
    · obtain ⟨bt, ot, ct', ex, hbt, hct⟩ := row_elem (f := cellsZ) (xs := cz) (fun _ => rfl) HG.out k hlt (by decide)
      cases ex
      have HK : Hid (cz[k]? = some cz[k]) := List.getElem?_eq_getElem hlt
      have HBAD : Hid (cutB n cz[k] = false → placedB n cz = false) := fun h => by
        unfold placedB
        rw [List.all_eq_false]
        exact ⟨cz[k], List.getElem_mem hlt, by rw [h]; decide⟩
      have HNEXT : Hid (cutB n cz[k] = true → ∀ j c, cz[j]? = some c → j < k + 1 → cutB n c = true) := fun h j c hj hjk => by
        by_cases e : j = k
        · subst e; rw [HK.out] at hj; cases hj; exact h
        · exact HOK.out j c hj (by omega)
      obtain ⟨u, hu⟩ : ∃ u, u = cz[k] := ⟨_, rfl⟩
      rw [← hu] at hct HBAD HNEXT
      have d0 := up_cell HBE.out (hct 0 _ rfl)
      have d1 := up_cell HBE.out (hct 1 _ rfl)
      rw [Nat.add_zero] at d0
      have HAL : Hid (∀ o, Below w.heap.size w (wr.alloc o)) := fun o => HBE.out.alloc HBE.out.size o
      obtain ⟨x, y⟩ := u
      dsimp only at d0 d1
      have HCB : Hid (cutB n (x, y) = (inP n x && (inP n y && !(x == y)))) := rfl
      rw [HCB.out] at HBAD HNEXT
      have HUX := hide' (HUP.out x (wr.alloc (.cells #[.int .i64 x, .int .i64 y] 42)))
      have HUY := hide' (HUP.out y (wr.alloc (.cells #[.int .i64 x, .int .i64 y] 42)))
      obtain ⟨p, hp⟩ : ∃ p, p = inP n x := ⟨_, rfl⟩
      obtain ⟨q, hq⟩ : ∃ q, q = inP n y := ⟨_, rfl⟩
      rw [← hp] at HUX HBAD HNEXT
      rw [← hq] at HUY HBAD HNEXT
      clear hct hu hbt HOK HK HBE HCB hp hq
      go_wp2_with fail
      refine HUX.out.mono ?_
      rintro e w1 ⟨rfl, hw1⟩
      obtain rfl := hw1.symm
      cases p with
      | false =>
        have HNO := hide' (HBAD.out rfl)
        go_wp2
        go_ret
        exact ⟨by rw [HNO.out]; rfl, HAL.out _⟩
      | true =>
        go_wp2_with fail
        refine HUY.out.mono ?_
        rintro e w1 ⟨rfl, hw1⟩
        obtain rfl := hw1.symm
        cases q with
        | false =>
          have HNO := hide' (HBAD.out rfl)
          go_wp2
          go_ret
          exact ⟨by rw [HNO.out]; rfl, HAL.out _⟩
        | true =>
          by_cases hxy : x = y
          · subst hxy
            have HNO := hide' (HBAD.out (by simp))
            go_wp2
            go_ret
            exact ⟨by rw [HNO.out]; rfl, HAL.out _⟩
          · have hb : (x == y) = false := by simp [hxy]
            have HY := hide' (HNEXT.out (by rw [hb]; rfl))
            clear HNEXT HBAD
            go_wp2
            go_roundw
            case rel => exact ⟨k + 1, by go_num, by omega, HY, HAL.out _⟩
            case measure => simp [intOf]; omega
    · have HALL : Hid (placedB n cz = true) := by
        show _ = _
        unfold placedB
        rw [List.all_eq_true]
        intro c hc
        obtain ⟨j, hj, rfl⟩ := List.mem_iff_getElem.1 hc
        exact HOK.out j _ (List.getElem?_eq_getElem hj) (by omega)
      go_wp2
      go_ret
      exact ⟨by rw [HALL.out]; rfl, HBE.out⟩
end Go.Proofs.Ytpejnkngmnabfai
