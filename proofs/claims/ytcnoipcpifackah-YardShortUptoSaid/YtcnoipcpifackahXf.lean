/- The moves that led to a place. -/
import Derived.Test.YtcnoipcpifackahXe
namespace Go.Proofs.Ytcnoipcpifackah
open Go.RowKit Go.Shelf

theorem info3W : (Try.prog.info? 3).map (fun i => (i.zero, i.size, i.bytes)) = some (some (.int .i64 0), 1, 8) := by kernel_rfl
set_option maxRecDepth 100000 in
set_option maxHeartbeats 4000000 in
theorem reverse_nil (w : World) (PQ : Ending → World → Prop) (hPQ : PQ (.returned (.tuple #[])) w) : Calls Try.prog 56 #[.slice none 0 0] w PQ := by
  go_enter Try.func56, Try.ntmps56
  go_wp2_with fail
  go_loopw [2, 3] (fun iv jv wr => iv = .int .i64 0 ∧ jv = .int .i64 (-1) ∧ wr = w) (fun _ _ _ => 0)
  case atStart => exact ⟨rfl, rfl, rfl⟩
  case round =>
    obtain ⟨rfl, rfl, rfl⟩ := hrel
    go_wp2_with fail
    refine bodyPost_end (results_none rfl _ _ _) rfl ?_
    exact hPQ
def natI (l : List Nat) : List Int := l.map fun d : Nat => (d : Int)
theorem natI_rev (l : List Nat) : (natI l).reverse = natI l.reverse := by unfold natI; rw [List.map_reverse]
theorem natI_len (l : List Nat) : (natI l).length = l.length := by unfold natI; rw [List.length_map]
theorem natI_snoc (l : List Nat) (x : Nat) : ints (natI (l ++ [x])) = ints (natI l) ++ [.int .i64 (x : Int)] := by unfold natI ints; simp
set_option maxRecDepth 100000 in
set_option maxHeartbeats 4000000 in
theorem way_any (n a0 b off c : Nat) (bys frs : Nat → Nat) (path : Nat → List Nat) (w : World) (hc : ∀ j, j < n → w.cell? ⟨b, off + j * 11 + 9, none⟩ = some (.int .i64 (bys j : Int)) ∧ w.cell? ⟨b, off + j * 11 + 10, none⟩ = some (.int .i64 (frs j : Int))) (hp0 : path 0 = []) (hp : ∀ j, 0 < j → j < n → frs j < j ∧ path j = path (frs j) ++ [bys j]) (ha : a0 < n) (hn : n ≤ 2000) : Calls Try.prog 41 #[.slice (some ⟨b, off, none⟩) n c, .int .i64 (a0 : Int)] w fun e w' => ∃ v, e = .returned v ∧ w'.ownsRow w.heap.size 3 1 v (path a0).length (ints (natI (path a0))) ∧ Below w.heap.size w w' := by
  obtain ⟨i3, hi3, h30, h31, h32⟩ := info_parts info3W
  have HC := hide' hc
  have HP := hide' hp
  have HP0 := hide' hp0
  clear hc hp hp0
  go_enter Try.func41, Try.ntmps41
  go_wp2_with fail
  go_loopw [1, 5] (fun av mv wr => ∃ (k : Nat) (o : List Nat), av = .int .i64 k ∧ k ≤ a0 ∧ Hid (path a0 = path k ++ o.reverse ∧ o.length + k ≤ a0) ∧ Hid (wr.ownsRow w.heap.size 3 1 mv o.length (ints (natI o)) ∧ Below w.heap.size w wr)) (fun av _ _ => (intOf av).toNat)
  case atStart => exact ⟨a0, [], rfl, Nat.le_refl _, ⟨by simp, by simp⟩, World.ownsRow_nil _ _ _ _, Below.refl _ w⟩
  case round =>
    obtain ⟨k, o, rfl, hk, HI, HW⟩ := hrel
    by_cases h0 : 0 < k
    · obtain ⟨m1, m2⟩ := HC.out k (by omega)
      have e1 := up_cell HW.out.2 m1
      have e2 := up_cell HW.out.2 m2
      obtain ⟨hf, hpk⟩ := HP.out k h0 (by omega)
      have HNI : Hid (path a0 = path (frs k) ++ (o ++ [bys k]).reverse ∧ (o ++ [bys k]).length + frs k ≤ a0) := by
        refine ⟨?_, ?_⟩
        · rw [HI.out.1, hpk, List.reverse_append, List.append_assoc]
          rfl
        · have := HI.out.2
          rw [List.length_append]
          show o.length + 1 + frs k ≤ a0
          omega
      have HL : Hid (o.length ≤ 2000) := by have := HI.out.2; show _ ≤ _; omega
      obtain ⟨x, hx⟩ : ∃ x, x = bys k := ⟨_, rfl⟩
      obtain ⟨y, hy⟩ : ∃ y, y = frs k := ⟨_, rfl⟩
      rw [← hx, ← hy] at HNI
      rw [← hx] at e1
      rw [← hy] at e2 hf m2
      clear m1 hpk hx hy HI
      go_wp2_with (at_builtin; refine wpList_append_own _ rfl _ _ 22 rfl w.heap.size 3 i3 (.int .i64 0) 1 8 Try.underlying22 hi3 h30 h31 h32 rfl (by decide) _ _ _ rfl (own_below HW.out.1 (below_al _ _) (Nat.le_refl _)) ⟨wr.heap.size, 0, none⟩ 1 1 [.int .i64 (x : Int)] rfl rfl (cell_one_new _ _ _) (one_cell rfl) (by have := HL.out; unfold maxLen; omega) (by have := HL.out; omega) (Nat.le_trans HW.out.2.size (below_al _ _).size) ?_; intro v' w8 hown' hgrow _; refine Still.go ?_)
      unfold Still
      have HNW : Hid (w8.ownsRow w.heap.size 3 1 v' (o ++ [x]).length (ints (natI (o ++ [x]))) ∧ Below w.heap.size w w8) := ⟨by rw [natI_snoc, List.length_append]; exact hown', (HW.out.2.trans ((below_al _ _).mono HW.out.2.size)).grown hgrow (Nat.le_trans HW.out.2.size (below_al _ _).size) (own_at HW.out.1)⟩
      have e3 : w8.cell? ⟨b, off + k * 11 + 10, none⟩ = some (.int .i64 (y : Int)) := up_cell HNW.out.2 m2
      clear hown' hgrow HW HL e1 e2 m2
      go_wp2_with fail
      go_roundw
      case rel => exact ⟨y, o ++ [x], rfl, by omega, HNI.out, HNW.out⟩
      case measure => simp only [intOf]; omega
    · obtain rfl : k = 0 := by omega
      have HOP : Hid (o.reverse = path a0) := by show _ = _; rw [HI.out.1, HP0.out]; rfl
      have HOL : Hid (o.length ≤ 2000) := by have := HI.out.2; show _ ≤ _; omega
      clear HI
      rcases HW.out.1.2 with ⟨hnil, hlen⟩ | ⟨g, cp, cur, hsl, _⟩
      · subst hnil
        have hl0 : o.length = 0 := by first | exact hlen | omega | exact hlen.1
        have hoe : o = [] := List.eq_nil_of_length_eq_zero hl0
        subst hoe
        have HPE : Hid (path a0 = []) := HOP.out.symm
        have HBW := hide' HW.out.2
        have HRN := hide' (fun PQ => reverse_nil wr PQ)
        clear HW HOP hlen hl0
        go_wp2_with fail
        refine HRN.out _ ?_
        go_wp2
        go_ret
        exact ⟨_, rfl, by rw [HPE.out]; exact World.ownsRow_nil _ _ _ _, HBW.out⟩
      · subst hsl
        have HRV := hide' (fun PQ => reverse_any (natI o) w.heap.size g cp wr (by rw [natI_len]; exact HW.out.1) (by rw [natI_len]; have := HOL.out; omega) PQ)
        rw [natI_len, natI_rev, HOP.out] at HRV
        have HOE : Hid (o.length = (path a0).length) := by show _ = _; rw [← HOP.out, List.length_reverse]
        have HBW := hide' HW.out.2
        clear HW HOP
        go_wp2_with fail
        refine HRV.out _ ?_
        intro w9 h1 h2
        have H9 : Hid (w9.ownsRow w.heap.size 3 1 (.slice (some ⟨g, 0, none⟩) o.length cp) (path a0).length (ints (natI (path a0))) ∧ Below w.heap.size w w9) := ⟨by rw [← HOE.out]; exact h1, HBW.out.trans h2⟩
        clear h1 h2 HRV HBW HOE
        go_wp2
        go_ret
        exact ⟨_, rfl, H9.out⟩
end Go.Proofs.Ytcnoipcpifackah
