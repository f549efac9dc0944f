/- The library's Repeat, of a list of one number: so many of it, in new memory. -/
import Derived.Test.YtjcpcjickdcpmacGreatDoorKBr0
import Derived.Test.YtjcpcjickdcpmacGreatDoorKShelfM
import Derived.Test.YtjcpcjickdcpmacGreatDoorKDc1
import Derived.Laws.CopyOwn
import Derived.OwnWalk
import Derived.Deep.RegionLaw
namespace Go.Proofs.YtjcpcjickdcpmacGreatDoor.Bar
open Go.RowKit Doc

/-- A mark at which a walk stands still. -/
def Still (p : Prop) : Prop := p
theorem Still.go {p : Prop} (h : Still p) : p := h
def rep (k n : Nat) (v : Value) : List Value := List.replicate k v ++ List.replicate (n - k) (.int .i64 0)
theorem rep_len {k n : Nat} {v : Value} (h : k ≤ n) : (rep k n v).length = n := by simp [rep]; omega
theorem rep_splice {k m n : Nat} {v : Value} (h : k + m ≤ n) : splice (rep k n v) k (List.replicate m v) = rep (k + m) n v := by
  unfold splice rep
  rw [List.take_append_of_le_length (by simp), List.take_of_length_le (by simp), List.drop_append]
  simp only [List.length_replicate, List.drop_replicate]
  rw [show k - (k + m) = 0 by omega, List.replicate_zero, List.nil_append, show n - k - (k + m - k) = n - (k + m) by omega, ← List.append_assoc, List.replicate_append_replicate]
theorem rep_zero (n : Nat) (v : Value) : rep 0 n v = List.replicate n (.int .i64 0) := by simp [rep]
theorem rep_full (n : Nat) (v : Value) : rep n n v = List.replicate n v := by simp [rep]
theorem rep_cell {w : World} {g k n : Nat} {v : Value} {t : TypeId} (h : w.heap[g]? = some (.cells (rep k n v).toArray t (0, 0))) {j : Nat} (hj : j < k) : w.cell? ⟨g, j, none⟩ = some v := by
  simp only [World.cell?, h]
  show (rep k n v).toArray[j]? = some v
  rw [List.getElem?_toArray, rep, List.getElem?_append_left (by simpa using hj)]
  simp [hj]

theorem mul_one_n (n : Nat) (hn : n ≤ 1000) (w : World) : Calls Tryz.prog 20 #[.int .u64 1, .int .u64 n] w fun e w' => e = .returned (.tuple #[.int .u64 0, .int .u64 n]) ∧ w' = w := by
  refine (Tryz.bits_Mul 1 n (by omega) (by omega) w).mono ?_
  rintro e w' ⟨rfl, rfl⟩
  rw [Nat.one_mul, Nat.div_eq_of_lt (by omega), Nat.mod_eq_of_lt (by omega)]
  exact ⟨rfl, rfl⟩
theorem made_zero (n : Nat) : (madeCells (Value.int .i64 0).cells (n * 1)).toList = List.replicate n (.int .i64 0) := by
  apply List.ext_getElem
  · simp [madeCells]
  · intro i h1 h2
    simp [madeCells, Value.cells, Nat.mod_one]
theorem row_of_own {w : World} {B g n : Nat} {xs : List Value} (h : w.ownsRow B 3 1 (.slice (some ⟨g, 0, none⟩) n n) n xs) : w.heap[g]? = some (.cells xs.toArray 3 (0, 0)) := by
  rcases h.2 with ⟨h1, _⟩ | ⟨g', cap, cur, h1, _, h2, _, _, h3, h4⟩
  · cases h1
  · cases h1
    rw [h2]
    have e : cur = xs.toArray := by
      rw [← h4, List.take_of_length_le (by rw [Array.length_toList, h3]; exact Nat.le_refl _)]
    rw [e]

theorem first_copy (n b0 c0 g : Nat) (x : Int) (w' w1 : World) (hrow : w1.heap[g]? = some (.cells (rep 0 n (.int .i64 x)).toArray 3 (0, 0))) (hsrc : w1.cell? ⟨b0, 0, none⟩ = some (.int .i64 x)) (hsz1 : (Tryz.prog.info? 3).map (·.size) = some 1) (hb1 : Below w'.heap.size w' w1) (hg : w'.heap.size ≤ g) :
    ∃ (k0 : Nat) (w2 : World), (Builtin.copy_ #[37, 37] 3 #[.slice (some ⟨g, 0, none⟩) n n, .slice (some ⟨b0, 0, none⟩) 1 c0]).run Tryz.prog w1 = .ok (.int .i64 k0) w2 ∧ k0 ≤ n ∧ (n = 0 ∨ 1 ≤ k0) ∧ w2.heap[g]? = some (.cells (rep k0 n (.int .i64 x)).toArray 3 (0, 0)) ∧ Below w'.heap.size w' w2 := by
  by_cases h0 : n = 0
  · subst h0
    exact ⟨0, w1, run_copy_none w1 37 37 3 3 _ _ 0 0 1 c0 Tryz.underlying37 hsz1 rfl, Nat.le_refl _, .inl rfl, hrow, hb1⟩
  · have hmin : Nat.min 1 n = 1 := Nat.min_eq_left (by omega)
    have h := run_copy_row (P := Tryz.prog) w1 37 37 3 3 g 0 n n ⟨b0, 0, none⟩ 1 c0 (rep 0 n (.int .i64 x)).toArray 3 [.int .i64 x] Tryz.underlying37 hsz1 hrow hmin.symm (fun j v hj => by
      have hj0 : j = 0 := by
        have := (List.getElem?_eq_some_iff.1 hj).1
        simpa using this
      subst hj0
      cases hj
      rw [add_off]; exact hsrc) (by simp [rep_len]; omega) (fun v hv => by rw [List.mem_singleton.1 hv]; rfl)
    refine ⟨1, _, h, by omega, .inr (Nat.le_refl _), ?_, below_setRow hb1 hg _⟩
    have h2 := setRow_heap w1 g _ (((rep 0 n (.int .i64 x)).toArray.toList.take 0 ++ [Value.int .i64 x] ++ (rep 0 n (.int .i64 x)).toArray.toList.drop (0 + [Value.int .i64 x].length)).toArray) 3 (0, 0) hrow
    rw [h2]
    have h3 := rep_splice (k := 0) (m := 1) (n := n) (v := .int .i64 x) (by omega)
    unfold splice at h3
    simp only [Nat.zero_add, List.replicate_one, List.length_cons, List.length_nil] at h3
    simp only [List.length_cons, List.length_nil, Nat.zero_add, List.append_assoc]
    rw [h3]

set_option maxRecDepth 100000 in
set_option maxHeartbeats 2000000 in
theorem Repeat_one (x : Int) (n b0 c0 : Nat) (hn : n ≤ 1000) (w : World) (h0 : w.cell? ⟨b0, 0, none⟩ = some (.int .i64 x)) :
    Calls Tryz.prog 16 #[.slice (some ⟨b0, 0, none⟩) 1 c0, .int .i64 n] w fun e w' => ∃ g, e = .returned (.slice (some ⟨g, 0, none⟩) n n) ∧ w.heap.size ≤ g ∧ w'.heap[g]? = some (.cells (List.replicate n (Value.int .i64 x)).toArray 3 (0, 0)) ∧ Below w.heap.size w w' := by
  obtain ⟨i0, hi, hz0, hz1, hz2⟩ := info_parts Doc.Tryz.info3
  have hneg : ¬ (n : Int) < 0 := by omega
  have HM := hide' (mul_one_n n hn w)
  go_enter Tryz.func16, Tryz.ntmps16
  go_wp2_with fail
  refine HM.out.mono ?_
  rintro e w' ⟨rfl, rfl⟩
  have hsz1 : (Tryz.prog.info? 3).map (·.size) = some 1 := by rw [hi]; simp [hz1]
  go_wp2_with (at_make; refine wpList_make_full _ rfl _ _ 37 rfl w'.heap.size 3 i0 (.int .i64 0) 1 Tryz.underlying37 hi hz0 hz1 .i64 .i64 _ _ n rfl rfl rfl rfl (by rw [hz2]; omega) (by unfold maxLen; omega) (Nat.le_refl _) ?_; intro w1 hown1 hg1; refine Still.go ?_)
  unfold Still
  have hb1 : Below w'.heap.size w' w1 := (Below.refl _ w').grown hg1 (Nat.le_refl _) (fun k e => by cases e)
  have hrow := row_of_own hown1
  rw [made_zero, ← rep_zero n (.int .i64 x)] at hrow
  have hsrc := (hb1.cell (p := ⟨b0, 0, none⟩) (World.block_lt_of_cell? w' _ h0)).trans h0
  obtain ⟨k0, w2, hcp, hk2, hk3, hg2, hb2⟩ := first_copy n b0 c0 w'.heap.size x w' w1 hrow hsrc hsz1 hb1 (Nat.le_refl _)
  have HB2 := hide' hb2
  have HG2 := hide' hg2
  clear hown1 hg1 hb1 hrow hsrc hb2 hg2
  go_wp2_with fail
  go_loopw [8] (fun kk wr => ∃ (k : Nat), kk = .int .i64 k ∧ k ≤ n ∧ (n = 0 ∨ 1 ≤ k) ∧ Hid (wr.heap[w'.heap.size]? = some (.cells (rep k n (.int .i64 x)).toArray 3 (0, 0))) ∧ Hid (Below w'.heap.size w' wr)) (fun kk _ => n - (intOf kk).toNat)
  case atStart => exact ⟨k0, rfl, hk2, hk3, HG2, HB2⟩
  case round =>
    clear HG2 HB2 hk2 hk3 hcp
    obtain ⟨k, rfl, hk, hk1, HG, HB⟩ := hrel
    by_cases hlt : k < n
    · have hmn : Nat.min k (n - k) ≤ k ∧ Nat.min k (n - k) ≤ n - k ∧ 1 ≤ Nat.min k (n - k) := by
        have : Nat.min k (n - k) = if k ≤ n - k then k else n - k := Nat.min_def
        rw [this]; split <;> omega
      obtain ⟨m, hm⟩ : ∃ m, m = Nat.min k (n - k) := ⟨_, rfl⟩
      have HM2 := hide' hm
      rw [← hm] at hmn
      obtain ⟨m1, m2, m3⟩ := hmn
      clear hm
      go_wp2_with fail
      go_region_law (refine step_copy_splice rfl (.tmp 41) (.tmp 44) 37 37 rfl 3 Tryz.underlying37 hsz1 (some ⟨w'.heap.size, k, none⟩) (some ⟨w'.heap.size, 0, none⟩) (n - k) (n - k) k n (by simp [Act.eval, Act.put]; omega) (by simp [Act.eval, Act.put]) w'.heap.size k (rep k n (.int .i64 x)) 3 HG.out (List.replicate m (.int .i64 x)) (by rw [List.length_replicate, HM2.out]) (fun _ => ⟨rfl, _, rfl, fun j v hj => by rw [add_off, Nat.zero_add]; have hjm := (List.getElem?_eq_some_iff.1 hj).1; rw [List.length_replicate] at hjm; rw [List.getElem?_replicate, if_pos hjm] at hj; cases hj; exact rep_cell HG.out (by omega)⟩) (by rw [rep_len hk]; simp; omega) (fun v hv => by rw [List.eq_of_mem_replicate hv]; rfl) w'.heap.size w' (HB.out.drew) (Nat.le_refl _) ?_; intro w4 hg4 hb4)
      rw [rep_splice (by omega)] at hg4
      have hwr : IntKind.i64.wrap ((k : Int) + m) = (k : Int) + m := Go.IntWalk.i64_in _ (by omega)
      have HB4 := hide' hb4
      clear hb4
      go_wp2
      go_roundw
      case rel => exact ⟨k + m, by omega, by omega, by omega, hg4⟩
      case measure => simp [intOf]; omega
    · have hkn : k = n := by omega
      subst hkn
      go_wp2
      go_ret
      exact ⟨_, rfl, Nat.le_refl _, by rw [← rep_full]; exact HG.out, HB.out⟩
end Go.Proofs.YtjcpcjickdcpmacGreatDoor.Bar

namespace Go.Proofs.YtjcpcjickdcpmacGreatDoor.Bar
open Go.RowKit

/-- How far each bus is (-1: not reached yet), and the buses that are reached. -/
abbrev Reach2 : Type := List Int × List Int
def visit (u : Int) (s : Reach2) (v : Int) : Reach2 := if s.1.getD v.toNat 0 = -1 then (s.1.set v.toNat (s.1.getD u.toNat 0 + 1), s.2 ++ [v]) else s
def roundB (links : List LinkM) (u : Int) (s : Reach2) : Reach2 := (onw links u).foldl (fun s x => visit u s x.2) s
def bfs (links : List LinkM) : Nat → Nat → Reach2 → Reach2
  | 0, _, s => s
  | f + 1, i, s => if i < s.2.length then bfs links f (i + 1) (roundB links (s.2.getD i 0) s) else s
def start (n : Nat) (b : Int) : Reach2 := ((List.replicate n (-1)).set b.toNat 0, [b])
def farL (n : Nat) (links : List LinkM) (b : Int) : List Int := (bfs links (n + 1) 0 (start n b)).1

/-- What holds of it all along. -/
structure Good (n : Nat) (s : Reach2) : Prop where
  len : s.1.length = n
  cnt : s.1.countP (fun x => x != -1) = s.2.length
  mem : ∀ v ∈ s.2, 0 ≤ v ∧ v < n
  low : ∀ x ∈ s.1, -1 ≤ x ∧ x < s.2.length
  pos : 1 ≤ s.2.length
theorem Good.le {n : Nat} {s : Reach2} (h : Good n s) : s.2.length ≤ n := by
  rw [← h.cnt, ← h.len]; exact List.countP_le_length
theorem count_set : ∀ (D : List Int) (j : Nat) (x : Int), x ≠ -1 → D[j]? = some (-1) → (D.set j x).countP (fun x => x != -1) = D.countP (fun x => x != -1) + 1
  | [], j, x, _, h => by simp at h
  | y :: r, 0, x, hx, h => by
    have hy : y = -1 := by simpa using h
    subst hy
    rw [List.set_cons_zero, List.countP_cons_of_pos (by simpa using hx), List.countP_cons_of_neg (by simp)]
  | y :: r, j + 1, x, hx, h => by
    have ih := count_set r j x hx (by simpa using h)
    rw [List.set_cons_succ, List.countP_cons, List.countP_cons, ih]
    omega
theorem getD_in {D : List Int} {j : Nat} (h : j < D.length) : D[j]? = some (D.getD j 0) ∧ D.getD j 0 ∈ D := by
  rw [List.getD_eq_getElem?_getD, List.getElem?_eq_getElem h]
  exact ⟨rfl, List.getElem_mem h⟩
theorem Good.visit {n : Nat} {s : Reach2} (h : Good n s) {u v : Int} (hu : 0 ≤ u ∧ u < n) (hv : 0 ≤ v ∧ v < n) : Good n (visit u s v) := by
  unfold Bar.visit
  split
  · next hc =>
    have hul : u.toNat < s.1.length := by rw [h.len]; omega
    have hvl : v.toNat < s.1.length := by rw [h.len]; omega
    have hun := h.low _ (getD_in hul).2
    have hj := (getD_in hvl).1
    rw [hc] at hj
    refine ⟨by simp [h.len], ?_, ?_, ?_, by simp⟩
    · rw [count_set _ _ _ (by omega) hj, h.cnt]
      simp
    · intro x hx
      rcases List.mem_append.1 hx with hx | hx
      · exact h.mem x hx
      · rw [List.mem_singleton.1 hx]; exact hv
    · intro x hx
      simp only [List.length_append, List.length_cons, List.length_nil]
      rcases List.mem_or_eq_of_mem_set hx with hx | hx
      · have := h.low x hx; omega
      · rw [hx]; omega
  · exact h
/-- The links' ends are buses. -/
def Ends (n : Nat) (links : List LinkM) : Prop := ∀ l ∈ links, 0 ≤ l.p ∧ l.p < n ∧ 0 ≤ l.q ∧ l.q < n
theorem onw_ends {n : Nat} : ∀ {links : List LinkM} {u : Int}, Ends n links → ∀ x ∈ onw links u, 0 ≤ x.2 ∧ x.2 < n
  | [], _, _, x, hx => by cases hx
  | l :: r, u, h, x, hx => by
    have hr := onw_ends (links := r) (u := u) (fun l hl => h l (by simp [hl])) x
    have hl := h l (by simp)
    rw [onw] at hx
    cases hn : nextOf l u with
    | none => rw [hn] at hx; exact hr hx
    | some v =>
      rw [hn] at hx
      rcases List.mem_cons.1 hx with rfl | hx
      · unfold nextOf at hn
        split at hn
        · cases hn; exact ⟨hl.2.2.1, hl.2.2.2⟩
        · split at hn
          · cases hn; exact ⟨hl.1, hl.2.1⟩
          · cases hn
      · exact hr hx
theorem Good.fold {n : Nat} {u : Int} (hu : 0 ≤ u ∧ u < n) : ∀ (xs : List (LinkM × Int)) {s : Reach2}, Good n s → (∀ x ∈ xs, 0 ≤ x.2 ∧ x.2 < n) → Good n (xs.foldl (fun s x => Bar.visit u s x.2) s)
  | [], _, h, _ => h
  | x :: r, _, h, hx => Good.fold hu r (h.visit hu (hx x (by simp))) (fun y hy => hx y (by simp [hy]))
theorem Good.start {n : Nat} {b : Int} (hb : 0 ≤ b ∧ b < n) : Good n (start n b) := by
  have hbl : b.toNat < (List.replicate n (-1 : Int)).length := by simp; omega
  refine ⟨by simp [Bar.start], ?_, ?_, ?_, by simp [Bar.start]⟩
  · unfold Bar.start
    rw [count_set _ _ _ (by decide) (by rw [List.getElem?_replicate, if_pos (by simpa using hbl)])]
    simp [List.countP_replicate]
  · intro v hv
    rw [List.mem_singleton.1 hv]; exact hb
  · intro x hx
    rcases List.mem_or_eq_of_mem_set hx with hx | hx
    · rw [List.eq_of_mem_replicate hx]; simp [Bar.start]
    · rw [hx]; simp [Bar.start]
end Go.Proofs.YtjcpcjickdcpmacGreatDoor.Bar
