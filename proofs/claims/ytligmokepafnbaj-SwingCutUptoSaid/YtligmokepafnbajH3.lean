/- The stages at work, as they lie in memory. -/
import Derived.Test.YtligmokepafnbajH2
import Derived.Test.YtligmokepafnbajG1
namespace Go.Proofs.Ytligmokepafnbaj
open Go.RowKit Go.Shelf

attribute [local go_sem] run_fadd run_fsub run_fmul run_fquo

structure StM where
  lim : Nat
  part : Nat
  gone : Bool

/-- a stage at work: its two floats, the Once (done, the lock, its semaphore), its sign -/
def StM.cells (s : StM) : List Value := [.float .f64 s.lim, .float .f64 s.part, .int .u32 (if s.gone then 1 else 0), .int .i32 0, .int .u32 0, .bool s.gone]
theorem StM.cells_len (s : StM) : s.cells.length = 6 := rfl

/-- the stages lie in block K -/
def SAt (w : World) (K : Nat) (S : List StM) : Prop := w.heap[K]? = some (.cells (S.flatMap StM.cells).toArray 69 (0, 0))

theorem SAt.cell {w : World} {K : Nat} {S : List StM} (h : SAt w K S) {k : Nat} (hk : k < S.length) {j : Nat} {u : Value} (hj : (S[k].cells)[j]? = some u) : w.cell? ⟨K, k * 6 + j, none⟩ = some u := by
  rw [cells_at h, List.getElem?_toArray]
  have hj6 : j < 6 := (List.getElem?_eq_some_iff.1 hj).1
  rw [flat_get StM.cells 6 StM.cells_len S k j hk hj6]
  exact hj
theorem SAt.thaw {w : World} {K : Nat} {S : List StM} (h : SAt w K S) (j : Nat) : w.frozen? ⟨K, j, none⟩ = false := frozen_no h j
theorem SAt.lt {w : World} {K : Nat} {S : List StM} (h : SAt w K S) : K < w.heap.size := (Array.getElem?_eq_some_iff.1 h).1
theorem SAt.below {w w' : World} {K B : Nat} {S : List StM} (h : SAt w K S) (hb : Below B w w') (hB : K < B) : SAt w' K S := by
  unfold SAt
  rw [hb.block K hB]
  exact h

theorem set_in (A m C : List Value) (n j : Nat) (u : Value) (hA : A.length = n) (hj : j < m.length) : (A ++ (m ++ C)).set (n + j) u = A ++ (m.set j u ++ C) := by
  subst hA
  rw [List.set_append_right _ _ (by omega), Nat.add_sub_cancel_left, List.set_append_left _ _ hj]

theorem flat_parts {S : List StM} {k : Nat} (hk : k < S.length) : S.flatMap StM.cells = (S.take k).flatMap StM.cells ++ (S[k].cells ++ (S.drop (k + 1)).flatMap StM.cells) := by
  have h : S = S.take k ++ S[k] :: S.drop (k + 1) := by rw [List.getElem_cons_drop, List.take_append_drop]
  have h2 := congrArg (List.flatMap StM.cells) h
  rw [List.flatMap_append, List.flatMap_cons] at h2
  exact h2
theorem flat_put {S : List StM} {k : Nat} (hk : k < S.length) (s : StM) : (S.set k s).flatMap StM.cells = (S.take k).flatMap StM.cells ++ (s.cells ++ (S.drop (k + 1)).flatMap StM.cells) := by
  rw [List.set_eq_take_append_cons_drop, if_pos hk]
  simp
theorem flat_head {S : List StM} {k : Nat} (hk : k < S.length) : ((S.take k).flatMap StM.cells).length = k * 6 := by
  rw [flat_len StM.cells 6 StM.cells_len, List.length_take, Nat.min_eq_left (Nat.le_of_lt hk)]

def StM.off (s : StM) : StM := ⟨s.lim, s.part, true⟩

theorem set_self {S : List StM} {k : Nat} (hk : k < S.length) (h : S[k].gone = true) : S.set k S[k].off = S := by
  have : S[k].off = S[k] := by
    cases e : S[k] with
    | mk a b c => rw [e] at h; simp only at h; subst h; rfl
  rw [this, List.set_getElem_self]

set_option maxRecDepth 100000 in
set_option maxHeartbeats 1600000 in
/-- A stage sheds: nothing but its sign is another. -/
theorem shed_any (K k : Nat) (S : List StM) (w : World) (h : SAt w K S) (hk : k < S.length) :
    Calls Try.prog 26 #[.pointer (some ⟨K, k * 6, none⟩)] w fun e w' => e = .returned (.tuple #[]) ∧ SAt w' K (S.set k S[k].off) ∧ But K w w' := by
  cases hg : S[k].gone with
  | true =>
    refine (shed_again K (k * 6) w h.lt (h.cell hk (j := 2) (u := .int .u32 1) (by simp [StM.cells, hg]))).mono ?_
    rintro e w' ⟨rfl, rfl⟩
    refine ⟨rfl, ?_, But.of (below_al w _)⟩
    rw [set_self hk hg]
    exact h.below (below_al w _) h.lt
  | false =>
    refine (shed_first K (k * 6) (.bool false) w h.lt (h.cell hk (j := 2) (u := .int .u32 0) (by simp [StM.cells, hg])) (h.cell hk (j := 3) (u := .int .i32 0) (by simp [StM.cells])) (h.cell hk (j := 5) (u := .bool false) (by simp [StM.cells, hg])) (h.thaw _) (h.thaw _) (h.thaw _)).mono ?_
    rintro e w' ⟨rfl, rfl⟩
    refine ⟨rfl, ?_, ?_⟩
    · have h1 := set_any (set_any (set_any (set_any h (k * 6 + 2 + 1) (.int .i32 1)) (k * 6 + 5) (.bool true)) (k * 6 + 2) (.int .u32 1)) (k * 6 + 2 + 1) (.int .i32 0)
      unfold SAt
      rw [World.drew]
      show (World.alloc _ _).heap[K]? = _
      rw [alloc_old _ _ (by simp only [World.size_setCell]; exact h.lt), h1]
      congr 2
      simp only [List.setIfInBounds_toArray]
      congr 1
      rw [flat_parts hk, flat_put hk, Nat.add_assoc (k * 6) 2 1]
      rw [set_in _ _ _ _ _ _ (flat_head hk) (by simp [StM.cells]), set_in _ _ _ _ _ _ (flat_head hk) (by simp [StM.cells]), set_in _ _ _ _ _ _ (flat_head hk) (by simp [StM.cells]), set_in _ _ _ _ _ _ (flat_head hk) (by simp [StM.cells])]
      rfl
    · have h1 : But K w ((((w.setCell ⟨K, k * 6 + 2 + 1, none⟩ (.int .i32 1)).setCell ⟨K, k * 6 + 5, none⟩ (.bool true)).setCell ⟨K, k * 6 + 2, none⟩ (.int .u32 1)).setCell ⟨K, k * 6 + 2 + 1, none⟩ (.int .i32 0)) := ((((But.refl K w).set _ _).set _ _).set _ _).set _ _
      exact h1.trans (But.of (below_drewN (below_al _ _) 1))

/-- SHED: the parts of all that have, one by one. -/
def shedO (S : List StM) : Option Nat := S.foldl (fun a s => if s.gone then fop .add a (nm s.part) else a) (some 0)
def keptO (S : List StM) : Option Nat := fop .sub (some 4607182418800017408) (shedO S)

theorem shed_take {S : List StM} {k : Nat} (hk : k < S.length) : shedO (S.take (k + 1)) = if S[k].gone then fop .add (shedO (S.take k)) (nm S[k].part) else shedO (S.take k) := by
  unfold shedO
  rw [List.take_add_one, List.getElem?_eq_getElem hk, List.foldl_append]
  rfl

set_option maxRecDepth 100000 in
set_option maxHeartbeats 1600000 in
theorem kept_any (K : Nat) (S : List StM) (w : World) (h : SAt w K S) (hn : S.length ≤ 1000) :
    Calls Try.prog 22 #[.slice (some ⟨K, 0, none⟩) S.length S.length] w fun e w' => ∃ r n, e = .returned (.float .f64 r) ∧ nm r = keptO S ∧ w' = w.drewN n := by
  have HS := hide' h
  clear h
  go_enter Try.func22, Try.ntmps22
  go_wp2_with fail
  go_loopw [3, 7] (fun x i wr => ∃ (k r n : Nat), i = .int .i64 k ∧ x = .float .f64 r ∧ k ≤ S.length ∧ Hid (nm r = shedO (S.take k)) ∧ Hid (wr = w.drewN n)) (fun _ i _ => S.length - (intOf i).toNat)
  case atStart => exact ⟨0, _, 0, rfl, rfl, Nat.zero_le _, nm_some (by decide), rfl⟩
  case round =>
    obtain ⟨k, r, n, rfl, rfl, hk, HR, HW⟩ := hrel
    by_cases hlt : k < S.length
    · have c1 : wr.cell? ⟨K, k * 6 + 1, none⟩ = some (.float .f64 S[k].part) := by rw [HW.out]; exact HS.out.cell hlt (j := 1) rfl
      have c5 : wr.cell? ⟨K, k * 6 + 5, none⟩ = some (.bool S[k].gone) := by rw [HW.out]; exact HS.out.cell hlt (j := 5) rfl
      have HT := hide' (shed_take hlt)
      have HWD : Hid (∀ m, wr.drewN m = w.drewN (n + m)) := fun m => by rw [HW.out, World.drewN_drewN]
      obtain ⟨p, hp⟩ : ∃ p, p = S[k].part := ⟨_, rfl⟩
      rw [← hp] at c1 HT
      cases hg : S[k].gone
      · rw [hg] at c5 HT
        clear hp
        go_wp2
        go_roundw
        case rel => exact ⟨k + 1, _, n, by go_num, rfl, by omega, by show _ = _; rw [HT.out]; exact HR.out, HW.out⟩
        case measure => simp [intOf]; omega
      · rw [hg] at c5 HT
        clear hp
        go_wp2
        go_roundw
        case rel => exact ⟨k + 1, _, _, by go_num, rfl, by omega, by show _ = _; rw [HT.out, nm_fres, HR.out]; rfl, HWD.out _⟩
        case measure => simp [intOf]; omega
    · have HE : Hid (nm r = shedO S) := by
        have hk3 : k = S.length := by omega
        show _ = _
        rw [HR.out, hk3, List.take_length]
      have HWD : Hid (∀ m, wr.drewN m = w.drewN (n + m)) := fun m => by rw [HW.out, World.drewN_drewN]
      clear HR HW
      go_wp2
      go_ret
      refine ⟨_, _, rfl, ?_, HWD.out _⟩
      rw [nm_fres, HE.out]
      rfl
end Go.Proofs.Ytligmokepafnbaj
