/- The least of a row, in the program and in the document. -/
import Derived.Test.YtligmokepafnbajG0
import Derived.Test.YtligmokepafnbajYv
import Derived.Laws.Externs
namespace Go.Proofs.Ytligmokepafnbaj
open Go.RowKit Go.Shelf

/-- a row of floats -/
def fls (l : List Nat) : List Value := l.map (Value.float .f64)
theorem fls_len (l : List Nat) : (fls l).length = l.length := List.length_map _
theorem fls_one (l : List Nat) : ∀ u ∈ fls l, u.oneCell' = true := fun u hu => by
  obtain ⟨x, _, rfl⟩ := List.mem_map.1 hu
  rfl
theorem fl_cell {w : World} {v : Value} {l : List Nat} {n : Nat} (h : RowAt w v n 1 (fls l)) (k : Nat) (hk : k < l.length) : ∃ b off c, v = .slice (some ⟨b, off, none⟩) n c ∧ w.cell? ⟨b, off + k, none⟩ = some (.float .f64 (l.getD k 0)) := by
  obtain ⟨_, a, c, rfl, h2⟩ := h
  obtain ⟨b, off, rfl, h3⟩ := h2 k (.float .f64 (l.getD k 0)) (by rw [fls, List.getElem?_map, List.getElem?_eq_getElem hk, List.getD_eq_getElem?_getD, List.getElem?_eq_getElem hk]; rfl)
  exact ⟨b, off, c, rfl, h3⟩

theorem Try.info22 : (Try.prog.info? 22).map (fun i => (i.zero, i.size, i.bytes)) = some (some (.float .f64 0), 1, 8) := by kernel_rfl

attribute [local go_sem] run_fadd run_fsub run_fmul run_fquo

set_option maxRecDepth 100000 in
set_option maxHeartbeats 2000000 in
theorem floats_any (l : List Nat) (v : Value) (w : World) (hr : RowAt w v l.length 1 (fls l)) (hn : l.length ≤ 2000000) :
    Calls Try.prog 9 #[v] w fun e w' => ∃ v', e = .returned v' ∧ w'.ownsRow w.heap.size 22 1 v' l.length (fls l) ∧ Below w.heap.size w w' := by
  obtain ⟨i3, hi3, h30, h31, h32⟩ := info_parts Try.info22
  have HR1 := hide' hr
  obtain ⟨a, cap, rfl⟩ := rowAt_slice hr
  clear hr
  go_enter Try.func9, Try.ntmps9
  go_wp2_with (at_builtin; refine wpList_append_any _ rfl _ _ 26 rfl w.heap.size 22 i3 _ 1 8 Try.underlying26 hi3 h30 h31 h32 rfl (by decide) _ _ _ rfl (World.ownsRow_nil _ _ _ _) _ _ _ rfl HR1.out (fls_one l) (by unfold maxLen; omega) (by omega) (Nat.le_refl _) ?_; intro v1 x1 hown1 hgrow1; refine Still.go ?_)
  unfold Still
  have HO : Hid (x1.ownsRow w.heap.size 22 1 v1 l.length (fls l)) := by
    have h1 := hown1
    rw [Nat.zero_add, List.nil_append] at h1
    exact h1
  have HB : Hid (Below w.heap.size w x1) := (Below.refl _ w).grown hgrow1 (Nat.le_refl _) (fun k e => by cases e)
  obtain ⟨a1, c1, hv1⟩ := own_slice HO.out
  subst hv1
  clear hown1 hgrow1
  go_wp2
  go_ret
  exact ⟨_, rfl, HO.out, HB.out⟩

theorem frombits (b : Int) (w : World) : (callFunc 27 #[.int .u64 b]).run Try.prog w = .ok (.value (.float .f64 b.toNat)) w := by
  rw [run_callFunc_extern Try.func27 (by kernel_rfl) (by kernel_rfl) (by kernel_rfl) (e := Extern.MathFloatBits.float64frombits) (by kernel_rfl)]
  rfl

set_option maxRecDepth 100000 in
set_option maxHeartbeats 2000000 in
theorem Inf_any (w : World) : Calls Try.prog 25 #[.int .i64 1] w fun e w' => e = .returned (.float .f64 9218868437227405312) ∧ w' = w := by
  have hb := frombits 9218868437227405312
  go_enter Try.func25, Try.ntmps25
  go_wp2
  go_ret
  exact ⟨rfl, rfl⟩

/-- what 'min' gives, and how often it asks the tape -/
def mres (w : World) (x y : Nat) : Nat :=
  match minO (nm x) (nm y) with
  | some r => r
  | none => (Question.nanMinMax .f64 false x y).cut (w.tape w.drawn (.nanMinMax .f64 false x y))
def mdr (x y : Nat) : Nat := if (minO (nm x) (nm y)).isSome then 0 else 1

theorem order_num {x y : Nat} (hx : nanB x = false) (hy : nanB y = false) : ∃ o, FloatKind.f64.format.order x y = some o := by
  unfold nanB at hx hy
  show ∃ o, (Ieee.double.read x).order (Ieee.double.read y) = some o
  cases h1 : Ieee.double.read x <;> cases h2 : Ieee.double.read y <;> rw [h1] at hx <;> rw [h2] at hy <;> first | (cases hx; done) | (cases hy; done) | exact ⟨_, rfl⟩

theorem min_ask {x y : Nat} (h : FloatKind.f64.format.order x y = none) : minO (nm x) (nm y) = none := by
  cases hx : nanB x
  · cases hy : nanB y
    · obtain ⟨o, ho⟩ := order_num hx hy
      rw [ho] at h; cases h
    · rw [nm_none hy]; cases nm x <;> rfl
  · rw [nm_none hx]; rfl

theorem order_nm {x y : Nat} {o : Ordering} (h : FloatKind.f64.format.order x y = some o) : nm x = some x ∧ nm y = some y := by
  cases hx : nanB x
  · cases hy : nanB y
    · exact ⟨nm_some hx, nm_some hy⟩
    · rw [order_right hy] at h; cases h
  · rw [order_left hx] at h; cases h

theorem run_min (ts : Array TypeId) (t : TypeId) (x y : Nat) (w : World) : (Builtin.min_ ts t #[.float .f64 x, .float .f64 y]).run Try.prog w = .ok (.float .f64 (mres w x y)) (w.drewN (mdr x y)) := by
  unfold Builtin.min_
  simp only [List.foldlM_cons, List.foldlM_nil, bind_pure]
  unfold Builtin.min2
  simp only
  unfold mres mdr
  cases e : FloatKind.f64.format.order x y with
  | none =>
    have hq : (Question.nanMinMax .f64 false x y).forced = false := rfl
    rw [min_ask e]
    simp [hq]
    rfl
  | some o =>
    obtain ⟨h1, h2⟩ := order_nm e
    rw [h1, h2]
    cases o with
    | lt => simp only [minO, e]; rfl
    | gt => simp only [minO, e]; rfl
    | eq =>
      simp only [minO, e]
      by_cases hn : (FloatKind.f64.decode x).neg = true
      · rw [if_pos hn, if_pos hn]; rfl
      · rw [if_neg hn, if_neg hn]; rfl

theorem nm_mres (w : World) (x y : Nat) : nm (mres w x y) = minO (nm x) (nm y) := by
  unfold mres
  cases e : FloatKind.f64.format.order x y with
  | none => rw [min_ask e]; exact nm_none (nan_cut _ x y)
  | some o =>
    obtain ⟨h1, h2⟩ := order_nm e
    rw [h1, h2]
    cases o with
    | lt => simp only [minO, e]; exact h1
    | gt => simp only [minO, e]; exact h2
    | eq =>
      simp only [minO, e]
      by_cases hn : (FloatKind.f64.decode x).neg = true
      · rw [if_pos hn]; exact h1
      · rw [if_neg hn]; exact h2

theorem fold_take (f : Option Nat → Option Nat → Option Nat) (a : Option Nat) (l : List Nat) (k : Nat) (hk : k < l.length) : ((l.take (k + 1)).map nm).foldl f a = f (((l.take k).map nm).foldl f a) (nm (l.getD k 0)) := by
  rw [List.take_add_one, List.map_append, List.foldl_append, List.getElem?_eq_getElem hk, List.getD_eq_getElem?_getD, List.getElem?_eq_getElem hk]
  rfl

set_option maxRecDepth 100000 in
set_option maxHeartbeats 2000000 in
theorem Least_any (l : List Nat) (v : Value) (w : World) (hr : RowAt w v l.length 1 (fls l)) (hn : l.length ≤ 2000000) :
    Calls Try.prog 14 #[v] w fun e w' => ∃ r, e = .returned (.float .f64 r) ∧ nm r = leastO (l.map nm) ∧ Below w.heap.size w w' := by
  have HR := hide' hr
  have HIF := hide' (Inf_any w)
  have hmn := run_min
  obtain ⟨a, cap, rfl⟩ := rowAt_slice hr
  clear hr
  go_enter Try.func14, Try.ntmps14
  go_wp2_with (go_at_call 25; refine HIF.out.mono ?_; rintro e w' ⟨rfl, rfl⟩)
  go_loopw [3, 9] (fun x i wr => ∃ (k r : Nat), i = .int .i64 k ∧ x = .float .f64 r ∧ k ≤ l.length ∧ Hid (nm r = leastO ((l.take k).map nm)) ∧ Hid (Below w'.heap.size w' wr)) (fun _ i _ => l.length - (intOf i).toNat)
  case atStart => exact ⟨0, _, rfl, rfl, Nat.zero_le _, nm_some (by decide), Below.refl _ _⟩
  case round =>
    obtain ⟨k, r, rfl, rfl, hk, HL, HBE⟩ := hrel
    by_cases hlt : k < l.length
    · obtain ⟨b1, o1, c1, ex1, hc1⟩ := fl_cell HR.out k hlt
      cases ex1
      have e1 := up_cell HBE.out hc1
      have HNX : Hid (∀ W, nm (mres W r (l.getD k 0)) = leastO ((l.take (k + 1)).map nm)) := fun W => by
        unfold leastO
        rw [nm_mres, HL.out, fold_take _ _ _ _ hlt]
        rfl
      obtain ⟨x, hx⟩ : ∃ x, x = l.getD k 0 := ⟨_, rfl⟩
      rw [← hx] at e1 HNX
      have HBD : Hid (∀ m, Below w'.heap.size w' (wr.drewN m)) := fun m => below_drewN HBE.out m
      clear hc1 hx HBE HL
      go_wp2
      go_roundw
      case rel => exact ⟨k + 1, _, by go_num, rfl, by omega, HNX.out _, HBD.out _⟩
      case measure => simp [intOf]; omega
    · have hk2 : k = l.length := by omega
      have HE : Hid (nm r = leastO (l.map nm)) := by show _ = _; rw [HL.out, hk2, List.take_length]
      clear HL hk2
      go_wp2
      go_ret
      exact ⟨_, rfl, HE.out, HBE.out⟩
end Go.Proofs.Ytligmokepafnbaj
