/- Arguments: rows of pairs. -/
import Derived.Test.YtechhnifiahfpaaFt
import Derived.ProofKit
import Derived.OpenShut
import Derived.Deep.Slices
namespace Go.Proofs.Ytechhnifiahfpaa.Arg
open Go.ChangeShapes Go.WideShapes Go.ChangeAt Go.RowKit Go.Deep

theorem bulk_one {H : Type} (d : DataW H) : 1 ≤ Rows.uptoBulk d := by
  cases d with
  | lit l => cases l <;> simp [Rows.uptoBulk]
  | nil => simp [Rows.uptoBulk]
  | ptr d => simp [Rows.uptoBulk]
  | slice elems spare => simp [Rows.uptoBulk]
  | agg parts => simp [Rows.uptoBulk]
  | iface t d => simp [Rows.uptoBulk]
  | map entries => simp [Rows.uptoBulk]
  | held h => simp [Rows.uptoBulk]
theorem bulk_part {H : Type} {d : DataW H} {l : List (DataW H)} (h : d ∈ l) : Rows.uptoBulk d ≤ Rows.uptoBulkAll l := by
  induction l with
  | nil => cases h
  | cons x r ih =>
    simp only [Rows.uptoBulkAll]
    cases List.mem_cons.1 h with
    | inl e => subst e; omega
    | inr e => have := ih e; omega
theorem bulk_len {H : Type} (l : List (DataW H)) : l.length ≤ Rows.uptoBulkAll l := by
  induction l with
  | nil => simp [Rows.uptoBulkAll]
  | cons x r ih => have := bulk_one x; simp only [Rows.uptoBulkAll, List.length_cons]; omega
theorem bulk_bound {H : Type} {l : List (DataW H)} (hk : Rows.uptoSmall H l = true) : Rows.uptoBulkAll l ≤ 1048576 := of_decide_eq_true hk

section
variable {H : Type} {enc : TypeId × Value → H} {W : World} {base : Nat} {spare : Nat → Bool} {held : Bool}
theorem addr_plain {p : Addr} {v : Value} (h : W.cell? p = some v) : p = ⟨p.block, p.off, none⟩ := by
  obtain ⟨b, o, s⟩ := p
  cases s with
  | none => rfl
  | some s =>
    unfold World.cell? at h
    split at h
    · simp at h
    · cases h
theorem plain_add (b o n : Nat) : (⟨b, o, none⟩ : Addr).add n = ⟨b, o + n, none⟩ := by
  unfold Addr.add
  split
  · next h => simp_all
  · rfl
theorem add_more (a : Addr) (m n : Nat) : (a.add m).add n = a.add (m + n) := by
  unfold Addr.add
  repeat' split
  all_goals simp_all
  all_goals omega
/-- A slice whose elements read as plain rows of cells. -/
theorem open_rows {α : Type} (f : α → List Value) {sz t e : Nat} (ok : α → Nat → Prop) (ht : Try.prog.underlying t = some (.slice e)) (hc : Try.prog.cellsOf e = sz) (hpos : 0 < sz) (hf : ∀ x, (f x).length = sz) (hmono : ∀ x a b, ok x a → a ≤ b → ok x b)
    (rd : ∀ (fuel : Nat) (cs : List Value) (x : DataW H × List MemPlace), cs.length = sz → DataW.trod enc Try.prog W base spare held fuel e cs = some x → ∃ m : α, cs = f m ∧ ok m (Rows.uptoBulk x.1))
    {fuel : Nat} {u : Value} {y : DataW H × List MemPlace} (h : DataW.trod enc Try.prog W base spare held fuel t [u] = some y) :
    ∃ xs : List α, RowAt W u xs.length sz (xs.flatMap f) ∧ xs.length ≤ Rows.uptoBulk y.1 ∧ ∀ m ∈ xs, ok m (Rows.uptoBulk y.1) := by
  rcases open_slice ht h with ⟨h1, h2⟩ | ⟨a, len, cap, m, nn, D, Pl, h1, _, hlc, hcm, hm, hy, hx⟩
  · cases h1
    exact ⟨[], ⟨by simp, none, 0, rfl, fun j u hj => by simp at hj⟩, Nat.zero_le _, fun m hm => by cases hm⟩
  · cases h1
    have hlm : len ≤ m := by rw [hm]; split <;> omega
    have hel : ∀ i : Fin len, ∃ z : α, (∀ j v, (f z)[j]? = some v → W.cell? (a.add (i.1 * sz + j)) = some v) ∧ ok z (Rows.uptoBulk (D i.1)) := fun i => by
      obtain ⟨cs, h1, h2⟩ := hx i.1 (Nat.lt_of_lt_of_le i.2 hlm)
      rw [hc] at h1
      obtain ⟨_, hlen, hcell⟩ := World.cells?_some h1
      obtain ⟨z, rfl, hz⟩ := rd _ _ _ hlen h2
      refine ⟨z, fun j v hj => ?_, hz⟩
      have hjs : j < sz := by rw [← hf z]; exact (List.getElem?_eq_some_iff.1 hj).1
      have := hcell j hjs
      rw [add_more, hj] at this
      exact this
    have hD : ∀ i, i < len → Rows.uptoBulk (D i) ≤ Rows.uptoBulk y.1 := fun i hi => by
      rw [hy]
      have : D i ∈ (List.range len).map D := List.mem_map.2 ⟨i, List.mem_range.2 hi, rfl⟩
      have := bulk_part this
      simp only [Rows.uptoBulk]
      omega
    refine ⟨List.ofFn fun i => Classical.choose (hel i), ⟨?_, some a, cap, ?_, ?_⟩, ?_, ?_⟩
    · rw [flat_len f sz hf]
    · rw [List.length_ofFn]
    · intro j v hj
      have hjl : j < len * sz := by
        have := (List.getElem?_eq_some_iff.1 hj).1
        rwa [flat_len f sz hf, List.length_ofFn] at this
      have hk : j / sz < len := (Nat.div_lt_iff_lt_mul hpos).2 hjl
      have hmod : j % sz < sz := Nat.mod_lt _ hpos
      have hlen0 : 0 < len := Nat.lt_of_le_of_lt (Nat.zero_le _) hk
      have e := flat_get f sz hf (List.ofFn fun i => Classical.choose (hel i)) (j / sz) (j % sz) (by rw [List.length_ofFn]; exact hk) hmod
      rw [Nat.mul_comm, Nat.div_add_mod, hj, List.getElem_ofFn] at e
      have hcell := (Classical.choose_spec (hel ⟨j / sz, hk⟩)).1 _ _ e.symm
      simp only at hcell
      rw [show j / sz * sz + j % sz = j by rw [Nat.mul_comm, Nat.div_add_mod]] at hcell
      have h0 : (f (Classical.choose (hel ⟨0, hlen0⟩)))[0]? = some ((f (Classical.choose (hel ⟨0, hlen0⟩)))[0]'(by rw [hf]; exact hpos)) := List.getElem?_eq_getElem _
      have hcell0 := (Classical.choose_spec (hel ⟨0, hlen0⟩)).1 _ _ h0
      simp only [Nat.zero_mul, Nat.add_zero] at hcell0
      have ea : a.add 0 = a := by simp [Addr.add]
      rw [ea] at hcell0
      have hpl := addr_plain hcell0
      refine ⟨a.block, a.off, by rw [← hpl], ?_⟩
      rw [hpl, plain_add] at hcell
      exact hcell
    · rw [List.length_ofFn, hy]
      have := bulk_len ((List.range len).map D)
      rw [List.length_map, List.length_range] at this
      simp only [Rows.uptoBulk]
      omega
    · intro z hz
      obtain ⟨i, rfl⟩ := List.mem_ofFn.1 hz
      exact hmono _ _ _ (Classical.choose_spec (hel i)).2 (hD i.1 i.2)
theorem c3 : Try.prog.cellsOf 3 = 1 := by kernel_rfl
theorem int_of6 {fuel : Nat} {v : Value} {y : DataW H × List MemPlace} (h : DataW.trod enc Try.prog W base spare held fuel 3 [v] = some y) : ∃ n : Int, v = .int .i64 n ∧ I6 n := by
  obtain ⟨n, e, _, hw⟩ := DataW.trod_int Try.underlying3 h
  cases e
  exact ⟨n, rfl, by have := bounds_i64 hw; unfold I6; omega⟩
theorem c27 : Try.prog.cellsOf 27 = 2 := by kernel_rfl
theorem pair_rd (fuel : Nat) (cs : List Value) (x : DataW H × List MemPlace) (hl : cs.length = 2) (h : DataW.trod enc Try.prog W base spare held fuel 27 cs = some x) : ∃ m : PairM, cs = m.cells ∧ I6 m.x ∧ I6 m.y := by
  obtain ⟨y0, y1, n, rfl, _, g0, g1⟩ := trod_struct2 Try.underlying27 h
  match cs, hl with
  | [v0, v1], _ =>
    simp [c3] at g0 g1
    obtain ⟨a, rfl, ha⟩ := int_of6 g0
    obtain ⟨b, rfl, hb⟩ := int_of6 g1
    exact ⟨⟨a, b⟩, rfl, ha, hb⟩
set_option maxRecDepth 100000 in
theorem pairs_of {r : Reach} {b0 : Nat} {v : Value} {d : DataW H} {p : List MemPlace} (hv : Value.okWide Try.prog W r b0 22 v) (h : DataW.Trod enc Try.prog W base spare held 22 v d p) : ∃ l : List PairM, RowAt W v l.length 2 (l.flatMap PairM.cells) ∧ ∀ m ∈ l, I6 m.x ∧ I6 m.y := by
  obtain ⟨fuel, hf0⟩ := h
  obtain ⟨a, len, cap, rfl⟩ := okWide_slice Try.underlying22 hv
  have hc : (Value.slice a len cap).cells.toList = [.slice a len cap] := rfl
  rw [hc] at hf0
  obtain ⟨bs, hb, _, ok⟩ := open_rows PairM.cells (fun m _ => I6 m.x ∧ I6 m.y) Try.underlying22 c27 (by decide) (fun _ => rfl) (fun _ _ _ h _ => h) pair_rd hf0
  exact ⟨bs, hb, ok⟩
end
end Go.Proofs.Ytechhnifiahfpaa.Arg
