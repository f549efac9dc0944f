/- A network that came in as an argument lies in the world as plain data, none of it too great. -/
import Derived.Test.YtpbalclhdhjnoaaGreatDoorKDc5
import Derived.ProofKit
import Derived.OpenShut
import Derived.Deep.Slices
import Derived.Deep.Strs
import Derived.Lib.SmallJoins
namespace Go.Proofs.YtpbalclhdhjnoaaGreatDoor.Doc
open Go.ChangeShapes Go.WideShapes Go.ChangeAt Go.RowKit Go.Deep

theorem bulk_one {H : Type} (d : DataW H) : 1 ≤ Rows.uptoBulk d := by
  cases d with
  | lit l => cases l <;> simp [Rows.uptoBulk]
  | nil => simp [Rows.uptoBulk]
  | ptr d => simp [Rows.uptoBulk]
  | slice elems spare => simp [Rows.uptoBulk]
  | agg parts => simp [Rows.uptoBulk]
  | iface t d => simp [Rows.uptoBulk]
  | map entries => simp [Rows.uptoBulk]
  | held h => simp [Rows.uptoBulk]
theorem bulk_part {H : Type} {d : DataW H} {l : List (DataW H)} (h : d ∈ l) : Rows.uptoBulk d ≤ Rows.uptoBulkAll l := by
  induction l with
  | nil => cases h
  | cons x r ih =>
    simp only [Rows.uptoBulkAll]
    cases List.mem_cons.1 h with
    | inl e => subst e; omega
    | inr e => have := ih e; omega
theorem bulk_len {H : Type} (l : List (DataW H)) : l.length ≤ Rows.uptoBulkAll l := by
  induction l with
  | nil => simp [Rows.uptoBulkAll]
  | cons x r ih => have := bulk_one x; simp only [Rows.uptoBulkAll, List.length_cons]; omega
section
variable {H : Type} {enc : TypeId × Value → H} {W : World} {base : Nat} {spare : Nat → Bool} {held : Bool}
theorem addr_plain {p : Addr} {v : Value} (h : W.cell? p = some v) : p = ⟨p.block, p.off, none⟩ := by
  obtain ⟨b, o, s⟩ := p
  cases s with
  | none => rfl
  | some s =>
    unfold World.cell? at h
    split at h
    · simp at h
    · cases h
theorem plain_add (b o n : Nat) : (⟨b, o, none⟩ : Addr).add n = ⟨b, o + n, none⟩ := by
  unfold Addr.add
  split
  · next h => simp_all
  · rfl
theorem add_more (a : Addr) (m n : Nat) : (a.add m).add n = a.add (m + n) := by
  unfold Addr.add
  repeat' split
  all_goals simp_all
  all_goals omega
/-- A slice whose elements read as plain rows of cells. -/
theorem open_rows {α : Type} (f : α → List Value) {sz t e : Nat} (ok : α → Nat → Prop) (ht : Tryz.prog.underlying t = some (.slice e)) (hc : Tryz.prog.cellsOf e = sz) (hpos : 0 < sz) (hf : ∀ x, (f x).length = sz) (hmono : ∀ x a b, ok x a → a ≤ b → ok x b)
    (rd : ∀ (fuel : Nat) (cs : List Value) (x : DataW H × List MemPlace), cs.length = sz → DataW.trod enc Tryz.prog W base spare held fuel e cs = some x → ∃ m : α, cs = f m ∧ ok m (Rows.uptoBulk x.1))
    {fuel : Nat} {u : Value} {y : DataW H × List MemPlace} (h : DataW.trod enc Tryz.prog W base spare held fuel t [u] = some y) :
    ∃ xs : List α, RowAt W u xs.length sz (xs.flatMap f) ∧ xs.length ≤ Rows.uptoBulk y.1 ∧ ∀ m ∈ xs, ok m (Rows.uptoBulk y.1) := by
  rcases open_slice ht h with ⟨h1, h2⟩ | ⟨a, len, cap, m, nn, D, Pl, h1, _, hlc, hcm, hm, hy, hx⟩
  · cases h1
    exact ⟨[], ⟨by simp, none, 0, rfl, fun j u hj => by simp at hj⟩, Nat.zero_le _, fun m hm => by cases hm⟩
  · cases h1
    have hlm : len ≤ m := by rw [hm]; split <;> omega
    have hel : ∀ i : Fin len, ∃ z : α, (∀ j v, (f z)[j]? = some v → W.cell? (a.add (i.1 * sz + j)) = some v) ∧ ok z (Rows.uptoBulk (D i.1)) := fun i => by
      obtain ⟨cs, h1, h2⟩ := hx i.1 (Nat.lt_of_lt_of_le i.2 hlm)
      rw [hc] at h1
      obtain ⟨_, hlen, hcell⟩ := World.cells?_some h1
      obtain ⟨z, rfl, hz⟩ := rd _ _ _ hlen h2
      refine ⟨z, fun j v hj => ?_, hz⟩
      have hjs : j < sz := by rw [← hf z]; exact (List.getElem?_eq_some_iff.1 hj).1
      have := hcell j hjs
      rw [add_more, hj] at this
      exact this
    have hD : ∀ i, i < len → Rows.uptoBulk (D i) ≤ Rows.uptoBulk y.1 := fun i hi => by
      rw [hy]
      have : D i ∈ (List.range len).map D := List.mem_map.2 ⟨i, List.mem_range.2 hi, rfl⟩
      have := bulk_part this
      simp only [Rows.uptoBulk]
      omega
    refine ⟨List.ofFn fun i => Classical.choose (hel i), ⟨?_, some a, cap, ?_, ?_⟩, ?_, ?_⟩
    · rw [flat_len f sz hf]
    · rw [List.length_ofFn]
    · intro j v hj
      have hjl : j < len * sz := by
        have := (List.getElem?_eq_some_iff.1 hj).1
        rwa [flat_len f sz hf, List.length_ofFn] at this
      have hk : j / sz < len := (Nat.div_lt_iff_lt_mul hpos).2 hjl
      have hmod : j % sz < sz := Nat.mod_lt _ hpos
      have hlen0 : 0 < len := Nat.lt_of_le_of_lt (Nat.zero_le _) hk
      have e := flat_get f sz hf (List.ofFn fun i => Classical.choose (hel i)) (j / sz) (j % sz) (by rw [List.length_ofFn]; exact hk) hmod
      rw [Nat.mul_comm, Nat.div_add_mod, hj, List.getElem_ofFn] at e
      have hcell := (Classical.choose_spec (hel ⟨j / sz, hk⟩)).1 _ _ e.symm
      simp only at hcell
      rw [show j / sz * sz + j % sz = j by rw [Nat.mul_comm, Nat.div_add_mod]] at hcell
      have h0 : (f (Classical.choose (hel ⟨0, hlen0⟩)))[0]? = some ((f (Classical.choose (hel ⟨0, hlen0⟩)))[0]'(by rw [hf]; exact hpos)) := List.getElem?_eq_getElem _
      have hcell0 := (Classical.choose_spec (hel ⟨0, hlen0⟩)).1 _ _ h0
      simp only [Nat.zero_mul, Nat.add_zero] at hcell0
      have ea : a.add 0 = a := by simp [Addr.add]
      rw [ea] at hcell0
      have hpl := addr_plain hcell0
      refine ⟨a.block, a.off, by rw [← hpl], ?_⟩
      rw [hpl, plain_add] at hcell
      exact hcell
    · rw [List.length_ofFn, hy]
      have := bulk_len ((List.range len).map D)
      rw [List.length_map, List.length_range] at this
      simp only [Rows.uptoBulk]
      omega
    · intro z hz
      obtain ⟨i, rfl⟩ := List.mem_ofFn.1 hz
      exact hmono _ _ _ (Classical.choose_spec (hel i)).2 (hD i.1 i.2)
theorem trod_struct5 {P : Program} {w : World} {t : TypeId} {f0 f1 f2 f3 f4 : Field} {fuel : Nat} {cs : List Value} {x : DataW H × List MemPlace} (ht : P.underlying t = some (.struct #[f0, f1, f2, f3, f4])) (h : DataW.trod enc P w base spare held fuel t cs = some x) :
    ∃ y0 y1 y2 y3 y4 n, x = (.agg [y0.1, y1.1, y2.1, y3.1, y4.1], y0.2 ++ (y1.2 ++ (y2.2 ++ (y3.2 ++ y4.2)))) ∧ cs.length = P.cellsOf t ∧ DataW.trod enc P w base spare held n f0.type ((cs.drop f0.offset).take (P.cellsOf f0.type)) = some y0 ∧
      DataW.trod enc P w base spare held n f1.type ((cs.drop f1.offset).take (P.cellsOf f1.type)) = some y1 ∧ DataW.trod enc P w base spare held n f2.type ((cs.drop f2.offset).take (P.cellsOf f2.type)) = some y2 ∧
      DataW.trod enc P w base spare held n f3.type ((cs.drop f3.offset).take (P.cellsOf f3.type)) = some y3 ∧ DataW.trod enc P w base spare held n f4.type ((cs.drop f4.offset).take (P.cellsOf f4.type)) = some y4 := by
  obtain ⟨xs, n, _, rfl, hl, hlen, hf⟩ := DataW.trod_struct ht h
  match xs, hlen with
  | [y0, y1, y2, y3, y4], _ => exact ⟨y0, y1, y2, y3, y4, n, by simp, hl, by simpa using hf 0 f0 rfl, by simpa using hf 1 f1 rfl, by simpa using hf 2 f2 rfl, by simpa using hf 3 f3 rfl, by simpa using hf 4 f4 rfl⟩
theorem trod_struct6 {P : Program} {w : World} {t : TypeId} {f0 f1 f2 f3 f4 f5 : Field} {fuel : Nat} {cs : List Value} {x : DataW H × List MemPlace} (ht : P.underlying t = some (.struct #[f0, f1, f2, f3, f4, f5])) (h : DataW.trod enc P w base spare held fuel t cs = some x) :
    ∃ y0 y1 y2 y3 y4 y5 n, x = (.agg [y0.1, y1.1, y2.1, y3.1, y4.1, y5.1], y0.2 ++ (y1.2 ++ (y2.2 ++ (y3.2 ++ (y4.2 ++ y5.2))))) ∧ cs.length = P.cellsOf t ∧ DataW.trod enc P w base spare held n f0.type ((cs.drop f0.offset).take (P.cellsOf f0.type)) = some y0 ∧
      DataW.trod enc P w base spare held n f1.type ((cs.drop f1.offset).take (P.cellsOf f1.type)) = some y1 ∧ DataW.trod enc P w base spare held n f2.type ((cs.drop f2.offset).take (P.cellsOf f2.type)) = some y2 ∧
      DataW.trod enc P w base spare held n f3.type ((cs.drop f3.offset).take (P.cellsOf f3.type)) = some y3 ∧ DataW.trod enc P w base spare held n f4.type ((cs.drop f4.offset).take (P.cellsOf f4.type)) = some y4 ∧
      DataW.trod enc P w base spare held n f5.type ((cs.drop f5.offset).take (P.cellsOf f5.type)) = some y5 := by
  obtain ⟨xs, n, _, rfl, hl, hlen, hf⟩ := DataW.trod_struct ht h
  match xs, hlen with
  | [y0, y1, y2, y3, y4, y5], _ => exact ⟨y0, y1, y2, y3, y4, y5, n, by simp, hl, by simpa using hf 0 f0 rfl, by simpa using hf 1 f1 rfl, by simpa using hf 2 f2 rfl, by simpa using hf 3 f3 rfl, by simpa using hf 4 f4 rfl, by simpa using hf 5 f5 rfl⟩
theorem list5 {cs : List Value} (h : cs.length = 5) : ∃ a b c d e, cs = [a, b, c, d, e] := by
  match cs, h with
  | [a, b, c, d, e], _ => exact ⟨a, b, c, d, e, rfl⟩
theorem list4 {cs : List Value} (h : cs.length = 4) : ∃ a b c d, cs = [a, b, c, d] := by
  match cs, h with
  | [a, b, c, d], _ => exact ⟨a, b, c, d, rfl⟩
theorem list3 {cs : List Value} (h : cs.length = 3) : ∃ a b c, cs = [a, b, c] := by
  match cs, h with
  | [a, b, c], _ => exact ⟨a, b, c, rfl⟩
theorem array6 {cs : Array Value} (h : cs.size = 6) : ∃ a b c d e f, cs = #[a, b, c, d, e, f] := by
  obtain ⟨l⟩ := cs
  match l, h with
  | [a, b, c, d, e, f], _ => exact ⟨a, b, c, d, e, f, rfl⟩
theorem c3 : Tryz.prog.cellsOf 3 = 1 := by kernel_rfl
theorem c4 : Tryz.prog.cellsOf 4 = 1 := by kernel_rfl
theorem c9 : Tryz.prog.cellsOf 9 = 1 := by kernel_rfl
theorem str_of {fuel : Nat} {v : Value} {y : DataW H × List MemPlace} (h : DataW.trod enc Tryz.prog W base spare held fuel 9 [v] = some y) : ∃ s : ByteArray, v = .string s ∧ s.size ≤ Rows.uptoBulk y.1 := by
  obtain ⟨s, e, hy, _⟩ := DataW.trod_string Tryz.underlying9 h
  cases e
  refine ⟨s, rfl, ?_⟩
  rw [hy]
  simp only [Rows.uptoBulk, Array.length_toList]
  exact Nat.le_succ _
theorem int_of {fuel : Nat} {v : Value} {y : DataW H × List MemPlace} (h : DataW.trod enc Tryz.prog W base spare held fuel 3 [v] = some y) : ∃ n : Int, v = .int .i64 n ∧ I6 n := by
  obtain ⟨n, e, _, hw⟩ := DataW.trod_int Tryz.underlying3 h
  cases e
  have := bounds_i64 hw
  exact ⟨n, rfl, by unfold I6; omega⟩
def lineOk (x : LineM) (k : Nat) : Prop := x.name.size ≤ k ∧ I6 x.frm ∧ I6 x.to ∧ I6 x.worth ∧ I6 x.limit
def genOk (x : GenM) (k : Nat) : Prop := x.name.size ≤ k ∧ I6 x.bus ∧ I6 x.least ∧ I6 x.most ∧ I6 x.cost
def loadOk (x : LoadM) (k : Nat) : Prop := x.name.size ≤ k ∧ I6 x.bus ∧ I6 x.power
def tieOk (x : TieM) (k : Nat) : Prop := x.name.size ≤ k ∧ I6 x.frm ∧ I6 x.to
theorem line_rd (fuel : Nat) (cs : List Value) (x : DataW H × List MemPlace) (hl : cs.length = 5) (h : DataW.trod enc Tryz.prog W base spare held fuel 54 cs = some x) : ∃ m : LineM, cs = m.cells ∧ lineOk m (Rows.uptoBulk x.1) := by
  obtain ⟨y0, y1, y2, y3, y4, n, rfl, _, g0, g1, g2, g3, g4⟩ := trod_struct5 Tryz.underlying54 h
  obtain ⟨v0, v1, v2, v3, v4, rfl⟩ := list5 hl
  simp [c3, c9] at g0 g1 g2 g3 g4
  obtain ⟨s, rfl, hs⟩ := str_of g0
  obtain ⟨a, rfl, ha⟩ := int_of g1
  obtain ⟨b, rfl, hb⟩ := int_of g2
  obtain ⟨c, rfl, hc⟩ := int_of g3
  obtain ⟨d, rfl, hd⟩ := int_of g4
  refine ⟨⟨s, a, b, c, d⟩, rfl, ?_, ha, hb, hc, hd⟩
  simp only [Rows.uptoBulk, Rows.uptoBulkAll]
  show s.size ≤ _
  omega
theorem gen_rd (fuel : Nat) (cs : List Value) (x : DataW H × List MemPlace) (hl : cs.length = 5) (h : DataW.trod enc Tryz.prog W base spare held fuel 46 cs = some x) : ∃ m : GenM, cs = m.cells ∧ genOk m (Rows.uptoBulk x.1) := by
  obtain ⟨y0, y1, y2, y3, y4, n, rfl, _, g0, g1, g2, g3, g4⟩ := trod_struct5 Tryz.underlying46 h
  obtain ⟨v0, v1, v2, v3, v4, rfl⟩ := list5 hl
  simp [c3, c9] at g0 g1 g2 g3 g4
  obtain ⟨s, rfl, hs⟩ := str_of g0
  obtain ⟨a, rfl, ha⟩ := int_of g1
  obtain ⟨b, rfl, hb⟩ := int_of g2
  obtain ⟨c, rfl, hc⟩ := int_of g3
  obtain ⟨d, rfl, hd⟩ := int_of g4
  refine ⟨⟨s, a, b, c, d⟩, rfl, ?_, ha, hb, hc, hd⟩
  simp only [Rows.uptoBulk, Rows.uptoBulkAll]
  show s.size ≤ _
  omega
theorem load_rd (fuel : Nat) (cs : List Value) (x : DataW H × List MemPlace) (hl : cs.length = 3) (h : DataW.trod enc Tryz.prog W base spare held fuel 51 cs = some x) : ∃ m : LoadM, cs = m.cells ∧ loadOk m (Rows.uptoBulk x.1) := by
  obtain ⟨y0, y1, y2, n, rfl, _, g0, g1, g2⟩ := trod_struct3 Tryz.underlying51 h
  obtain ⟨v0, v1, v2, rfl⟩ := list3 hl
  simp [c3, c9] at g0 g1 g2
  obtain ⟨s, rfl, hs⟩ := str_of g0
  obtain ⟨a, rfl, ha⟩ := int_of g1
  obtain ⟨b, rfl, hb⟩ := int_of g2
  refine ⟨⟨s, a, b⟩, rfl, ?_, ha, hb⟩
  simp only [Rows.uptoBulk, Rows.uptoBulkAll]
  show s.size ≤ _
  omega
theorem tie_rd (fuel : Nat) (cs : List Value) (x : DataW H × List MemPlace) (hl : cs.length = 4) (h : DataW.trod enc Tryz.prog W base spare held fuel 56 cs = some x) : ∃ m : TieM, cs = m.cells ∧ tieOk m (Rows.uptoBulk x.1) := by
  obtain ⟨y0, y1, y2, y3, n, rfl, _, g0, g1, g2, g3⟩ := Go.Joins.trod_struct4 Tryz.underlying56 h
  obtain ⟨v0, v1, v2, v3, rfl⟩ := list4 hl
  simp [c3, c4, c9] at g0 g1 g2 g3
  obtain ⟨s, rfl, hs⟩ := str_of g0
  obtain ⟨a, rfl, ha⟩ := int_of g1
  obtain ⟨b, rfl, hb⟩ := int_of g2
  obtain ⟨c, e, _⟩ := DataW.trod_bool Tryz.underlying4 g3
  cases e
  refine ⟨⟨s, a, b, c⟩, rfl, ?_, ha, hb⟩
  simp only [Rows.uptoBulk, Rows.uptoBulkAll]
  show s.size ≤ _
  omega
theorem text_rd (fuel : Nat) (cs : List Value) (x : DataW H × List MemPlace) (hl : cs.length = 1) (h : DataW.trod enc Tryz.prog W base spare held fuel 9 cs = some x) : ∃ m : ByteArray, cs = [.string m] ∧ m.size ≤ Rows.uptoBulk x.1 := by
  match cs, hl with
  | [v], _ =>
    obtain ⟨s, rfl, hs⟩ := str_of h
    exact ⟨s, rfl, hs⟩
theorem flat_texts (xs : List ByteArray) : (xs.flatMap fun x => [Value.string x]) = xs.map Value.string := by
  induction xs with
  | nil => rfl
  | cons x r ih => rw [List.flatMap_cons, ih]; rfl

theorem c28 : Tryz.prog.cellsOf 28 = 6 := by kernel_rfl
set_option maxRecDepth 100000 in
set_option maxHeartbeats 1000000 in
/-- The network that came in. -/
theorem net_of {r : Reach} {b0 : Nat} {v0 : Value} {d0 : DataW H} {p : List MemPlace} (hv : Value.okWide Tryz.prog W r b0 28 v0) (h : DataW.Trod enc Tryz.prog W base spare held 28 v0 d0 p) (hk : Rows.uptoBulk d0 ≤ 1048576) :
    ∃ N : NetM, NetAt W v0 N ∧ SmallM N := by
  obtain ⟨cs, rfl, hsz⟩ := okWide_struct Tryz.underlying28 hv
  obtain ⟨u0, u1, u2, u3, u4, u5, rfl⟩ := array6 (hsz.trans c28)
  obtain ⟨fuel, hf⟩ := h
  obtain ⟨y0, y1, y2, y3, y4, y5, n, hx, _, g0, g1, g2, g3, g4, g5⟩ := trod_struct6 Tryz.underlying28 hf
  simp only [Prod.mk.injEq] at hx
  obtain ⟨rfl, rfl⟩ := hx
  have c22 : Tryz.prog.cellsOf 22 = 1 := by kernel_rfl
  have c23 : Tryz.prog.cellsOf 23 = 1 := by kernel_rfl
  have c24 : Tryz.prog.cellsOf 24 = 1 := by kernel_rfl
  have c25 : Tryz.prog.cellsOf 25 = 1 := by kernel_rfl
  have c26 : Tryz.prog.cellsOf 26 = 1 := by kernel_rfl
  simp [Value.cells, c9, c22, c23, c24, c25, c26] at g0 g1 g2 g3 g4 g5
  obtain ⟨s, rfl, hs⟩ := str_of g0
  obtain ⟨bs, hb, lb, ob⟩ := open_rows (fun x => [Value.string x]) (fun x k => x.size ≤ k) Tryz.underlying22 c9 (by decide) (fun _ => rfl) (fun _ _ _ h1 h2 => Nat.le_trans h1 h2) text_rd g1
  obtain ⟨ls, hl, ll, ol⟩ := open_rows LineM.cells lineOk Tryz.underlying23 (by kernel_rfl) (by decide) (fun _ => rfl) (fun _ _ _ h1 h2 => ⟨Nat.le_trans h1.1 h2, h1.2⟩) line_rd g2
  obtain ⟨gs, hg, lg, og⟩ := open_rows GenM.cells genOk Tryz.underlying24 (by kernel_rfl) (by decide) (fun _ => rfl) (fun _ _ _ h1 h2 => ⟨Nat.le_trans h1.1 h2, h1.2⟩) gen_rd g3
  obtain ⟨ds, hd, ld, od⟩ := open_rows LoadM.cells loadOk Tryz.underlying25 (by kernel_rfl) (by decide) (fun _ => rfl) (fun _ _ _ h1 h2 => ⟨Nat.le_trans h1.1 h2, h1.2⟩) load_rd g4
  obtain ⟨ts, ht, lt, ot⟩ := open_rows TieM.cells tieOk Tryz.underlying26 (by kernel_rfl) (by decide) (fun _ => rfl) (fun _ _ _ h1 h2 => ⟨Nat.le_trans h1.1 h2, h1.2⟩) tie_rd g5
  rw [flat_texts] at hb
  simp only [Rows.uptoBulk, Rows.uptoBulkAll] at hk
  refine ⟨⟨s, bs, ls, gs, ds, ts⟩, ⟨u1, u2, u3, u4, u5, rfl, hb, hl, hg, hd, ht⟩, ⟨?_, ⟨?_, ?_, ?_, ?_, ?_⟩, fun x hx => ?_, fun x hx => ?_, fun x hx => ?_, fun x hx => ?_, fun x hx => ?_⟩⟩
  · show s.size ≤ _; omega
  · show bs.length ≤ _; omega
  · show ls.length ≤ _; omega
  · show gs.length ≤ _; omega
  · show ds.length ≤ _; omega
  · show ts.length ≤ _; omega
  · have := ob x hx; omega
  · have := ol x hx; exact ⟨by have := this.1; omega, this.2⟩
  · have := og x hx; exact ⟨by have := this.1; omega, this.2⟩
  · have := od x hx; exact ⟨by have := this.1; omega, this.2⟩
  · have := ot x hx; exact ⟨by have := this.1; omega, this.2⟩
end
end Go.Proofs.YtpbalclhdhjnoaaGreatDoor.Doc
