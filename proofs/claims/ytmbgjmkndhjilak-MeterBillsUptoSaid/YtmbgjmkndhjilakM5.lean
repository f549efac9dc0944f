/- MeterBills. -/
import Derived.Test.YtmbgjmkndhjilakM4
namespace Go.Proofs.Ytmbgjmkndhjilak.Mtr
open Go.RowKit Go.Shelf

theorem info_parts {P : Program} {t : TypeId} {z : Option Value} {s b : Nat} (h : (P.info? t).map (fun i => (i.zero, i.size, i.bytes)) = some (z, s, b)) : ∃ i, P.info? t = some i ∧ i.zero = z ∧ i.size = s ∧ i.bytes = b := by
  cases e : P.info? t with
  | none => rw [e] at h; cases h
  | some i => rw [e] at h; cases h; exact ⟨i, rfl, rfl, rfl, rfl⟩
theorem Try.info75' : (Try.prog.info? 75).map (fun i => (i.zero, i.size, i.bytes)) = some (some (.agg #[.int .i64 0, .int .i64 0]), 2, 16) := by kernel_rfl
theorem bands_one (l : List BandM) : ∀ u ∈ l.flatMap BandM.cells, u.oneCell' = true := fun u hu => by
  obtain ⟨k, _, hk⟩ := List.mem_flatMap.1 hu
  unfold BandM.cells at hk
  simp at hk
  rcases hk with rfl | rfl <;> rfl
set_option maxRecDepth 100000 in
set_option maxHeartbeats 2000000 in
theorem MeterBills_any (u : Int) (l : List BandM) (v : Value) (w : World) (hx : RowAt w v l.length 2 (l.flatMap BandM.cells)) (hn : l.length ≤ 2000000) :
    Calls Try.prog 6 #[.int .i64 u, v] w fun e w' => e = .returned (.bool true) ∧ Below w.heap.size w w' := by
  obtain ⟨i75, hi75, h0, h1, h2⟩ := info_parts Try.info75'
  have HX := hide' hx
  have HBI : Hid (∀ x W, RowAt W x l.length 2 (l.flatMap BandM.cells) → Calls Try.prog 18 #[.int .i64 u, x] W fun e w' => e = .returned (.tuple #[.int .i64 (billF u l).1, .int .i64 (billF u l).2]) ∧ Below W.heap.size W w') := fun x W h => Bill_any u l x W h (by omega)
  have HBD : Hid (∀ x W, RowAt W x l.length 2 (l.flatMap BandM.cells) → Calls Try.prog 19 #[.int .i64 u, x] W fun e w' => e = .returned (.tuple #[.int .i64 (billF u l).1, .int .i64 (billF u l).2]) ∧ Below W.heap.size W w') := fun x W h => Billed_any u l x W h (by omega)
  obtain ⟨p, hp⟩ : ∃ x, x = (billF u l).1 := ⟨_, rfl⟩
  obtain ⟨q, hq⟩ : ∃ x, x = (billF u l).2 := ⟨_, rfl⟩
  rw [← hp, ← hq] at HBI HBD
  clear hp hq hx
  go_enter Try.func6, Try.ntmps6
  go_wp2_with (at_builtin; refine wpList_append_any _ rfl _ _ 45 rfl w.heap.size 75 i75 _ 2 16 Try.underlying45 hi75 h0 h1 h2 rfl (by decide) _ _ _ rfl (World.ownsRow_nil _ _ _ _) _ _ _ rfl HX.out (bands_one l) (by unfold maxLen; omega) (by omega) (Nat.le_refl _) ?_; intro v1 x1 hown1 hgrow1; refine Still.go ?_)
  unfold Still
  have HF : Hid (x1.ownsRow w.heap.size 75 2 v1 l.length (l.flatMap BandM.cells) ∧ Below w.heap.size w x1) := by
    rw [Nat.zero_add, List.nil_append] at hown1
    exact ⟨hown1, (Below.refl _ w).grown hgrow1 (Nat.le_refl _) (fun k e => by cases e)⟩
  have HC := hide' (HBI.out v1 x1 (rowAt_of_own HF.out.1))
  clear hown1 hgrow1
  go_wp2_with fail
  refine HC.out.mono ?_
  rintro e w2 ⟨rfl, hb2⟩
  have HB2 := hide' (HF.out.2.trans (hb2.mono HF.out.2.size))
  clear hb2 HC HF
  have HC2 := hide' (HBD.out v w2 (HX.out.below HB2.out (Nat.le_refl _)))
  go_wp2_with fail
  refine HC2.out.mono ?_
  rintro e w3 ⟨rfl, hb3⟩
  have HB3 := hide' (HB2.out.trans (hb3.mono HB2.out.size))
  clear hb3 HC2 HB2
  go_wp2
  go_ret
  exact ⟨rfl, HB3.out⟩
end Go.Proofs.Ytmbgjmkndhjilak.Mtr
