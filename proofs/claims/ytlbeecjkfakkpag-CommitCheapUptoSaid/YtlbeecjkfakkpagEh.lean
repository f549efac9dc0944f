/- What is known of moments: found, and put. -/
import Derived.Test.YtlbeecjkfakkpagEg
import Derived.Maps.Own
namespace Go.Proofs.Ytlbeecjkfakkpag
open Go.RowKit Go.Shelf Go.ChangeMaps

/-- A moment, by its hour and how units stand. -/
def momT (h : Nat) (t : List Int) : Value := .agg (Value.int .i64 h :: ints (stand t)).toArray
theorem momT_is {h : Nat} {t : List Int} {a b c d : Int} (he : stand t = [a, b, c, d]) : momT h t = momV h a b c d := by
  unfold momT momV
  rw [he]
  rfl
theorem ints_inj : ∀ {a b : List Int}, ints a = ints b → a = b
  | [], [], _ => rfl
  | x :: a, y :: b, h => by
    simp only [ints, List.map_cons, List.cons.injEq, Value.int.injEq, true_and] at h
    rw [h.1, ints_inj (a := a) (b := b) h.2]
theorem momT_inj {h h' : Nat} {t t' : List Int} (hl : t.length = t'.length) (he : momT h t = momT h' t') : h = h' ∧ t = t' := by
  unfold momT at he
  simp only [Value.agg.injEq, Array.mk.injEq, List.cons.injEq, Value.int.injEq, true_and] at he
  refine ⟨by omega, ?_⟩
  have := ints_inj he.2
  unfold stand at this
  rw [hl] at this
  exact (List.append_inj' this rfl).1
theorem stand_small {t : List Int} (ht : StayOk t) : ∀ x ∈ stand t, -1000 ≤ x ∧ x ≤ 1000 := fun x hx => by
  rcases List.mem_append.1 hx with hx | hx
  · have := (ht x hx).2; omega
  · rw [(List.mem_replicate.1 hx).2]; omega
theorem momT_key {h : Nat} {t : List Int} (hh : h ≤ 8) (hl : t.length ≤ 4) (ht : StayOk t) : ∃ l, keyOf Try.prog 97 (momT h t) = some l := by
  obtain ⟨a, b, c, d, he⟩ := list4I (stand_len hl)
  have hs := stand_small ht
  rw [he] at hs
  rw [momT_is he]
  exact key_is hh (hs a (by simp)) (hs b (by simp)) (hs c (by simp)) (hs d (by simp))
/-- All that is known is right. -/
def Known (us : List UnitM) (need spare : List Int) (es : List MapEntry) : Prop := ∀ e ∈ es, ∃ h t, h ≤ 8 ∧ t.length = us.length ∧ StayOk t ∧ e.key = momT h t ∧ e.val = outV (look us need spare (need.length - h) h t)
theorem Known.keys {us : List UnitM} {need spare : List Int} {es : List MapEntry} (h4 : us.length ≤ 4) (h : Known us need spare es) : ∀ e ∈ es, ∃ l, keyOf Try.prog 97 e.key = some l := fun e he => by
  obtain ⟨k, t, h1, h2, h3, h5, _⟩ := h e he
  rw [h5]
  exact momT_key h1 (by omega) h3
theorem known_look {us : List UnitM} {need spare : List Int} {W : World} {M clock h : Nat} {es : Array MapEntry} {t : List Int} (h4 : us.length ≤ 4) (hb : W.heap[M]? = some (.map es clock)) (hk : Known us need spare es.toList) (hh : h ≤ 8) (hl : t.length = us.length) (ht : StayOk t) :
    (Instr.lookup 92 (.map (some M)) (momT h t) true).run Try.prog W = .ok (.tuple #[outV (look us need spare (need.length - h) h t), .bool true]) W ∨
    (Instr.lookup 92 (.map (some M)) (momT h t) true).run Try.prog W = .ok (.tuple #[.agg #[.int .i64 0, .int .i64 0], .bool false]) W := by
  obtain ⟨l, hkey⟩ := momT_key hh (by omega : t.length ≤ 4) ht
  rcases keyed97.find W hkey es.toList (hk.keys h4) with ⟨h1, h2⟩ | ⟨j, e0, h1, h2, h3⟩
  · right
    simp [Instr.lookup, run_underlying Try.underlying92, MapKept.run_getObj_map hb, keyed97.check W _ hkey, h1, Try.zeroValue99, Result.andThen]
  · left
    obtain ⟨k, t', g1, g2, g3, g4, g5⟩ := hk e0 (List.mem_of_getElem? h2)
    rw [g4] at h3
    obtain ⟨rfl, rfl⟩ := momT_inj (by omega) h3
    simp [Instr.lookup, run_underlying Try.underlying92, MapKept.run_getObj_map hb, keyed97.check W _ hkey, h1, Result.andThen, g5]
theorem known_put {us : List UnitM} {need spare : List Int} {W : World} {M clock h : Nat} {es : Array MapEntry} {t : List Int} (h4 : us.length ≤ 4) (hb : W.heap[M]? = some (.map es clock)) (hk : Known us need spare es.toList) (hh : h ≤ 8) (hl : t.length = us.length) (ht : StayOk t) :
    ∃ es' clock', (Instr.mapUpdate 92 (.map (some M)) (momT h t) (outV (look us need spare (need.length - h) h t))).run Try.prog W = .ok () (setBlock W M (.map es' clock')) ∧ Known us need spare es'.toList := by
  obtain ⟨l, hkey⟩ := momT_key hh (by omega : t.length ≤ 4) ht
  rcases keyed97.find W hkey es.toList (hk.keys h4) with ⟨h1, h2⟩ | ⟨j, e0, h1, h2, h3⟩
  · refine ⟨es.push ⟨momT h t, outV (look us need spare (need.length - h) h t), clock⟩, clock + 1, ?_, fun e he => ?_⟩
    · simp [Instr.mapUpdate, run_underlying Try.underlying92, MapKept.run_getObj_map hb, keyed97.check W false hkey, h1, MapKept.run_setObj_map _ hb, Result.andThen, setBlock]
    · rw [Array.toList_push] at he
      rcases List.mem_append.1 he with he | he
      · exact hk e he
      · rw [List.mem_singleton.1 he]
        exact ⟨h, t, hh, hl, ht, rfl, rfl⟩
  · have hj : es[j]? = some e0 := by rw [← Array.getElem?_toList]; exact h2
    refine ⟨es.modify j fun e => { e with key := momT h t, val := outV (look us need spare (need.length - h) h t) }, clock, ?_, fun e he => ?_⟩
    · simp [Instr.mapUpdate, run_underlying Try.underlying92, MapKept.run_getObj_map hb, keyed97.check W false hkey, h1, hj, h3, keyed97.stays W hkey, MapKept.run_setObj_map _ hb, Result.andThen, setBlock]
    · rw [Array.toList_modify] at he
      obtain ⟨i, hi⟩ := List.mem_iff_getElem?.1 he
      rw [List.getElem?_modify] at hi
      by_cases e1 : j = i
      · subst e1
        rw [h2] at hi
        simp at hi
        rw [← hi]
        exact ⟨h, t, hh, hl, ht, rfl, rfl⟩
      · simp [e1] at hi
        rw [← Array.getElem?_toList] at hi
        exact hk e (List.mem_of_getElem? hi)
theorem But.put {W : World} {M clock : Nat} {es : Array MapEntry} (hb : W.heap[M]? = some (.map es clock)) (o : Obj) : But M W (setBlock W M o) :=
  ⟨rfl, rfl, rfl, by simp [setBlock], fun _ _ hi => heap_setBlock_other hb _ hi⟩
end Go.Proofs.Ytlbeecjkfakkpag
