/- WiresReads: at whatever text the program's network and fault are those of the document's answer. -/
import Derived.Test.YtjmadnpcadidhaaDoorD7
namespace Go.Proofs.YtjmadnpcadidhaaDoor
open Go.RowKit Go.Maps

theorem empty_fits : Fits emptyNet := by unfold Fits emptyNet; simp
theorem readGo_shape : ∀ (ls : List ByteArray) (i : Nat) (n : NetM) (bg : Bool), Fits n → Fits (readGo ls i n bg).2 ∧ ((readGo ls i n bg).1.1 ≠ 0 → (readGo ls i n bg).2 = emptyNet) ∧ ((readGo ls i n bg).1.1 = 0 → (readGo ls i n bg).1.2 = 0)
  | [], i, n, bg, hf => by
    rw [readGo]
    split
    · exact ⟨hf, fun h => absurd rfl h, fun _ => rfl⟩
    · exact ⟨empty_fits, fun _ => rfl, fun h => by cases h⟩
  | l :: rest, i, n, bg, hf => by
    cases hw : wordsB l with
    | nil => rw [readGo_nil hw]; exact readGo_shape rest (i + 1) n bg hf
    | cons k r =>
      by_cases hb : (k :: r).length ≠ longK k ∨ decide (k = kNet) = bg
      · rw [readGo_form hw hb]
        exact ⟨empty_fits, fun _ => rfl, fun h => by cases h⟩
      · by_cases he : stepE n (k :: r) ≠ 0
        · rw [readGo_err hw hb he]
          exact ⟨empty_fits, fun _ => rfl, fun h => absurd h he⟩
        · rw [readGo_ok hw hb he]
          exact readGo_shape rest (i + 1) _ true (fits_step hf (Classical.not_not.1 he))

/-- What both sides come to. -/
def Comes2 (w : World) (R : (Int × Int) × NetM) (e : Ending) (w' : World) : Prop :=
  ∃ b l g d t, e = .returned (.tuple #[.agg #[.string R.2.name, b, l, g, d, t], .agg #[.int .i64 R.1.1, .int .i64 R.1.2]]) ∧ Owns w' w.heap.size b l g d t R.2 ∧ Below w.heap.size w w'
theorem nil_owns (w : World) (B : Nat) : Owns w B (.slice none 0 0) (.slice none 0 0) (.slice none 0 0) (.slice none 0 0) (.slice none 0 0) emptyNet :=
  ⟨World.ownsRow_nil _ _ _ _, World.ownsRow_nil _ _ _ _, World.ownsRow_nil _ _ _ _, World.ownsRow_nil _ _ _ _, World.ownsRow_nil _ _ _ _⟩
theorem Read_any (s : ByteArray) (mx : Int) (w : World) (hs : s.size ≤ 9223372036854775807) (hm : w.cell? ⟨0, 0, none⟩ = some (.int .i64 mx)) : Calls Tryd.prog 4 #[.string s] w (Comes2 w (readNetM s)) := by
  unfold readNetM
  by_cases hl : 20000 < s.size
  · rw [if_pos hl]
    refine (Read_bad s 2 0 w (read_long s (faceW w) hl hs)).mono ?_
    rintro e w' ⟨rfl, hb⟩
    exact ⟨_, _, _, _, _, rfl, nil_owns _ _, hb⟩
  · rw [if_neg hl]
    have hmW : (faceW w).cell? ⟨0, 0, none⟩ = some (.int .i64 mx) := ((face_below w).cell (p := ⟨0, 0, none⟩) (World.block_lt_of_cell? w _ hm)).trans hm
    obtain ⟨_, h2, h3⟩ := readGo_shape (linesB s) 0 emptyNet false empty_fits
    have hrd := read_short s mx (faceW w) (by omega) hmW _ rfl
    by_cases hc : (readGo (linesB s) 0 emptyNet false).1.1 = 0
    · refine (Read_good s (readGo (linesB s) 0 emptyNet false).2 w (hrd.mono ?_)).mono ?_
      · rintro e w' ⟨hb, _, h⟩
        obtain ⟨b, l, g, d, t, he, ho⟩ := h hc
        exact ⟨b, l, g, d, t, he, ho, hb⟩
      · rintro e w' ⟨b, l, g, d, t, rfl, ho, hb⟩
        refine ⟨b, l, g, d, t, ?_, ho, hb⟩
        rw [hc, h3 hc]
    · refine (Read_bad s (readGo (linesB s) 0 emptyNet false).1.1 (readGo (linesB s) 0 emptyNet false).1.2 w (hrd.mono ?_)).mono ?_
      · rintro e w' ⟨hb, h, _⟩
        exact ⟨h hc, hb⟩
      · rintro e w' ⟨rfl, hb⟩
        refine ⟨.slice none 0 0, .slice none 0 0, .slice none 0 0, .slice none 0 0, .slice none 0 0, ?_, ?_, hb⟩
        · rw [h2 hc]; rfl
        · rw [h2 hc]; exact nil_owns _ _
theorem ReadNet_any (s : ByteArray) (w : World) (hs : s.size ≤ 9223372036854775807) : Calls Tryd.prog 5 #[.string s] w (Comes2 w (readNetM s)) := by
  unfold readNetM
  by_cases hl : 20000 < s.size
  · rw [if_pos hl]
    refine (ReadNet_long s w hl hs).mono ?_
    rintro e w' ⟨rfl, hb⟩
    exact ⟨_, _, _, _, _, rfl, nil_owns _ _, hb⟩
  · rw [if_neg hl]
    exact ReadNet_short s w (by omega)
theorem readNetM_fits (s : ByteArray) : Fits (readNetM s).2 := by
  unfold readNetM
  split
  · exact empty_fits
  · exact (readGo_shape _ _ _ _ empty_fits).1
theorem Owns.alloc {w : World} {B : Nat} {b l g d t : Value} {N : NetM} (h : Owns w B b l g d t N) (o : Obj) : Owns (w.alloc o) B b l g d t N := ⟨h.hb.alloc o, h.hl.alloc o, h.hg.alloc o, h.hd.alloc o, h.ht.alloc o⟩
theorem Owns.later {w w' : World} {B : Nat} {b l g d t : Value} {N : NetM} (h : Owns w B b l g d t N) (hb : Below w.heap.size w w') : Owns w' B b l g d t N :=
  ⟨own_below h.hb hb (Nat.le_refl _), own_below h.hl hb (Nat.le_refl _), own_below h.hg hb (Nat.le_refl _), own_below h.hd hb (Nat.le_refl _), own_below h.ht hb (Nat.le_refl _)⟩

theorem later2 {W : World} {p : Addr} {v : Value} (h : W.cell? p = some v) : ∀ o o', ((W.alloc o).alloc o').cell? p = some v := fun o o' => by
  have hb : Below W.heap.size W ((W.alloc o).alloc o') := ((Below.refl _ W).alloc (Nat.le_refl _) _).alloc (by simp) _
  exact (hb.cell (World.block_lt_of_cell? W _ h)).trans h
theorem pair_below {w W w' : World} {o o' : Obj} (h : Below w.heap.size w W) (hb : Below ((W.alloc o).alloc o').heap.size ((W.alloc o).alloc o') w') : Below w.heap.size w w' := by
  have h1 : Below w.heap.size w ((W.alloc o).alloc o') := (h.alloc h.size _).alloc (by have := h.size; simp; omega) _
  exact h1.trans (hb.mono h1.size)
theorem pair_net (w : World) (v0 v1 v2 v3 v4 v5 c a : Value) : ((w.alloc (.cells #[v0, v1, v2, v3, v4, v5] 28)).alloc (.cells #[c, a] 31)).heap[w.heap.size]? = some (.cells #[v0, v1, v2, v3, v4, v5] 28 (0, 0)) :=
  (Below.heap_alloc _ _ _ (by simp)).trans (World.alloc_heap_new w _)
theorem pair_fault (w : World) (v0 v1 v2 v3 v4 v5 c a : Value) : ((w.alloc (.cells #[v0, v1, v2, v3, v4, v5] 28)).alloc (.cells #[c, a] 31)).heap[w.heap.size + 1]? = some (.cells #[c, a] 31 (0, 0)) := by
  have := World.alloc_heap_new (w.alloc (.cells #[v0, v1, v2, v3, v4, v5] 28)) (.cells #[c, a] 31)
  rwa [World.size_alloc] at this

set_option maxHeartbeats 4000000 in
set_option maxRecDepth 100000 in
theorem WiresReads_any (s : ByteArray) (mx : Int) (w : World) (hs : s.size ≤ 9223372036854775807) (hm : w.cell? ⟨0, 0, none⟩ = some (.int .i64 mx)) :
    Calls Tryd.prog 3 #[.string s] w fun e w' => e = .returned (.bool true) ∧ Below w.heap.size w w' := by
  have hf := readNetM_fits s
  have h4 := Read_any s mx w hs hm
  have h5 : ∀ W, Calls Tryd.prog 5 #[.string s] W (Comes2 W (readNetM s)) := fun W => ReadNet_any s W hs
  obtain ⟨⟨⟨c, at_⟩, N⟩, hR⟩ : ∃ R, R = readNetM s := ⟨_, rfl⟩
  rw [← hR] at hf h4 h5
  have H4 := hide' h4
  have H5 := hide' h5
  have HF := hide' hf
  clear h4 h5 hR hf hs hm
  go_enter Tryd.func3, Tryd.ntmps3
  go_wp2_with (first
    | (go_at_call 6; go_must (refine (sameNet_any N _ _ _ _ _ _ _ _ _ _ _ _ _ HF.out ((((ho1.alloc _).alloc _).later HX2.out).alloc _ |>.alloc _) ((HO2.out.alloc _).alloc _)).mono ?_; rintro e w3 ⟨rfl, hb3⟩))
    | (go_at_call 5; go_must (refine (H5.out _).mono ?_; rintro e w2 ⟨b2, l2, g2, d2, t2, rfl, ho2, hb2⟩; obtain ⟨ab2, cb2, rfl⟩ := own_slice ho2.hb; obtain ⟨al2, cl2, rfl⟩ := own_slice ho2.hl; obtain ⟨ag2, cg2, rfl⟩ := own_slice ho2.hg; obtain ⟨ad2, cd2, rfl⟩ := own_slice ho2.hd; obtain ⟨at2, ct2, rfl⟩ := own_slice ho2.ht; have k0 := (hb2.block w1.heap.size (by simp; omega)).trans (pair_net w1 _ _ _ _ _ _ _ _); have k1 := (hb2.block (w1.heap.size + 1) (by simp)).trans (pair_fault w1 _ _ _ _ _ _ _ _); obtain ⟨x0, x1, x2, x3, x4, x5, _⟩ := cells28 k0; obtain ⟨z0, z1, _⟩ := cells31 k1; have x0' := later2 x0; have x1' := later2 x1; have x2' := later2 x2; have x3' := later2 x3; have x4' := later2 x4; have x5' := later2 x5; have z0' := later2 z0; have z1' := later2 z1; clear x0 x1 x2 x3 x4 x5 z0 z1; have HO2 := hide' ho2; have HX2 := hide' hb2; clear ho2 hb2 k0 k1))
    | (go_at_call 4; go_must (refine H4.out.mono ?_; rintro e w1 ⟨b1, l1, g1, d1, t1, rfl, ho1, hb1⟩; obtain ⟨ab1, cb1, rfl⟩ := own_slice ho1.hb; obtain ⟨al1, cl1, rfl⟩ := own_slice ho1.hl; obtain ⟨ag1, cg1, rfl⟩ := own_slice ho1.hg; obtain ⟨ad1, cd1, rfl⟩ := own_slice ho1.hd; obtain ⟨at1, ct1, rfl⟩ := own_slice ho1.ht)))
  go_ret
  exact ⟨rfl, pair_below (pair_below hb1 HX2.out) hb3⟩
end Go.Proofs.YtjmadnpcadidhaaDoor
