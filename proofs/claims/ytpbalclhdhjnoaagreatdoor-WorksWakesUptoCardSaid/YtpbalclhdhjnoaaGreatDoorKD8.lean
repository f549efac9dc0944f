/- WiresReads: at whatever text the program's network and fault are those of the document's answer. -/
import Derived.Test.YtpbalclhdhjnoaaGreatDoorKD6
import Derived.Test.YtpbalclhdhjnoaaGreatDoorKB8
namespace Go.Proofs.YtpbalclhdhjnoaaGreatDoor
open Go.RowKit Go.Maps

theorem empty_fits : Fits emptyNet := by unfold Fits emptyNet; simp
theorem readGo_shape : ∀ (ls : List ByteArray) (i : Nat) (n : NetM) (bg : Bool), Fits n → Fits (readGo ls i n bg).2 ∧ ((readGo ls i n bg).1.1 ≠ 0 → (readGo ls i n bg).2 = emptyNet) ∧ ((readGo ls i n bg).1.1 = 0 → (readGo ls i n bg).1.2 = 0)
  | [], i, n, bg, hf => by
    rw [readGo]
    split
    · exact ⟨hf, fun h => absurd rfl h, fun _ => rfl⟩
    · exact ⟨empty_fits, fun _ => rfl, fun h => by cases h⟩
  | l :: rest, i, n, bg, hf => by
    cases hw : wordsB l with
    | nil => rw [readGo_nil hw]; exact readGo_shape rest (i + 1) n bg hf
    | cons k r =>
      by_cases hb : (k :: r).length ≠ longK k ∨ decide (k = kNet) = bg
      · rw [readGo_form hw hb]
        exact ⟨empty_fits, fun _ => rfl, fun h => by cases h⟩
      · by_cases he : stepE n (k :: r) ≠ 0
        · rw [readGo_err hw hb he]
          exact ⟨empty_fits, fun _ => rfl, fun h => absurd h he⟩
        · rw [readGo_ok hw hb he]
          exact readGo_shape rest (i + 1) _ true (fits_step hf (Classical.not_not.1 he))

/-- What both sides come to. -/
def Comes2 (w : World) (R : (Int × Int) × NetM) (e : Ending) (w' : World) : Prop :=
  ∃ b l g d t, e = .returned (.tuple #[.agg #[.string R.2.name, b, l, g, d, t], .agg #[.int .i64 R.1.1, .int .i64 R.1.2]]) ∧ Owns w' w.heap.size b l g d t R.2 ∧ Below w.heap.size w w'
theorem nil_owns (w : World) (B : Nat) : Owns w B (.slice none 0 0) (.slice none 0 0) (.slice none 0 0) (.slice none 0 0) (.slice none 0 0) emptyNet :=
  ⟨World.ownsRow_nil _ _ _ _, World.ownsRow_nil _ _ _ _, World.ownsRow_nil _ _ _ _, World.ownsRow_nil _ _ _ _, World.ownsRow_nil _ _ _ _⟩
theorem Read_any (s : ByteArray) (mx : Int) (w : World) (hs : s.size ≤ 9223372036854775807) (hm : w.cell? ⟨1, 0, none⟩ = some (.int .i64 mx)) : Calls Tryz.prog 31 #[.string s] w (Comes2 w (readNetM s)) := by
  unfold readNetM
  by_cases hl : 20000 < s.size
  · rw [if_pos hl]
    refine (Read_bad s 2 0 w (read_long s (faceW w) hl hs)).mono ?_
    rintro e w' ⟨rfl, hb⟩
    exact ⟨_, _, _, _, _, rfl, nil_owns _ _, hb⟩
  · rw [if_neg hl]
    have hmW : (faceW w).cell? ⟨1, 0, none⟩ = some (.int .i64 mx) := ((face_below w).cell (p := ⟨1, 0, none⟩) (World.block_lt_of_cell? w _ hm)).trans hm
    obtain ⟨_, h2, h3⟩ := readGo_shape (linesB s) 0 emptyNet false empty_fits
    have hrd := read_short s mx (faceW w) (by omega) hmW _ rfl
    by_cases hc : (readGo (linesB s) 0 emptyNet false).1.1 = 0
    · refine (Read_good s (readGo (linesB s) 0 emptyNet false).2 w (hrd.mono ?_)).mono ?_
      · rintro e w' ⟨hb, _, h⟩
        obtain ⟨b, l, g, d, t, he, ho⟩ := h hc
        exact ⟨b, l, g, d, t, he, ho, hb⟩
      · rintro e w' ⟨b, l, g, d, t, rfl, ho, hb⟩
        refine ⟨b, l, g, d, t, ?_, ho, hb⟩
        rw [hc, h3 hc]
    · refine (Read_bad s (readGo (linesB s) 0 emptyNet false).1.1 (readGo (linesB s) 0 emptyNet false).1.2 w (hrd.mono ?_)).mono ?_
      · rintro e w' ⟨hb, h, _⟩
        exact ⟨h hc, hb⟩
      · rintro e w' ⟨rfl, hb⟩
        refine ⟨.slice none 0 0, .slice none 0 0, .slice none 0 0, .slice none 0 0, .slice none 0 0, ?_, ?_, hb⟩
        · rw [h2 hc]; rfl
        · rw [h2 hc]; exact nil_owns _ _
end Go.Proofs.YtpbalclhdhjnoaaGreatDoor
