/- Plain facts: the words that runes part are those that bytes part; what stands ahead of a byte and behind it. -/
import Derived.Test.YtpbalclhdhjnoaaGreatDoorKA1
import Derived.Lib.FieldsP
import Derived.Lib.IndexMore
namespace Go.Proofs.YtpbalclhdhjnoaaGreatDoor
open Go.RowKit

def blankR (r : Nat) : Bool := r == 9 || r == 13 || r == 32

theorem get!_lt (s : ByteArray) (k : Nat) (h : k < s.size) : s.get! k = s[k] := by
  show s.data[k]! = s.data[k]
  exact getElem!_pos s.data k h
theorem dec_low (s : ByteArray) (k : Nat) (h : k < s.size) (ha : s[k].toNat < 128) : Utf8.decode s k = (s[k].toNat, 1) := by
  rw [Lib.decode_at, Lib.decodeN, get!_lt s k h, if_pos ha]
theorem dec_far (s : ByteArray) (k : Nat) (h : k < s.size) (ha : ¬ s[k].toNat < 128) : blankR (Utf8.decode s k).1 = false ∧ ∀ j, j < (Utf8.decode s k).2 → ∃ h : k + j < s.size, 128 ≤ s[k + j].toNat := by
  have hb : ∀ j, k + j < s.size → (s.get! (k + j)).toNat / 64 = 2 → ∃ h : k + j < s.size, 128 ≤ s[k + j].toNat := fun j hj hd => ⟨hj, by rw [get!_lt s _ hj] at hd; omega⟩
  have h0 : ∀ j, j < 1 → ∃ h : k + j < s.size, 128 ≤ s[k + j].toNat := fun j hj => by
    obtain rfl : j = 0 := by omega
    exact ⟨h, by show 128 ≤ s[k].toNat; omega⟩
  have hbl : ∀ r : Nat, 128 ≤ r → blankR r = false := fun r hr => by simp [blankR]; omega
  rw [Lib.decode_at, Lib.decodeN, if_neg (by rw [get!_lt s k h]; exact ha)]
  split
  · rename_i h1
    split
    · rename_i h2
      refine ⟨hbl _ h2, fun j hj => ?_⟩
      by_cases e : j < 1
      · exact h0 j e
      · obtain rfl : j = 1 := by simp at hj; omega
        exact hb 1 (by omega) h1.2.2
    · exact ⟨hbl _ (by simp), h0⟩
  · split
    · rename_i h1
      split
      · rename_i h2
        refine ⟨hbl _ (by simp; omega), fun j hj => ?_⟩
        by_cases e : j < 1
        · exact h0 j e
        · by_cases e1 : j = 1
          · subst e1; exact hb 1 (by omega) h1.2.1.2
          · obtain rfl : j = 2 := by simp at hj; omega
            exact hb 2 (by omega) h1.2.2.2
      · exact ⟨hbl _ (by simp), h0⟩
    · split
      · rename_i h1
        split
        · rename_i h2
          refine ⟨hbl _ (by simp; omega), fun j hj => ?_⟩
          by_cases e : j < 1
          · exact h0 j e
          · by_cases e1 : j = 1
            · subst e1; exact hb 1 (by omega) h1.2.1.2
            · by_cases e2 : j = 2
              · subst e2; exact hb 2 (by omega) h1.2.2.1.2
              · obtain rfl : j = 3 := by simp at hj; omega
                exact hb 3 (by omega) h1.2.2.2.2
        · exact ⟨hbl _ (by simp), h0⟩
      · exact ⟨hbl _ (by simp), h0⟩

theorem fieldsGo_skip (l2 : List UInt8) : ∀ (l1 cur : List UInt8), (∀ c ∈ l1, blankU c = false) → fieldsGo cur (l1 ++ l2) = fieldsGo (cur ++ l1) l2
  | [], cur, _ => by simp
  | c :: r, cur, h => by
    rw [List.cons_append, fieldsGo, if_neg (by rw [h c (by simp)]; decide), fieldsGo_skip l2 r _ (fun d hd => h d (by simp [hd]))]
    simp
theorem seg {L : List UInt8} {a b c : Nat} (h1 : a ≤ b) (h2 : b ≤ c) (h3 : b ≤ L.length) : (L.take b).drop a ++ (L.take c).drop b = (L.take c).drop a := by
  have e : L.take c = L.take b ++ (L.take c).drop b := by
    have := (List.take_append_drop b (L.take c)).symm
    rwa [List.take_take, Nat.min_eq_left h2] at this
  have hl : a ≤ (L.take b).length := by rw [List.length_take]; omega
  exact (List.drop_append_of_le_length hl).symm.trans (by rw [← e])
theorem seg_end {L : List UInt8} {a c : Nat} : a ≤ c → L.drop a = (L.take c).drop a ++ L.drop c := fun h => by
  by_cases hc : c ≤ L.length
  · have hl : a ≤ (L.take c).length := by rw [List.length_take]; omega
    rw [← List.drop_append_of_le_length hl, List.take_append_drop]
  · have e : L.drop c = [] := List.drop_eq_nil_of_le (by omega)
    rw [List.take_of_length_le (by omega), e, List.append_nil]

def curOf (s : ByteArray) (pos : Nat) : Option Nat → List UInt8
  | some a => ((bytesOf s).take pos).drop a
  | none => []
theorem curOf_ne {s : ByteArray} {pos a : Nat} (h : a < pos) (hp : pos ≤ s.size) : ((bytesOf s).take pos).drop a ≠ [] := by
  intro e
  have := congrArg List.length e
  simp [List.length_drop, List.length_take, length_bytesOf] at this
  omega
theorem spans_succ (s : ByteArray) (g pos : Nat) (st : Option Nat) (acc : List (Nat × Nat)) : Lib.spansFromP blankR s (g + 1) pos st acc = if pos < s.size then
      (if blankR (Utf8.decode s pos).1 then
        (match st with
         | some a => Lib.spansFromP blankR s g (pos + (Utf8.decode s pos).2) none (acc ++ [(a, pos)])
         | none => Lib.spansFromP blankR s g (pos + (Utf8.decode s pos).2) none acc)
       else
        (match st with
         | some a => Lib.spansFromP blankR s g (pos + (Utf8.decode s pos).2) (some a) acc
         | none => Lib.spansFromP blankR s g (pos + (Utf8.decode s pos).2) (some pos) acc))
    else (acc, st) := rfl
abbrev piece (s : ByteArray) (x : Nat × Nat) : List UInt8 := bytesOf (s.extract x.1 x.2)

theorem spans_go (s : ByteArray) : ∀ (g pos : Nat) (st : Option Nat) (acc : List (Nat × Nat)), pos ≤ s.size → s.size ≤ pos + g → (∀ a, st = some a → a < pos) →
    (Lib.closeSpans s (Lib.spansFromP blankR s g pos st acc)).map (piece s) = acc.map (piece s) ++ fieldsGo (curOf s pos st) ((bytesOf s).drop pos) := by
  have hend : ∀ (pos : Nat) (st : Option Nat) (acc : List (Nat × Nat)), pos = s.size → (∀ a, st = some a → a < pos) → (Lib.closeSpans s (acc, st)).map (piece s) = acc.map (piece s) ++ fieldsGo (curOf s pos st) ((bytesOf s).drop pos) := by
    intro pos st acc hp hst
    subst hp
    rw [List.drop_eq_nil_of_le (by rw [length_bytesOf]; exact Nat.le_refl _), fieldsGo]
    cases st with
    | none => rw [curOf, if_pos rfl, List.append_nil]; rfl
    | some a =>
      rw [curOf, if_neg (curOf_ne (hst a rfl) (Nat.le_refl _))]
      show (acc ++ [(a, s.size)]).map (piece s) = _
      rw [List.map_append, List.map_singleton, piece, bytesOf_extract]
  intro g
  induction g with
  | zero => exact fun pos st acc h1 h2 h3 => hend pos st acc (by omega) h3
  | succ g ih =>
    intro pos st acc h1 h2 h3
    rw [spans_succ]
    by_cases hlt : pos < s.size
    · rw [if_pos hlt]
      by_cases ha : s[pos].toNat < 128
      · rw [dec_low s pos hlt ha]
        have hd : (bytesOf s).drop pos = s[pos] :: (bytesOf s).drop (pos + 1) := drop_cons s pos hlt
        have hbl : blankU s[pos] = blankR s[pos].toNat := by
          rw [Bool.eq_iff_iff, blank_iff]
          simp [blankR]
          omega
        by_cases hb : blankR s[pos].toNat = true
        · rw [if_pos hb, hd, fieldsGo, if_pos (hbl.trans hb)]
          cases st with
          | none =>
            show (Lib.closeSpans s (Lib.spansFromP blankR s g (pos + 1) none acc)).map (piece s) = _
            rw [ih (pos + 1) none acc (by omega) (by omega) (fun a e => by cases e), curOf, curOf, if_pos rfl]
          | some a =>
            show (Lib.closeSpans s (Lib.spansFromP blankR s g (pos + 1) none (acc ++ [(a, pos)]))).map (piece s) = _
            rw [ih (pos + 1) none _ (by omega) (by omega) (fun a e => by cases e), curOf, curOf, if_neg (curOf_ne (h3 a rfl) h1), List.map_append, List.map_singleton, piece, bytesOf_extract, List.append_assoc, List.singleton_append]
        · have hb' : blankR s[pos].toNat = false := by simpa using hb
          rw [if_neg hb, hd, fieldsGo, if_neg (by rw [hbl, hb']; decide)]
          have hone : [s[pos]] = ((bytesOf s).take (pos + 1)).drop pos := by
            have h := seg_end (L := bytesOf s) (a := pos) (c := pos + 1) (by omega)
            rw [hd] at h
            exact List.append_cancel_right (by simpa using h)
          cases st with
          | none =>
            show (Lib.closeSpans s (Lib.spansFromP blankR s g (pos + 1) (some pos) acc)).map (piece s) = _
            rw [ih (pos + 1) (some pos) acc (by omega) (by omega) (fun a e => by cases e; omega), curOf, curOf, List.nil_append, hone]
          | some a =>
            show (Lib.closeSpans s (Lib.spansFromP blankR s g (pos + 1) (some a) acc)).map (piece s) = _
            rw [ih (pos + 1) (some a) acc (by omega) (by omega) (fun b e => by cases e; have := h3 a rfl; omega), curOf, curOf, hone, seg (by have := h3 a rfl; omega) (by omega) (by rw [length_bytesOf]; omega)]
      · obtain ⟨hb, hj⟩ := dec_far s pos hlt ha
        rw [if_neg (by rw [hb]; decide)]
        have hw := Lib.width_pos s pos
        obtain ⟨q, hq⟩ : ∃ q, (Utf8.decode s pos).2 = q := ⟨_, rfl⟩
        rw [hq] at hj hw ⊢
        have hle : pos + q ≤ s.size := by
          obtain ⟨h, _⟩ := hj (q - 1) (by omega)
          omega
        have hd := seg_end (L := bytesOf s) (a := pos) (c := pos + q) (by omega)
        have hnb : ∀ c ∈ ((bytesOf s).take (pos + q)).drop pos, blankU c = false := by
          intro c hc
          obtain ⟨i, hi, rfl⟩ := List.mem_iff_getElem.1 hc
          simp only [List.length_drop, List.length_take, length_bytesOf] at hi
          simp only [List.getElem_drop, List.getElem_take]
          obtain ⟨h, hbig⟩ := hj i (by omega)
          rw [getElem_bytesOf s (pos + i) h]
          cases hbl : blankU s[pos + i] with
          | false => rfl
          | true => have := (blank_iff _).1 hbl; omega
        rw [hd, fieldsGo_skip _ _ _ hnb]
        cases st with
        | none =>
          show (Lib.closeSpans s (Lib.spansFromP blankR s g (pos + q) (some pos) acc)).map (piece s) = _
          rw [ih (pos + q) (some pos) acc hle (by omega) (fun a e => by cases e; omega), curOf, curOf, List.nil_append]
        | some a =>
          show (Lib.closeSpans s (Lib.spansFromP blankR s g (pos + q) (some a) acc)).map (piece s) = _
          rw [ih (pos + q) (some a) acc hle (by omega) (fun b e => by cases e; have := h3 a rfl; omega), curOf, curOf, seg (by have := h3 a rfl; omega) (by omega) (by rw [length_bytesOf]; omega)]
    · rw [if_neg hlt]
      exact hend pos st acc (by omega) h3
theorem goFields_eq (s : ByteArray) : (Lib.goFieldsP blankR s).map bytesOf = fieldsGo [] (bytesOf s) := by
  have h := spans_go s s.size 0 none [] (Nat.zero_le _) (by omega) (fun a e => by cases e)
  simp only [List.map_nil, List.nil_append, curOf, List.drop_zero] at h
  rw [← h, Lib.goFieldsP, List.map_map]
  rfl

/-- What is ahead of the first byte c, and behind it. -/
theorem cut_byte (l : List UInt8) (c : UInt8) : (∃ x y, Lib.cut l [c] = (x, y, true) ∧ l = x ++ c :: y ∧ ∀ d ∈ x, d ≠ c) ∨ (Lib.cut l [c] = (l, [], false) ∧ ∀ d ∈ l, d ≠ c) := by
  rcases Lib.index_spec l [c] with ⟨h1, h2⟩ | ⟨i, h1, h2, h3, h4⟩
  · refine .inr ⟨?_, fun d hd e => ?_⟩
    · unfold Lib.cut; rw [h1]; rfl
    · obtain ⟨j, hj, rfl⟩ := List.mem_iff_getElem.1 hd
      have := h2 j (by omega)
      unfold Lib.occAt at this
      rw [List.drop_eq_getElem_cons hj, e] at this
      simp at this
  · have hc := Lib.occAt_head rfl h3
    obtain ⟨hi, hci⟩ := List.getElem?_eq_some_iff.1 hc
    refine .inl ⟨l.take i, l.drop (i + 1), ?_, ?_, fun d hd e => ?_⟩
    · unfold Lib.cut; rw [h1]; simp
    · rw [← hci, ← List.drop_eq_getElem_cons hi, List.take_append_drop]
    · obtain ⟨j, hj, rfl⟩ := List.mem_iff_getElem.1 hd
      simp only [List.length_take] at hj
      have := h4 j (by omega)
      unfold Lib.occAt at this
      rw [List.drop_eq_getElem_cons (by omega), ← List.getElem_take (h := by simp; omega) (j := i), e] at this
      simp at this
theorem cut_lines (l : List UInt8) : (∃ x y, Lib.cut l [10] = (x, y, true) ∧ splitL l = x :: splitL y ∧ x.length ≤ l.length ∧ y.length < l.length) ∨ (Lib.cut l [10] = (l, [], false) ∧ splitL l = [l]) := by
  rcases cut_byte l 10 with ⟨x, y, h1, h2, h3⟩ | ⟨h1, h2⟩
  · exact .inl ⟨x, y, h1, by rw [h2, splitL_at x y h3], by rw [h2]; simp, by rw [h2]; simp; omega⟩
  · exact .inr ⟨h1, splitL_none l h2⟩
theorem cut_said (l : List UInt8) : (Lib.cut l [35]).1 = said l := by
  rcases cut_byte l 35 with ⟨x, y, h1, h2, h3⟩ | ⟨h1, h2⟩
  · rw [h1, h2]
    unfold said
    rw [List.takeWhile_append_of_pos (fun d hd => by simpa using h3 d hd)]
    simp
  · rw [h1]
    unfold said
    have := List.takeWhile_append_of_pos (p := fun c : UInt8 => c != 35) (l₂ := []) (fun d hd => by simpa using h2 d hd)
    simpa using this.symm
end Go.Proofs.YtpbalclhdhjnoaaGreatDoor
