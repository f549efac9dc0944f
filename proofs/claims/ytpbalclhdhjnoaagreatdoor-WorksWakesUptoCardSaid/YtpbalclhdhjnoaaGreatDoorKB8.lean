/- Contract: one line of a text is read, whatever its kind, in the document's answer. -/
import Derived.Test.YtpbalclhdhjnoaaGreatDoorKB1
import Derived.Test.YtpbalclhdhjnoaaGreatDoorKB2
import Derived.Test.YtpbalclhdhjnoaaGreatDoorKA1
namespace Go.Proofs.YtpbalclhdhjnoaaGreatDoor
open Go.RowKit

/-- What is wrong with a line's words; 0: nothing. -/
def stepE (n : NetM) : List ByteArray → Int
  | [k, x] => if k = kNet then netE x else newNameE n x n.buses.length 16
  | [_, x, p, y] => loadE n x p y
  | [_, x, p, q, s] => tieE n x p q s
  | [k, x, p, q, y, z] => if k = kLine then lineE n x p q y z else genE n x p q y z
  | _ => 1
/-- The network behind a line. -/
def stepN (n : NetM) : List ByteArray → NetM
  | [k, x] => if k = kNet then { n with name := x } else { n with buses := n.buses ++ [x] }
  | [_, x, p, y] => { n with loads := n.loads ++ [loadM n x p y] }
  | [_, x, p, q, s] => { n with ties := n.ties ++ [tieM n x p q s] }
  | [k, x, p, q, y, z] => if k = kLine then { n with lines := n.lines ++ [lineM n x p q y z] } else { n with gens := n.gens ++ [genM n x p q y z] }
  | _ => n

end Go.Proofs.YtpbalclhdhjnoaaGreatDoor
namespace Go.Proofs.YtpbalclhdhjnoaaGreatDoor
open Go.RowKit

def emptyNet : NetM := ⟨⟨#[]⟩, [], [], [], [], []⟩
def wordsB (line : ByteArray) : List ByteArray := (wordsL (bytesOf line)).map textOf
/-- From line i on: the fault (its code, its line) and the network. -/
def readGo : List ByteArray → Nat → NetM → Bool → (Int × Int) × NetM
  | [], i, n, begun => if begun = true then ((0, 0), n) else ((1, (i : Int)), emptyNet)
  | l :: rest, i, n, begun => match wordsB l with
    | [] => readGo rest (i + 1) n begun
    | k :: r => if (k :: r).length ≠ longK k ∨ (decide (k = kNet) = begun) then ((1, ((i + 1 : Nat) : Int)), emptyNet)
        else if stepE n (k :: r) ≠ 0 then ((stepE n (k :: r), ((i + 1 : Nat) : Int)), emptyNet) else readGo rest (i + 1) (stepN n (k :: r)) true
def linesB (s : ByteArray) : List ByteArray := (splitL (bytesOf s)).map textOf
def readNetM (s : ByteArray) : (Int × Int) × NetM := if 20000 < s.size then ((2, 0), emptyNet) else readGo (linesB s) 0 emptyNet false

theorem map_textOf {ws : List ByteArray} {l : List (List UInt8)} (h : ws.map bytesOf = l) : ws = l.map textOf := by
  rw [← h, List.map_map]
  have : (textOf ∘ bytesOf) = id := by funext s; exact textOf_bytesOf s
  rw [this, List.map_id]

theorem newName_room {n : NetM} {x : ByteArray} {a b : Int} (h : newNameE n x a b = 0) : a < b := by
  unfold newNameE at h
  split at h
  · omega
  · split at h
    · omega
    · split at h <;> omega
theorem fits_step {n : NetM} {k : ByteArray} {r : List ByteArray} (hf : Fits n) (h : stepE n (k :: r) = 0) : Fits (stepN n (k :: r)) := by
  obtain ⟨f1, f2, f3, f4, f5⟩ := hf
  unfold stepE at h
  unfold stepN
  split at h
  · rename_i x y e
    cases e
    split at h
    · rename_i hk; simp only [if_pos hk]; exact ⟨f1, f2, f3, f4, f5⟩
    · rename_i hk; simp only [if_neg hk]; have := newName_room h; exact ⟨by simp; omega, f2, f3, f4, f5⟩
  · rename_i x p y e
    cases e
    have h1 : newNameE n x n.loads.length 16 = 0 := by
      unfold loadE at h; split at h
      · omega
      · rename_i hh; simpa using hh
    have := newName_room h1
    exact ⟨f1, f2, f3, by simp; omega, f5⟩
  · rename_i x p q s e
    cases e
    have h1 : newNameE n x n.ties.length 24 = 0 := by
      unfold tieE at h; split at h
      · omega
      · rename_i hh; simpa using hh
    have := newName_room h1
    exact ⟨f1, f2, f3, f4, by simp; omega⟩
  · rename_i kk x p q y z e
    cases e
    split at h
    · rename_i hk
      simp only [if_pos hk]
      have h1 : newNameE n x n.lines.length 30 = 0 := by
        unfold lineE at h; split at h
        · omega
        · rename_i hh; simpa using hh
      have := newName_room h1
      exact ⟨f1, by simp; omega, f3, f4, f5⟩
    · rename_i hk
      simp only [if_neg hk]
      have h1 : newNameE n x n.gens.length 12 = 0 := by
        unfold genE at h; split at h
        · omega
        · rename_i hh; simpa using hh
      have := newName_room h1
      exact ⟨f1, f2, by simp; omega, f4, f5⟩
  · omega

theorem splitL_len (l : List UInt8) : (splitL l).length ≤ l.length + 1 ∧ ∀ x ∈ splitL l, x.length ≤ l.length := by
  induction l with
  | nil => simp [splitL]
  | cons c r ih =>
    rw [splitL]
    split
    · refine ⟨by simp; omega, fun x hx => ?_⟩
      rcases List.mem_cons.1 hx with rfl | hx
      · simp
      · have := ih.2 x hx; simp; omega
    · split
      · simp
      · rename_i h t e
        rw [e] at ih
        refine ⟨by have := ih.1; simp at this ⊢; omega, fun x hx => ?_⟩
        rcases List.mem_cons.1 hx with rfl | hx
        · have := ih.2 h (by simp); simp; omega
        · have := ih.2 x (by simp [hx]); simp; omega
theorem fieldsGo_len (l : List UInt8) : ∀ cur : List UInt8, ∀ x ∈ fieldsGo cur l, x.length ≤ cur.length + l.length := by
  induction l with
  | nil => intro cur x hx; unfold fieldsGo at hx; split at hx <;> simp at hx; subst hx; omega
  | cons c r ih =>
    intro cur x hx
    rw [fieldsGo] at hx
    split at hx
    · split at hx
      · have := ih [] x hx; simp at this ⊢; omega
      · rcases List.mem_cons.1 hx with rfl | hx
        · omega
        · have := ih [] x hx; simp at this ⊢; omega
    · have := ih (cur ++ [c]) x hx; simp at this ⊢; omega
theorem said_len (l : List UInt8) : (said l).length ≤ l.length := by
  unfold said
  have := (List.takeWhile_sublist (p := fun c : UInt8 => c != 35) (l := l)).length_le
  exact this
theorem size_textOf (l : List UInt8) : (textOf l).size = l.length := by rw [← length_bytesOf, bytesOf_textOf]
theorem words_size {line : ByteArray} : ∀ x ∈ wordsB line, x.size ≤ line.size := by
  intro x hx
  obtain ⟨l, hl, rfl⟩ := List.mem_map.1 hx
  rw [size_textOf]
  have h1 := fieldsGo_len _ _ l hl
  have h2 := said_len (bytesOf line)
  rw [length_bytesOf] at h2
  simp at h1; omega
theorem lines_size {s : ByteArray} : (linesB s).length ≤ s.size + 1 ∧ ∀ x ∈ linesB s, x.size ≤ s.size := by
  have h := splitL_len (bytesOf s)
  rw [length_bytesOf] at h
  refine ⟨by simp [linesB]; exact h.1, fun x hx => ?_⟩
  obtain ⟨l, hl, rfl⟩ := List.mem_map.1 hx
  rw [size_textOf]; exact h.2 l hl
theorem readGo_nil {l : ByteArray} {rest : List ByteArray} {i : Nat} {n : NetM} {bg : Bool} (h : wordsB l = []) : readGo (l :: rest) i n bg = readGo rest (i + 1) n bg := by
  rw [readGo, h]
theorem readGo_form {l : ByteArray} {rest : List ByteArray} {i : Nat} {n : NetM} {bg : Bool} {k : ByteArray} {r : List ByteArray} (h : wordsB l = k :: r) (hb : (k :: r).length ≠ longK k ∨ (decide (k = kNet) = bg)) : readGo (l :: rest) i n bg = ((1, ((i + 1 : Nat) : Int)), emptyNet) := by
  rw [readGo, h]; exact if_pos hb
theorem readGo_err {l : ByteArray} {rest : List ByteArray} {i : Nat} {n : NetM} {bg : Bool} {k : ByteArray} {r : List ByteArray} (h : wordsB l = k :: r) (hb : ¬ ((k :: r).length ≠ longK k ∨ (decide (k = kNet) = bg))) (he : stepE n (k :: r) ≠ 0) : readGo (l :: rest) i n bg = ((stepE n (k :: r), ((i + 1 : Nat) : Int)), emptyNet) := by
  rw [readGo, h]; exact (if_neg hb).trans (if_pos he)
theorem readGo_ok {l : ByteArray} {rest : List ByteArray} {i : Nat} {n : NetM} {bg : Bool} {k : ByteArray} {r : List ByteArray} (h : wordsB l = k :: r) (hb : ¬ ((k :: r).length ≠ longK k ∨ (decide (k = kNet) = bg))) (he : ¬ stepE n (k :: r) ≠ 0) : readGo (l :: rest) i n bg = readGo rest (i + 1) (stepN n (k :: r)) true := by
  rw [readGo, h]; exact (if_neg hb).trans (if_neg he)
end Go.Proofs.YtpbalclhdhjnoaaGreatDoor
