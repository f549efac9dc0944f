/- Contract: one line of a text is read, whatever its kind, in the document's answer. -/
import Derived.Test.YtjmadnpcadidhaaDoorB1
import Derived.Test.YtjmadnpcadidhaaDoorB4
import Derived.Test.YtjmadnpcadidhaaDoorB6
import Derived.Test.YtjmadnpcadidhaaDoorB7
import Derived.Test.YtjmadnpcadidhaaDoorA1
namespace Go.Proofs.YtjmadnpcadidhaaDoor
open Go.RowKit

/-- What is wrong with a line's words; 0: nothing. -/
def stepE (n : NetM) : List ByteArray → Int
  | [k, x] => if k = kNet then netE x else newNameE n x n.buses.length 16
  | [_, x, p, y] => loadE n x p y
  | [_, x, p, q, s] => tieE n x p q s
  | [k, x, p, q, y, z] => if k = kLine then lineE n x p q y z else genE n x p q y z
  | _ => 1
/-- The network behind a line. -/
def stepN (n : NetM) : List ByteArray → NetM
  | [k, x] => if k = kNet then { n with name := x } else { n with buses := n.buses ++ [x] }
  | [_, x, p, y] => { n with loads := n.loads ++ [loadM n x p y] }
  | [_, x, p, q, s] => { n with ties := n.ties ++ [tieM n x p q s] }
  | [k, x, p, q, y, z] => if k = kLine then { n with lines := n.lines ++ [lineM n x p q y z] } else { n with gens := n.gens ++ [genM n x p q y z] }
  | _ => n

theorem len2 {ws : List ByteArray} (h : ws.length = 2) : ∃ a b, ws = [a, b] := by
  match ws, h with
  | [a, b], _ => exact ⟨a, b, rfl⟩
theorem len4 {ws : List ByteArray} (h : ws.length = 4) : ∃ a b c d, ws = [a, b, c, d] := by
  match ws, h with
  | [a, b, c, d], _ => exact ⟨a, b, c, d, rfl⟩
theorem len5 {ws : List ByteArray} (h : ws.length = 5) : ∃ a b c d e, ws = [a, b, c, d, e] := by
  match ws, h with
  | [a, b, c, d, e], _ => exact ⟨a, b, c, d, e, rfl⟩
theorem len6 {ws : List ByteArray} (h : ws.length = 6) : ∃ a b c d e f, ws = [a, b, c, d, e, f] := by
  match ws, h with
  | [a, b, c, d, e, f], _ => exact ⟨a, b, c, d, e, f, rfl⟩

theorem readLine_any (b l g d t : Value) (bw ow cw : Nat) (n : NetM) (k : ByteArray) (r : List ByteArray) (B : Nat) (w : World) (ho : Owns w B b l g d t n) (hf : Fits n)
    (hlen : (k :: r).length = longK k) (hc : ∀ j (h : j < (k :: r).length), w.cell? ⟨bw, ow + j, none⟩ = some (.string (k :: r)[j]))
    (hbw : ∀ v ∈ [b, l, g, d, t], some bw ≠ v.ownBlock) (hcw : (k :: r).length ≤ cw) (hcm : cw ≤ 9223372036854775807) (hB : B ≤ w.heap.size) (hs : ∀ x ∈ k :: r, x.size ≤ 20000) :
    Calls Tryd.prog 12 #[.agg #[.string n.name, b, l, g, d, t], .slice (some ⟨bw, ow, none⟩) (k :: r).length cw] w fun e w' => ∃ v' : Value, e = .returned (.tuple #[v', .int .i64 (stepE n (k :: r))]) ∧
      (stepE n (k :: r) = 0 → ∃ b' l' g' d' t', v' = .agg #[.string (stepN n (k :: r)).name, b', l', g', d', t'] ∧ Owns w' B b' l' g' d' t' (stepN n (k :: r))) ∧ Below B w w' ∧ NetV v' := by
  have z0 : w.cell? ⟨bw, ow, none⟩ = some (.string k) := hc 0 (by simp)
  rcases kindCase k with ⟨hk, hL, -⟩ | ⟨hk, hL, -⟩ | ⟨hk, hL, -⟩ | ⟨hk, hL, -⟩ | ⟨hk, hL, -⟩ | ⟨hk, hL, -⟩ | ⟨-, hL, -⟩
  · rw [hL] at hlen
    obtain ⟨a, x, e⟩ := len2 hlen
    cases e
    subst hk
    refine (readLine_net b l g d t bw ow cw n x B w ho z0 (hc 1 (by simp)) hB (hs x (by simp))).mono ?_
    rintro e w' ⟨v', rfl, h1, h2, h9⟩
    exact ⟨v', by simp [stepE], fun h => ⟨b, l, g, d, t, by simpa [stepE, stepN] using h1 (by simpa [stepE] using h)⟩, h2, h9⟩
  · rw [hL] at hlen
    obtain ⟨a, x, e⟩ := len2 hlen
    cases e
    subst hk
    have hne : ¬ kBus = kNet := by decide
    refine (readLine_bus b l g d t bw ow cw n x B w ho hf z0 (hc 1 (by simp)) (hbw b (by simp)) hB (hs x (by simp))).mono ?_
    rintro e w' ⟨b', rfl, h1, h2⟩
    exact ⟨.agg #[.string n.name, b', l, g, d, t], by simp [stepE, hne], fun _ => ⟨b', l, g, d, t, by simp [stepN, hne], by simpa [stepN, hne] using h1⟩, h2, netV_of_owns h1⟩
  · rw [hL] at hlen
    obtain ⟨a, x, p, q, y, z, e⟩ := len6 hlen
    cases e
    subst hk
    refine (readLine_line b l g d t bw ow cw n x p q y z B w ho hf z0 (hc 1 (by simp)) (hc 2 (by simp)) (hc 3 (by simp)) (hc 4 (by simp)) (hc 5 (by simp)) (hbw l (by simp)) hcw hcm hB (hs x (by simp)) (hs y (by simp)) (hs z (by simp))).mono ?_
    rintro e w' ⟨v', rfl, h1, h2, h9⟩
    refine ⟨v', by simp [stepE], fun h => ?_, h2, h9⟩
    obtain ⟨l', rfl, h3⟩ := h1 (by simpa [stepE] using h)
    exact ⟨b, l', g, d, t, by simp [stepN], by simpa [stepN] using h3⟩
  · rw [hL] at hlen
    obtain ⟨a, x, p, q, y, z, e⟩ := len6 hlen
    cases e
    subst hk
    have hne : ¬ kGen = kLine := by decide
    refine (readLine_gen b l g d t bw ow cw n x p q y z B w ho hf z0 (hc 1 (by simp)) (hc 2 (by simp)) (hc 3 (by simp)) (hc 4 (by simp)) (hc 5 (by simp)) (hbw g (by simp)) hcw hcm hB (hs x (by simp)) (hs q (by simp)) (hs y (by simp)) (hs z (by simp))).mono ?_
    rintro e w' ⟨v', rfl, h1, h2, h9⟩
    refine ⟨v', by simp [stepE, hne], fun h => ?_, h2, h9⟩
    obtain ⟨g', rfl, h3⟩ := h1 (by simpa [stepE, hne] using h)
    exact ⟨b, l, g', d, t, by simp [stepN, hne], by simpa [stepN, hne] using h3⟩
  · rw [hL] at hlen
    obtain ⟨a, x, p, y, e⟩ := len4 hlen
    cases e
    subst hk
    refine (readLine_load b l g d t bw ow cw n x p y B w ho hf z0 (hc 1 (by simp)) (hc 2 (by simp)) (hc 3 (by simp)) (hbw d (by simp)) hcw hcm hB (hs x (by simp)) (hs y (by simp))).mono ?_
    rintro e w' ⟨v', rfl, h1, h2, h9⟩
    refine ⟨v', by simp [stepE], fun h => ?_, h2, h9⟩
    obtain ⟨d', rfl, h3⟩ := h1 (by simpa [stepE] using h)
    exact ⟨b, l, g, d', t, by simp [stepN], by simpa [stepN] using h3⟩
  · rw [hL] at hlen
    obtain ⟨a, x, p, q, s, e⟩ := len5 hlen
    cases e
    subst hk
    have fin : ∀ (e : Ending) (w' : World), (∃ v' : Value, e = .returned (.tuple #[v', .int .i64 (tieE n x p q s)]) ∧ (tieE n x p q s = 0 → ∃ t' : Value, v' = .agg #[.string n.name, b, l, g, d, t'] ∧ Owns w' B b l g d t' { n with ties := n.ties ++ [tieM n x p q s] }) ∧ Below B w w' ∧ NetV v') →
        ∃ v' : Value, e = .returned (.tuple #[v', .int .i64 (stepE n [kTie, x, p, q, s])]) ∧ (stepE n [kTie, x, p, q, s] = 0 → ∃ b' l' g' d' t', v' = .agg #[.string (stepN n [kTie, x, p, q, s]).name, b', l', g', d', t'] ∧ Owns w' B b' l' g' d' t' (stepN n [kTie, x, p, q, s])) ∧ Below B w w' ∧ NetV v' := by
      rintro e w' ⟨v', rfl, h1, h2, h9⟩
      refine ⟨v', by simp [stepE], fun h => ?_, h2, h9⟩
      obtain ⟨t', rfl, h3⟩ := h1 (by simpa [stepE] using h)
      exact ⟨b, l, g, d, t', by simp [stepN], by simpa [stepN] using h3⟩
    cases o1 : (s.toList == [111, 112, 101, 110]) with
    | true =>
      have o2 : (s.toList == [99, 108, 111, 115, 101, 100]) = false := by
        rw [lit_beq] at o1 ⊢
        have e := of_decide_eq_true o1
        rw [e]; decide
      exact (readLine_tie_open b l g d t bw ow cw n x p q s B w ho hf z0 (hc 1 (by simp)) (hc 2 (by simp)) (hc 3 (by simp)) (hc 4 (by simp)) (hbw t (by simp)) hcw hcm hB (hs x (by simp)) o1 o2).mono fin
    | false =>
      cases o2 : (s.toList == [99, 108, 111, 115, 101, 100]) with
      | true => exact (readLine_tie_closed b l g d t bw ow cw n x p q s B w ho hf z0 (hc 1 (by simp)) (hc 2 (by simp)) (hc 3 (by simp)) (hc 4 (by simp)) (hbw t (by simp)) hcw hcm hB (hs x (by simp)) o1 o2).mono fin
      | false => exact (readLine_tie_bad b l g d t bw ow cw n x p q s B w ho hf z0 (hc 1 (by simp)) (hc 2 (by simp)) (hc 3 (by simp)) (hc 4 (by simp)) (hbw t (by simp)) hcw hcm hB (hs x (by simp)) o1 o2).mono fin
  · rw [hL] at hlen; simp at hlen
end Go.Proofs.YtjmadnpcadidhaaDoor
/- The reading of a text as plain data: line by line, what is wrong first, or the network. -/
namespace Go.Proofs.YtjmadnpcadidhaaDoor
open Go.RowKit

def emptyNet : NetM := ⟨⟨#[]⟩, [], [], [], [], []⟩
def wordsB (line : ByteArray) : List ByteArray := (wordsL (bytesOf line)).map textOf
/-- From line i on: the fault (its code, its line) and the network. -/
def readGo : List ByteArray → Nat → NetM → Bool → (Int × Int) × NetM
  | [], i, n, begun => if begun = true then ((0, 0), n) else ((1, (i : Int)), emptyNet)
  | l :: rest, i, n, begun => match wordsB l with
    | [] => readGo rest (i + 1) n begun
    | k :: r => if (k :: r).length ≠ longK k ∨ (decide (k = kNet) = begun) then ((1, ((i + 1 : Nat) : Int)), emptyNet)
        else if stepE n (k :: r) ≠ 0 then ((stepE n (k :: r), ((i + 1 : Nat) : Int)), emptyNet) else readGo rest (i + 1) (stepN n (k :: r)) true
def linesB (s : ByteArray) : List ByteArray := (splitL (bytesOf s)).map textOf
def readNetM (s : ByteArray) : (Int × Int) × NetM := if 20000 < s.size then ((2, 0), emptyNet) else readGo (linesB s) 0 emptyNet false

theorem map_textOf {ws : List ByteArray} {l : List (List UInt8)} (h : ws.map bytesOf = l) : ws = l.map textOf := by
  rw [← h, List.map_map]
  have : (textOf ∘ bytesOf) = id := by funext s; exact textOf_bytesOf s
  rw [this, List.map_id]

theorem newName_room {n : NetM} {x : ByteArray} {a b : Int} (h : newNameE n x a b = 0) : a < b := by
  unfold newNameE at h
  split at h
  · omega
  · split at h
    · omega
    · split at h <;> omega
theorem fits_step {n : NetM} {k : ByteArray} {r : List ByteArray} (hf : Fits n) (h : stepE n (k :: r) = 0) : Fits (stepN n (k :: r)) := by
  obtain ⟨f1, f2, f3, f4, f5⟩ := hf
  unfold stepE at h
  unfold stepN
  split at h
  · rename_i x y e
    cases e
    split at h
    · rename_i hk; simp only [if_pos hk]; exact ⟨f1, f2, f3, f4, f5⟩
    · rename_i hk; simp only [if_neg hk]; have := newName_room h; exact ⟨by simp; omega, f2, f3, f4, f5⟩
  · rename_i x p y e
    cases e
    have h1 : newNameE n x n.loads.length 16 = 0 := by
      unfold loadE at h; split at h
      · omega
      · rename_i hh; simpa using hh
    have := newName_room h1
    exact ⟨f1, f2, f3, by simp; omega, f5⟩
  · rename_i x p q s e
    cases e
    have h1 : newNameE n x n.ties.length 24 = 0 := by
      unfold tieE at h; split at h
      · omega
      · rename_i hh; simpa using hh
    have := newName_room h1
    exact ⟨f1, f2, f3, f4, by simp; omega⟩
  · rename_i kk x p q y z e
    cases e
    split at h
    · rename_i hk
      simp only [if_pos hk]
      have h1 : newNameE n x n.lines.length 30 = 0 := by
        unfold lineE at h; split at h
        · omega
        · rename_i hh; simpa using hh
      have := newName_room h1
      exact ⟨f1, by simp; omega, f3, f4, f5⟩
    · rename_i hk
      simp only [if_neg hk]
      have h1 : newNameE n x n.gens.length 12 = 0 := by
        unfold genE at h; split at h
        · omega
        · rename_i hh; simpa using hh
      have := newName_room h1
      exact ⟨f1, f2, by simp; omega, f4, f5⟩
  · omega

theorem splitL_len (l : List UInt8) : (splitL l).length ≤ l.length + 1 ∧ ∀ x ∈ splitL l, x.length ≤ l.length := by
  induction l with
  | nil => simp [splitL]
  | cons c r ih =>
    rw [splitL]
    split
    · refine ⟨by simp; omega, fun x hx => ?_⟩
      rcases List.mem_cons.1 hx with rfl | hx
      · simp
      · have := ih.2 x hx; simp; omega
    · split
      · simp
      · rename_i h t e
        rw [e] at ih
        refine ⟨by have := ih.1; simp at this ⊢; omega, fun x hx => ?_⟩
        rcases List.mem_cons.1 hx with rfl | hx
        · have := ih.2 h (by simp); simp; omega
        · have := ih.2 x (by simp [hx]); simp; omega
theorem fieldsGo_len (l : List UInt8) : ∀ cur : List UInt8, ∀ x ∈ fieldsGo cur l, x.length ≤ cur.length + l.length := by
  induction l with
  | nil => intro cur x hx; unfold fieldsGo at hx; split at hx <;> simp at hx; subst hx; omega
  | cons c r ih =>
    intro cur x hx
    rw [fieldsGo] at hx
    split at hx
    · split at hx
      · have := ih [] x hx; simp at this ⊢; omega
      · rcases List.mem_cons.1 hx with rfl | hx
        · omega
        · have := ih [] x hx; simp at this ⊢; omega
    · have := ih (cur ++ [c]) x hx; simp at this ⊢; omega
theorem said_len (l : List UInt8) : (said l).length ≤ l.length := by
  unfold said
  have := (List.takeWhile_sublist (p := fun c : UInt8 => c != 35) (l := l)).length_le
  exact this
theorem size_textOf (l : List UInt8) : (textOf l).size = l.length := by rw [← length_bytesOf, bytesOf_textOf]
theorem words_size {line : ByteArray} : ∀ x ∈ wordsB line, x.size ≤ line.size := by
  intro x hx
  obtain ⟨l, hl, rfl⟩ := List.mem_map.1 hx
  rw [size_textOf]
  have h1 := fieldsGo_len _ _ l hl
  have h2 := said_len (bytesOf line)
  rw [length_bytesOf] at h2
  simp at h1; omega
theorem lines_size {s : ByteArray} : (linesB s).length ≤ s.size + 1 ∧ ∀ x ∈ linesB s, x.size ≤ s.size := by
  have h := splitL_len (bytesOf s)
  rw [length_bytesOf] at h
  refine ⟨by simp [linesB]; exact h.1, fun x hx => ?_⟩
  obtain ⟨l, hl, rfl⟩ := List.mem_map.1 hx
  rw [size_textOf]; exact h.2 l hl
theorem readGo_nil {l : ByteArray} {rest : List ByteArray} {i : Nat} {n : NetM} {bg : Bool} (h : wordsB l = []) : readGo (l :: rest) i n bg = readGo rest (i + 1) n bg := by
  rw [readGo, h]
theorem readGo_form {l : ByteArray} {rest : List ByteArray} {i : Nat} {n : NetM} {bg : Bool} {k : ByteArray} {r : List ByteArray} (h : wordsB l = k :: r) (hb : (k :: r).length ≠ longK k ∨ (decide (k = kNet) = bg)) : readGo (l :: rest) i n bg = ((1, ((i + 1 : Nat) : Int)), emptyNet) := by
  rw [readGo, h]; exact if_pos hb
theorem readGo_err {l : ByteArray} {rest : List ByteArray} {i : Nat} {n : NetM} {bg : Bool} {k : ByteArray} {r : List ByteArray} (h : wordsB l = k :: r) (hb : ¬ ((k :: r).length ≠ longK k ∨ (decide (k = kNet) = bg))) (he : stepE n (k :: r) ≠ 0) : readGo (l :: rest) i n bg = ((stepE n (k :: r), ((i + 1 : Nat) : Int)), emptyNet) := by
  rw [readGo, h]; exact (if_neg hb).trans (if_pos he)
theorem readGo_ok {l : ByteArray} {rest : List ByteArray} {i : Nat} {n : NetM} {bg : Bool} {k : ByteArray} {r : List ByteArray} (h : wordsB l = k :: r) (hb : ¬ ((k :: r).length ≠ longK k ∨ (decide (k = kNet) = bg))) (he : ¬ stepE n (k :: r) ≠ 0) : readGo (l :: rest) i n bg = readGo rest (i + 1) (stepN n (k :: r)) true := by
  rw [readGo, h]; exact (if_neg hb).trans (if_neg he)
end Go.Proofs.YtjmadnpcadidhaaDoor
/- Contract: a text's network, in the document's answer. -/
namespace Go.Proofs.YtjmadnpcadidhaaDoor
open Go.RowKit

abbrev zero6 : Value := .agg #[.string ⟨#[]⟩, .slice none 0 0, .slice none 0 0, .slice none 0 0, .slice none 0 0, .slice none 0 0]
theorem owns_empty (W : World) (B : Nat) : Owns W B (.slice none 0 0) (.slice none 0 0) (.slice none 0 0) (.slice none 0 0) (.slice none 0 0) emptyNet :=
  ⟨World.ownsRow_nil _ _ _ _, World.ownsRow_nil _ _ _ _, World.ownsRow_nil _ _ _ _, World.ownsRow_nil _ _ _ _, World.ownsRow_nil _ _ _ _⟩
/-- What stands between two lines: the answer's boxes at N and N + 1, the network's at N + 2, the lines. -/
structure RNI (w : World) (B : Nat) (vl : Value) (lines : List ByteArray) (W : World) (n : NetM) (b l g d t : Value) : Prop where
  box : Box6 W (w.heap.size + 2) (.string n.name) b l g d t
  res : ∃ u0 u1 u2 u3 u4 u5, Box6 W w.heap.size u0 u1 u2 u3 u4 u5
  f0 : ∃ u, W.cell? ⟨w.heap.size + 1, 0, none⟩ = some u
  f1 : ∃ u, W.cell? ⟨w.heap.size + 1, 1, none⟩ = some u
  ff : ∀ j, W.frozen? ⟨w.heap.size + 1, j, none⟩ = false
  own : Owns W B b l g d t n
  txt : TextsAt W vl lines
  size : B ≤ W.heap.size
  below : Below w.heap.size w W
theorem RNI.step {w W W' : World} {B : Nat} {vl : Value} {lines : List ByteArray} {n : NetM} {b l g d t : Value} (h : RNI w B vl lines W n b l g d t) (hB : w.heap.size + 3 ≤ B) (hx : Below W.heap.size W W') : RNI w B vl lines W' n b l g d t := by
  obtain ⟨u0, u1, u2, u3, u4, u5, hr⟩ := h.res
  obtain ⟨v0, h0⟩ := h.f0
  obtain ⟨v1, h1⟩ := h.f1
  have hs := h.size
  exact ⟨h.box.below hx (by omega), ⟨u0, u1, u2, u3, u4, u5, hr.below hx (by omega)⟩, ⟨v0, (hx.cell (p := ⟨w.heap.size + 1, 0, none⟩) (by show w.heap.size + 1 < _; omega)).trans h0⟩, ⟨v1, (hx.cell (p := ⟨w.heap.size + 1, 1, none⟩) (by show w.heap.size + 1 < _; omega)).trans h1⟩,
    fun j => (hx.frozen (p := ⟨w.heap.size + 1, j, none⟩) (by show w.heap.size + 1 < _; omega)).trans (h.ff j), h.own.below hx (Nat.le_refl _), h.txt.below hx (Nat.le_refl _), Nat.le_trans hs hx.size, h.below.trans (hx.mono h.below.size)⟩

theorem Box6.new (W : World) (c0 c1 c2 c3 c4 c5 : Value) : Box6 (W.alloc (.cells #[c0, c1, c2, c3, c4, c5] 28)) W.heap.size c0 c1 c2 c3 c4 c5 :=
  ⟨by simp, by simp, by simp, by simp, by simp, by simp, fun j => by simp, IsBox.new W _⟩
theorem RNI.init {w Wa Wb Wc W1 : World} {vl : Value} {lines : List ByteArray}
    (ha : w.alloc (Obj.cells #[Value.string { data := #[] }, Value.slice none 0 0, Value.slice none 0 0, Value.slice none 0 0, Value.slice none 0 0, Value.slice none 0 0] 28) = Wa) (hb : Wa.alloc (Obj.cells #[Value.int IntKind.i64 0, Value.int IntKind.i64 0] 31) = Wb)
    (hcc : Wb.alloc (Obj.cells #[Value.string { data := #[] }, Value.slice none 0 0, Value.slice none 0 0, Value.slice none 0 0, Value.slice none 0 0, Value.slice none 0 0] 28) = Wc)
    (hB : Below Wc.heap.size Wc W1) (ht : TextsAt W1 vl lines) : RNI w W1.heap.size vl lines W1 emptyNet (.slice none 0 0) (.slice none 0 0) (.slice none 0 0) (.slice none 0 0) (.slice none 0 0) := by
  have sa : Wa.heap.size = w.heap.size + 1 := by rw [← ha]; simp
  have sb : Wb.heap.size = w.heap.size + 2 := by rw [← hb]; simp [sa]
  have sc : Wc.heap.size = w.heap.size + 3 := by rw [← hcc]; simp [sb]
  have A := Box6.new w (.string ⟨#[]⟩) (.slice none 0 0) (.slice none 0 0) (.slice none 0 0) (.slice none 0 0) (.slice none 0 0)
  rw [ha] at A
  have C := Box6.new Wb (.string ⟨#[]⟩) (.slice none 0 0) (.slice none 0 0) (.slice none 0 0) (.slice none 0 0) (.slice none 0 0)
  rw [hcc, sb] at C
  have bab : Below Wa.heap.size Wa Wb := by rw [← hb]; exact (Below.refl _ _).alloc (Nat.le_refl _) _
  have bbc : Below Wb.heap.size Wb Wc := by rw [← hcc]; exact (Below.refl _ _).alloc (Nat.le_refl _) _
  have bwa : Below w.heap.size w Wa := by rw [← ha]; exact (Below.refl _ _).alloc (Nat.le_refl _) _
  have d0 : Wb.cell? ⟨w.heap.size + 1, 0, none⟩ = some (.int .i64 0) := by rw [← hb, ← sa]; simp
  have d1 : Wb.cell? ⟨w.heap.size + 1, 1, none⟩ = some (.int .i64 0) := by rw [← hb, ← sa]; simp
  have df : ∀ j, Wb.frozen? ⟨w.heap.size + 1, j, none⟩ = false := fun j => by rw [← hb, ← sa]; simp
  have hb1 : Below Wb.heap.size Wb W1 := bbc.trans (hB.mono (by omega))
  refine ⟨C.below hB (by omega), ⟨_, _, _, _, _, _, (A.below bab (by omega)).below hb1 (by omega)⟩, ⟨_, (hb1.cell (p := ⟨w.heap.size + 1, 0, none⟩) (by show w.heap.size + 1 < _; omega)).trans d0⟩, ⟨_, (hb1.cell (p := ⟨w.heap.size + 1, 1, none⟩) (by show w.heap.size + 1 < _; omega)).trans d1⟩,
    fun j => (hb1.frozen (p := ⟨w.heap.size + 1, j, none⟩) (by show w.heap.size + 1 < _; omega)).trans (df j), owns_empty _ _, ht, Nat.le_refl _, ?_⟩
  exact (bwa.trans (bab.mono (by omega))).trans (hb1.mono (by omega))

theorem fin_below {w W : World} (h : Below w.heap.size w W) (c0 c1 c2 c3 c4 c5 d0 d1 : Value) :
    Below w.heap.size w ((((((((W.setCell ⟨w.heap.size, 0, none⟩ c0).setCell ⟨w.heap.size, 1, none⟩ c1).setCell ⟨w.heap.size, 2, none⟩ c2).setCell ⟨w.heap.size, 3, none⟩ c3).setCell ⟨w.heap.size, 4, none⟩ c4).setCell ⟨w.heap.size, 5, none⟩ c5).setCell ⟨w.heap.size + 1, 0, none⟩ d0).setCell ⟨w.heap.size + 1, 1, none⟩ d1) := by
  have k : w.heap.size ≤ w.heap.size := Nat.le_refl _
  have k' : w.heap.size ≤ w.heap.size + 1 := Nat.le_succ _
  exact (((((((h.setCell (p := ⟨w.heap.size, 0, none⟩) k c0).setCell (p := ⟨w.heap.size, 1, none⟩) k c1).setCell (p := ⟨w.heap.size, 2, none⟩) k c2).setCell (p := ⟨w.heap.size, 3, none⟩) k c3).setCell (p := ⟨w.heap.size, 4, none⟩) k c4).setCell (p := ⟨w.heap.size, 5, none⟩) k c5).setCell (p := ⟨w.heap.size + 1, 0, none⟩) k' d0).setCell (p := ⟨w.heap.size + 1, 1, none⟩) k' d1
theorem own_setLow {W : World} {B e sz n : Nat} {v : Value} {xs : List Value} (h : W.ownsRow B e sz v n xs) {p : Addr} (hp : p.block < B) (u : Value) : (W.setCell p u).ownsRow B e sz v n xs := by
  refine ⟨h.1, ?_⟩
  rcases h.2 with h2 | ⟨g, cap, cur, h3, h4, h5, h6⟩
  · exact .inl h2
  · exact .inr ⟨g, cap, cur, h3, h4, (Below.heap_setCell W p u g (by omega)).trans h5, h6⟩
theorem Owns.setLow {W : World} {B : Nat} {b l g d t : Value} {n : NetM} (h : Owns W B b l g d t n) {p : Addr} (hp : p.block < B) (u : Value) : Owns (W.setCell p u) B b l g d t n :=
  ⟨own_setLow h.hb hp u, own_setLow h.hl hp u, own_setLow h.hg hp u, own_setLow h.hd hp u, own_setLow h.ht hp u⟩
theorem rowAt_set {W : World} {v : Value} {n sz : Nat} {xs : List Value} (h : RowAt W v n sz xs) (p : Addr) (hp : ∀ b off m c, v = .slice (some ⟨b, off, none⟩) m c → b ≠ p.block) (u : Value) : RowAt (W.setCell p u) v n sz xs := by
  obtain ⟨h1, a, cap, rfl, hc⟩ := h
  refine ⟨h1, a, cap, rfl, fun j x hj => ?_⟩
  obtain ⟨b, off, rfl, hcell⟩ := hc j x hj
  exact ⟨b, off, rfl, (World.cell?_of_block (w := W) (a := ⟨b, off + j, none⟩) (Below.heap_setCell W p u b (hp b off _ _ rfl))).trans hcell⟩
theorem cell_set_same {W : World} {k j : Nat} {x u : Value} (h : W.cell? ⟨k, j, none⟩ = some x) : (W.setCell ⟨k, j, none⟩ u).cell? ⟨k, j, none⟩ = some u := World.cell?_setCell_same' _ _ _ (by rw [h]; rfl)
theorem cell_set_off {W : World} {k j j' : Nat} {x u : Value} (h : W.cell? ⟨k, j, none⟩ = some x) (hj : j' ≠ j) : (W.setCell ⟨k, j', none⟩ u).cell? ⟨k, j, none⟩ = some x := by
  exact (World.cell?_setCell_other W ⟨k, j', none⟩ ⟨k, j, none⟩ u (by intro e; cases e; exact hj rfl)).trans h
/-- Six stores fill a network's box anew. -/
theorem box6_fill {W : World} {k : Nat} {x0 x1 x2 x3 x4 x5 : Value} (h : Box6 W k x0 x1 x2 x3 x4 x5) (c0 c1 c2 c3 c4 c5 : Value) :
    Box6 ((((((W.setCell ⟨k, 0, none⟩ c0).setCell ⟨k, 1, none⟩ c1).setCell ⟨k, 2, none⟩ c2).setCell ⟨k, 3, none⟩ c3).setCell ⟨k, 4, none⟩ c4).setCell ⟨k, 5, none⟩ c5) k c0 c1 c2 c3 c4 c5 := by
  refine ⟨?_, ?_, ?_, ?_, ?_, ?_, fun j => ?_, (((((h.box.setCell _ _).setCell _ _).setCell _ _).setCell _ _).setCell _ _).setCell _ _⟩
  · exact cell_set_off (cell_set_off (cell_set_off (cell_set_off (cell_set_off (cell_set_same h.h0) (by decide)) (by decide)) (by decide)) (by decide)) (by decide)
  · exact cell_set_off (cell_set_off (cell_set_off (cell_set_off (cell_set_same (cell_set_off h.h1 (by decide))) (by decide)) (by decide)) (by decide)) (by decide)
  · exact cell_set_off (cell_set_off (cell_set_off (cell_set_same (cell_set_off (cell_set_off h.h2 (by decide)) (by decide))) (by decide)) (by decide)) (by decide)
  · exact cell_set_off (cell_set_off (cell_set_same (cell_set_off (cell_set_off (cell_set_off h.h3 (by decide)) (by decide)) (by decide))) (by decide)) (by decide)
  · exact cell_set_off (cell_set_same (cell_set_off (cell_set_off (cell_set_off (cell_set_off h.h4 (by decide)) (by decide)) (by decide)) (by decide))) (by decide)
  · exact cell_set_same (cell_set_off (cell_set_off (cell_set_off (cell_set_off (cell_set_off h.h5 (by decide)) (by decide)) (by decide)) (by decide)) (by decide))
  · simp only [World.frozen?_setCell]; exact h.f j
/-- What stands between two lines stands again when the network's box is filled anew. -/
theorem RNI.fill {w W : World} {B : Nat} {vl : Value} {lines : List ByteArray} {n' : NetM} {x0 x1 x2 x3 x4 x5 b' l' g' d' t' : Value} (hbox : Box6 W (w.heap.size + 2) x0 x1 x2 x3 x4 x5) (hres : ∃ u0 u1 u2 u3 u4 u5, Box6 W w.heap.size u0 u1 u2 u3 u4 u5)
    (hf0 : ∃ u, W.cell? ⟨w.heap.size + 1, 0, none⟩ = some u) (hf1 : ∃ u, W.cell? ⟨w.heap.size + 1, 1, none⟩ = some u) (hff : ∀ j, W.frozen? ⟨w.heap.size + 1, j, none⟩ = false) (htxt : TextsAt W vl lines) (hsz : B ≤ W.heap.size) (hbel : Below w.heap.size w W) (hB : w.heap.size + 3 ≤ B) (ho : Owns W B b' l' g' d' t' n')
    (hv : ∀ bb off m c, vl = .slice (some ⟨bb, off, none⟩) m c → w.heap.size + 3 ≤ bb) :
    RNI w B vl lines ((((((W.setCell ⟨w.heap.size + 1 + 1, 0, none⟩ (.string n'.name)).setCell ⟨w.heap.size + 1 + 1, 1, none⟩ b').setCell ⟨w.heap.size + 1 + 1, 2, none⟩ l').setCell ⟨w.heap.size + 1 + 1, 3, none⟩ g').setCell ⟨w.heap.size + 1 + 1, 4, none⟩ d').setCell ⟨w.heap.size + 1 + 1, 5, none⟩ t') n' b' l' g' d' t' := by
  obtain ⟨u0, u1, u2, u3, u4, u5, hr⟩ := hres
  obtain ⟨v0, h0⟩ := hf0
  obtain ⟨v1, h1⟩ := hf1
  have ne : w.heap.size ≠ w.heap.size + 1 + 1 := by omega
  have ne1 : w.heap.size + 1 ≠ w.heap.size + 1 + 1 := by omega
  have oth : ∀ {W : World} {j : Nat} {x : Value} (i : Nat) (u : Value), W.cell? ⟨w.heap.size + 1, j, none⟩ = some x → (W.setCell ⟨w.heap.size + 1 + 1, i, none⟩ u).cell? ⟨w.heap.size + 1, j, none⟩ = some x := fun {W j x} i u hx =>
    (World.cell?_of_block (w := W) (a := ⟨w.heap.size + 1, j, none⟩) (Below.heap_setCell W ⟨w.heap.size + 1 + 1, i, none⟩ u _ ne1)).trans hx
  have rw' : ∀ {W : World} (i : Nat) (u : Value), RowAt W vl lines.length 1 (lines.map Value.string) → RowAt (W.setCell ⟨w.heap.size + 1 + 1, i, none⟩ u) vl lines.length 1 (lines.map Value.string) := fun i u hx =>
    rowAt_set hx _ (fun bb off m c e => by have := hv bb off m c e; show bb ≠ w.heap.size + 1 + 1; omega) u
  have lo : ∀ i, (⟨w.heap.size + 1 + 1, i, none⟩ : Addr).block < B := fun i => by show w.heap.size + 1 + 1 < B; omega
  have ge : ∀ i, w.heap.size ≤ (⟨w.heap.size + 1 + 1, i, none⟩ : Addr).block := fun i => by show w.heap.size ≤ w.heap.size + 1 + 1; omega
  refine ⟨box6_fill hbox _ _ _ _ _ _, ⟨u0, u1, u2, u3, u4, u5, (((((hr.setOther _ ne _).setOther _ ne _).setOther _ ne _).setOther _ ne _).setOther _ ne _).setOther _ ne _⟩, ⟨v0, oth 5 _ (oth 4 _ (oth 3 _ (oth 2 _ (oth 1 _ (oth 0 _ h0)))))⟩, ⟨v1, oth 5 _ (oth 4 _ (oth 3 _ (oth 2 _ (oth 1 _ (oth 0 _ h1)))))⟩, fun j => ?_,
    (((((ho.setLow (lo 0) _).setLow (lo 1) _).setLow (lo 2) _).setLow (lo 3) _).setLow (lo 4) _).setLow (lo 5) _, rw' 5 _ (rw' 4 _ (rw' 3 _ (rw' 2 _ (rw' 1 _ (rw' 0 _ htxt))))), ?_, ?_⟩
  · simp only [World.frozen?_setCell]; exact hff j
  · have := hsz; simpa [World.setCell] using this
  · exact (((((hbel.setCell (ge 0) _).setCell (ge 1) _).setCell (ge 2) _).setCell (ge 3) _).setCell (ge 4) _).setCell (ge 5) _
theorem fin_owns {w W : World} {B : Nat} {b l g d t : Value} {n : NetM} (h : Owns W B b l g d t n) (hB : w.heap.size + 1 < B) (c0 c1 c2 c3 c4 c5 d0 d1 : Value) :
    Owns ((((((((W.setCell ⟨w.heap.size, 0, none⟩ c0).setCell ⟨w.heap.size, 1, none⟩ c1).setCell ⟨w.heap.size, 2, none⟩ c2).setCell ⟨w.heap.size, 3, none⟩ c3).setCell ⟨w.heap.size, 4, none⟩ c4).setCell ⟨w.heap.size, 5, none⟩ c5).setCell ⟨w.heap.size + 1, 0, none⟩ d0).setCell ⟨w.heap.size + 1, 1, none⟩ d1) B b l g d t n := by
  have k : w.heap.size < B := by omega
  exact (((((((h.setLow (p := ⟨w.heap.size, 0, none⟩) k c0).setLow (p := ⟨w.heap.size, 1, none⟩) k c1).setLow (p := ⟨w.heap.size, 2, none⟩) k c2).setLow (p := ⟨w.heap.size, 3, none⟩) k c3).setLow (p := ⟨w.heap.size, 4, none⟩) k c4).setLow (p := ⟨w.heap.size, 5, none⟩) k c5).setLow (p := ⟨w.heap.size + 1, 0, none⟩) hB d0).setLow (p := ⟨w.heap.size + 1, 1, none⟩) hB d1
theorem Owns.down {W : World} {B B' : Nat} {b l g d t : Value} {n : NetM} (h : Owns W B b l g d t n) (hB : B' ≤ B) : Owns W B' b l g d t n := by
  have k : ∀ {e sz n : Nat} {v : Value} {xs : List Value}, W.ownsRow B e sz v n xs → W.ownsRow B' e sz v n xs := fun h => by
    refine ⟨h.1, ?_⟩
    rcases h.2 with h2 | ⟨g, cap, cur, h3, h4, h5⟩
    · exact .inl h2
    · exact .inr ⟨g, cap, cur, h3, by omega, h5⟩
  exact ⟨k h.hb, k h.hl, k h.hg, k h.hd, k h.ht⟩

set_option maxRecDepth 100000 in
set_option maxHeartbeats 1000000 in
theorem ReadNet_long (s : ByteArray) (w : World) (hs : 20000 < s.size) (hm : s.size ≤ 9223372036854775807) :
    Calls Tryd.prog 5 #[.string s] w fun e w' => e = .returned (.tuple #[zero6, .agg #[.int .i64 2, .int .i64 0]]) ∧ Below w.heap.size w w' := by
  go_enter Tryd.func5, Tryd.ntmps5
  go_wp2
  refine bodyPost_ret (v := .tuple #[zero6, .agg #[.int .i64 2, .int .i64 0]]) (by simp [results, Tryd.results5, go_sem, zero6]) rfl ⟨rfl, ?_⟩
  exact ((Below.refl _ w).alloc (Nat.le_refl _) _).alloc (by simp) _

set_option maxRecDepth 100000 in
set_option maxHeartbeats 1000000 in
theorem ReadNet_short (s : ByteArray) (w : World) (hs : s.size ≤ 20000) :
    Calls Tryd.prog 5 #[.string s] w fun e w' => ∃ b l g d t, e = .returned (.tuple #[.agg #[.string (readGo (linesB s) 0 emptyNet false).2.name, b, l, g, d, t], .agg #[.int .i64 (readGo (linesB s) 0 emptyNet false).1.1, .int .i64 (readGo (linesB s) 0 emptyNet false).1.2]]) ∧
      Owns w' w.heap.size b l g d t (readGo (linesB s) 0 emptyNet false).2 ∧ Below w.heap.size w w' := by
  obtain ⟨R, hR⟩ : ∃ R, readGo (linesB s) 0 emptyNet false = R := ⟨_, rfl⟩
  have HR := hide' hR
  rw [hR]
  clear hR
  go_enter Tryd.func5, Tryd.ntmps5
  go_wp2_with fail
  refine (linesOf_any s _ hs).mono ?_
  rintro e W1 ⟨vl, lines, rfl, hown, hlines, hB1⟩
  have hI := RNI.init (w := w) rfl rfl rfl hB1 (rowAt_of_own hown)
  have HL : Hid (lines = linesB s) := map_textOf hlines
  have hsz1 : w.heap.size + 3 ≤ W1.heap.size := by have := hB1.size; simpa using this
  have hlen : lines.length ≤ 20001 := by rw [HL.out]; have := (lines_size (s := s)).1; omega
  have hls : Hid (∀ x ∈ lines, x.size ≤ 20000) := by rw [HL.out]; intro x hx; have := (lines_size (s := s)).2 x hx; omega
  have HI := hide' hI
  obtain ⟨al, cl, rfl⟩ := own_slice hown
  have HAL : Hid (∀ bl ol, al = some ⟨bl, ol, none⟩ → w.heap.size + 3 ≤ bl ∧ bl < W1.heap.size) := fun bl ol e => by
    subst e
    have := hown.lt bl rfl
    have s3 : (((w.alloc (Obj.cells #[Value.string { data := #[] }, Value.slice none 0 0, Value.slice none 0 0, Value.slice none 0 0, Value.slice none 0 0, Value.slice none 0 0] 28)).alloc (Obj.cells #[Value.int IntKind.i64 0, Value.int IntKind.i64 0] 31)).alloc (Obj.cells #[Value.string { data := #[] }, Value.slice none 0 0, Value.slice none 0 0, Value.slice none 0 0, Value.slice none 0 0, Value.slice none 0 0] 28)).heap.size = w.heap.size + 3 := by simp
    omega
  clear hown hlines hB1 hI
  go_wp2_with fail
  go_loopw [5, 7] (fun sb si W => ∃ (k : Nat) (n : NetM) (bg : Bool) (b l g d t : Value), sb = .bool bg ∧ si = .int .i64 k ∧ k ≤ lines.length ∧ Hid (Fits n ∧ readGo (lines.drop k) k n bg = R ∧ RNI w W1.heap.size (.slice al lines.length cl) lines W n b l g d t)) (fun _ si _ => lines.length - (intOf si).toNat)
  case atStart => exact ⟨0, emptyNet, false, _, _, _, _, _, rfl, rfl, by omega, ⟨by decide, by decide, by decide, by decide, by decide⟩, by rw [List.drop_zero, HL.out]; exact HR.out, HI.out⟩
  case round =>
    obtain ⟨k, n, bg, b, l, g, d, t, rfl, rfl, hk, HX⟩ := hrel
    by_cases hlt : k < lines.length
    · obtain ⟨-, _, _, e1, hc⟩ := HX.out.2.2.txt
      cases e1
      obtain ⟨bl, ol, rfl, hck⟩ := hc k (.string lines[k]) (by simp [hlt])
      have hsz := hls.out _ (List.getElem_mem hlt)
      clear hc
      go_wp2_with fail
      refine (wordsOf_any lines[k] _ hsz).mono ?_
      rintro e W2 ⟨vw, ws, rfl, hown, hws, hwl, hB2⟩
      have HWS : Hid (ws = wordsB lines[k]) := map_textOf hws
      have HX2 := hide' (HX.out.2.2.step hsz1 hB2)
      clear hws
      have hdrop : lines.drop k = lines[k] :: lines.drop (k + 1) := List.drop_eq_getElem_cons hlt
      have HD := hide' hdrop
      clear hdrop
      cases ws with
      | nil =>
        obtain ⟨aw, cw, rfl⟩ := own_slice hown
        have HP : Hid (Fits n ∧ readGo (lines.drop (k + 1)) (k + 1) n bg = R ∧ RNI w W1.heap.size (.slice (some ⟨bl, ol, none⟩) lines.length cl) lines W2 n b l g d t) := by
          refine ⟨HX.out.1, ?_, HX2.out⟩
          have h := HX.out.2.1
          rw [HD.out, readGo_nil HWS.out.symm] at h
          exact h
        clear HX HX2 hown HD HWS
        go_wp2
        go_roundw
        case rel => exact ⟨k + 1, n, bg, b, l, g, d, t, rfl, by go_num, by omega, HP⟩
        case measure => simp [intOf]; omega
      | cons k0 r =>
        obtain ⟨bw, cw, rfl, hbw, hcc, hnc, hcm⟩ := own_cells hown (by simp)
        have z0 : W2.cell? ⟨bw, 0, none⟩ = some (.string k0) := hcc 0 _ rfl
        by_cases hl : (k0 :: r).length = longK k0
        · have hne : (((r.length : Int) + 1) != (longK k0 : Int)) = false := by
            rw [bne_eq_false_iff_eq]; rw [← hl]; simp
          have kb := lit_beq k0 [110, 101, 116]
          by_cases heq : (k0.toList == [110, 101, 116]) = bg
          · have HP : Hid (R = ((1, ((k + 1 : Nat) : Int)), emptyNet)) := by
              have h := HX.out.2.1
              rw [HD.out, readGo_form HWS.out.symm (.inr (kb.symm.trans heq))] at h
              exact h.symm
            obtain ⟨u0, u1, u2, u3, u4, u5, Y1⟩ := HX2.out.res
            obtain ⟨v0, p0⟩ := HX2.out.f0
            obtain ⟨v1, p1⟩ := HX2.out.f1
            have fp := HX2.out.ff
            have y0 := Y1.h0
            have y1 := Y1.h1
            have y2 := Y1.h2
            have y3 := Y1.h3
            have y4 := Y1.h4
            have y5 := Y1.h5
            have fy := Y1.f
            clear Y1
            have hBW := hide' HX2.out.below
            clear HX HX2 hown HD HWS hl hcc kb
            cases bg
            all_goals
              go_wp2_with (go_at_call 11; refine (longOf_any k0 _).mono ?_; rintro e w' ⟨rfl, hw'⟩; obtain rfl := hw'.symm)
              refine bodyPost_ret (v := .tuple #[zero6, .agg #[.int .i64 1, .int .i64 ((k : Int) + 1)]]) (by simp [results, Tryd.results5, go_sem, y0, y1, y2, y3, y4, y5, p0, p1]) rfl ?_
              obtain rfl := HP.out
              exact ⟨_, _, _, _, _, rfl, owns_empty _ _, fin_below hBW.out _ _ _ _ _ _ _ _⟩
          · have HFO : Hid (¬ ((k0 :: r).length ≠ longK k0 ∨ (decide (k0 = kNet) = bg))) := fun h => h.elim (fun h => h hl) (fun h => heq (kb.trans h))
            have hnb : (k0.toList == [110, 101, 116]) = !bg := by cases bg <;> simpa using heq
            obtain ⟨ab, cb, rfl⟩ := own_slice HX2.out.own.hb
            obtain ⟨al', cl', rfl⟩ := own_slice HX2.out.own.hl
            obtain ⟨ag, cg, rfl⟩ := own_slice HX2.out.own.hg
            obtain ⟨ad, cd, rfl⟩ := own_slice HX2.out.own.hd
            obtain ⟨at', ct, rfl⟩ := own_slice HX2.out.own.ht
            have X := HX2.out.box
            have x0 : W2.cell? ⟨w.heap.size + 1 + 1, 0, none⟩ = some (.string n.name) := X.h0
            have x1 : W2.cell? ⟨w.heap.size + 1 + 1, 1, none⟩ = some (.slice ab n.buses.length cb) := X.h1
            have x2 : W2.cell? ⟨w.heap.size + 1 + 1, 2, none⟩ = some (.slice al' n.lines.length cl') := X.h2
            have x3 : W2.cell? ⟨w.heap.size + 1 + 1, 3, none⟩ = some (.slice ag n.gens.length cg) := X.h3
            have x4 : W2.cell? ⟨w.heap.size + 1 + 1, 4, none⟩ = some (.slice ad n.loads.length cd) := X.h4
            have x5 : W2.cell? ⟨w.heap.size + 1 + 1, 5, none⟩ = some (.slice at' n.ties.length ct) := X.h5
            have HRD : Hid (Calls Tryd.prog 12 #[.agg #[.string n.name, .slice ab n.buses.length cb, .slice al' n.lines.length cl', .slice ag n.gens.length cg, .slice ad n.loads.length cd, .slice at' n.ties.length ct], .slice (some ⟨bw, 0, none⟩) (k0 :: r).length cw] W2 fun e w' => ∃ v' : Value, e = .returned (.tuple #[v', .int .i64 (stepE n (k0 :: r))]) ∧
                (stepE n (k0 :: r) = 0 → ∃ b' l' g' d' t', v' = .agg #[.string (stepN n (k0 :: r)).name, b', l', g', d', t'] ∧ Owns w' W1.heap.size b' l' g' d' t' (stepN n (k0 :: r))) ∧ Below W1.heap.size W2 w' ∧ NetV v') := by
              refine readLine_any _ _ _ _ _ bw 0 cw n k0 r W1.heap.size W2 HX2.out.own HX.out.1 hl (fun j h => hcc j _ (by rw [List.getElem?_map, List.getElem?_eq_getElem h]; rfl)) ?_ hnc (by unfold maxLen at hcm; exact hcm) HX2.out.size ?_
              · have lt : ∀ {e sz m : Nat} {v : Value} {xs : List Value}, wr.ownsRow W1.heap.size e sz v m xs → some bw ≠ v.ownBlock := fun h e => by
                  have := (h.lt bw e.symm).2; omega
                have o := HX.out.2.2.own
                intro v hv
                simp only [List.mem_cons, List.not_mem_nil, or_false] at hv
                rcases hv with rfl | rfl | rfl | rfl | rfl
                · exact lt o.hb
                · exact lt o.hl
                · exact lt o.hg
                · exact lt o.hd
                · exact lt o.ht
              · intro x hx
                have := words_size x (by rw [← HWS.out]; exact hx)
                omega
            have HLN := hide' hl
            obtain ⟨u0, u1, u2, u3, u4, u5, Y0⟩ := HX2.out.res
            obtain ⟨v0, p0'⟩ := HX2.out.f0
            obtain ⟨v1, p1'⟩ := HX2.out.f1
            have fp' := HX2.out.ff
            have HY := hide' Y0
            have HP0 := hide' p0'
            have HP1 := hide' p1'
            have HFP := hide' fp'
            clear X hcc hown kb hl Y0 p0' p1' fp'
            obtain ⟨E, hE⟩ : ∃ E, stepE n (k0 :: r) = E := ⟨_, rfl⟩
            have HE := hide' hE
            rw [hE] at HRD
            clear hE
            cases bg
            all_goals
              go_wp2_with (first | (go_at_call 11; refine (longOf_any k0 _).mono ?_; rintro e w' ⟨rfl, hw'⟩; obtain rfl := hw'.symm))
              refine HRD.out.mono ?_
              rintro e W3 ⟨v', rfl, hv, hB3, hnv⟩
              have HV := hide' hv
              have HB3 := hide' hB3
              obtain ⟨nm, a1, a2, a3, a4, a5, m1, c1, m2, c2, m3, c3, m4, c4, m5, c5, rfl⟩ := hnv
              clear hv hB3
              have Y1 := HY.out.below HB3.out (by omega)
              have y0 := later Y1.h0
              have y1 := later Y1.h1
              have y2 := later Y1.h2
              have y3 := later Y1.h3
              have y4 := later Y1.h4
              have y5 := later Y1.h5
              have fy : ∀ o j, (W3.alloc o).frozen? ⟨w.heap.size, j, none⟩ = false := fun o j => (World.frozen?_of_block (w := W3) (a := ⟨w.heap.size, j, none⟩) (Below.heap_alloc W3 o _ Y1.lt)).trans (Y1.f j)
              have q0 : W3.cell? ⟨w.heap.size + 1, 0, none⟩ = some v0 := (HB3.out.cell (p := ⟨w.heap.size + 1, 0, none⟩) (by show w.heap.size + 1 < _; omega)).trans HP0.out
              have q1 : W3.cell? ⟨w.heap.size + 1, 1, none⟩ = some v1 := (HB3.out.cell (p := ⟨w.heap.size + 1, 1, none⟩) (by show w.heap.size + 1 < _; omega)).trans HP1.out
              have qlt : w.heap.size + 1 < W3.heap.size := World.block_lt_of_cell? W3 _ q0
              have p0 := later q0
              have p1 := later q1
              have fp : ∀ o j, (W3.alloc o).frozen? ⟨w.heap.size + 1, j, none⟩ = false := fun o j => (World.frozen?_of_block (w := W3) (a := ⟨w.heap.size + 1, j, none⟩) (Below.heap_alloc W3 o _ qlt)).trans ((HB3.out.frozen (p := ⟨w.heap.size + 1, j, none⟩) (by show w.heap.size + 1 < _; omega)).trans (HFP.out j))
              by_cases hE : E ≠ 0
              · have hE' : (E != 0) = true := by simpa using hE
                have HP : Hid (R = ((E, ((k + 1 : Nat) : Int)), emptyNet)) := by
                  have h := HX.out.2.1
                  rw [HD.out, readGo_err HWS.out.symm HFO.out (by rw [HE.out]; exact hE), HE.out] at h
                  exact h.symm
                have hBW := hide' (HX2.out.below.trans (HB3.out.mono (by omega)))
                clear HX HX2 HD HWS HFO HRD HY Y1 HP0 HP1 HFP HE HV HLN
                go_wp2
                refine bodyPost_ret (v := .tuple #[zero6, .agg #[.int .i64 E, .int .i64 ((k : Int) + 1)]]) (by simp [results, Tryd.results5, go_sem, y0, y1, y2, y3, y4, y5, p0, p1]) rfl ?_
                obtain rfl := HP.out
                exact ⟨_, _, _, _, _, rfl, owns_empty _ _, fin_below (hBW.out.alloc hBW.out.size _) _ _ _ _ _ _ _ _⟩
              · have hE' : (E != 0) = false := by simpa using hE
                have hE0 := Decidable.of_not_not hE
                obtain ⟨b', l', g', d', t', e1, ho⟩ := HV.out hE0
                simp only [Value.agg.injEq, Array.mk.injEq, List.cons.injEq, Value.string.injEq, and_true] at e1
                obtain ⟨rfl, rfl, rfl, rfl, rfl, rfl⟩ := e1
                have X3 := HX2.out.box.below HB3.out (by omega)
                have HF : Hid (∀ o, RNI w W1.heap.size (.slice (some ⟨bl, ol, none⟩) lines.length cl) lines ((((((W3.alloc o).setCell ⟨w.heap.size + 1 + 1, 0, none⟩ (.string (stepN n (k0 :: r)).name)).setCell ⟨w.heap.size + 1 + 1, 1, none⟩ (.slice a1 m1 c1)).setCell ⟨w.heap.size + 1 + 1, 2, none⟩ (.slice a2 m2 c2)).setCell ⟨w.heap.size + 1 + 1, 3, none⟩ (.slice a3 m3 c3)).setCell ⟨w.heap.size + 1 + 1, 4, none⟩ (.slice a4 m4 c4) |>.setCell ⟨w.heap.size + 1 + 1, 5, none⟩ (.slice a5 m5 c5)) (stepN n (k0 :: r)) (.slice a1 m1 c1) (.slice a2 m2 c2) (.slice a3 m3 c3) (.slice a4 m4 c4) (.slice a5 m5 c5)) := fun o => by
                  have ba : Below W3.heap.size W3 (W3.alloc o) := (Below.refl _ _).alloc (Nat.le_refl _) _
                  have hs3 : W1.heap.size ≤ W3.heap.size := Nat.le_trans HX2.out.size HB3.out.size
                  refine RNI.fill (X3.below ba X3.lt) ⟨_, _, _, _, _, _, Y1.below ba Y1.lt⟩ ⟨_, p0 o⟩ ⟨_, p1 o⟩ (fp o) ?_ (by rw [World.size_alloc]; omega) ?_ hsz1 (ho.below ba (Nat.le_refl _)) ?_
                  · obtain ⟨h1, a, cap, e2, hc⟩ := HX2.out.txt
                    cases e2
                    refine ⟨h1, _, _, rfl, fun j x hj => ?_⟩
                    obtain ⟨b2, o2, e3, hcell⟩ := hc j x hj
                    cases e3
                    exact ⟨bl, ol, rfl, later ((HB3.out.cell (p := ⟨bl, ol + j, none⟩) (HAL.out bl ol rfl).2).trans hcell) o⟩
                  · exact (HX2.out.below.trans (HB3.out.mono (by omega))).alloc (by have := HX2.out.below.size; omega) _
                  · intro bb off m c e; cases e; exact (HAL.out bl ol rfl).1
                have HP : Hid (Fits (stepN n (k0 :: r)) ∧ readGo (lines.drop (k + 1)) (k + 1) (stepN n (k0 :: r)) true = R) := by
                  refine ⟨fits_step HX.out.1 (HE.out.trans hE0), ?_⟩
                  have h := HX.out.2.1
                  rw [HD.out, readGo_ok HWS.out.symm HFO.out (by rw [HE.out]; exact hE)] at h
                  exact h
                have z0' : ∀ o, (W3.alloc o).cell? ⟨w.heap.size + 1 + 1, 0, none⟩ = some (.string n.name) := later X3.h0
                have z1' : ∀ o, (W3.alloc o).cell? ⟨w.heap.size + 1 + 1, 1, none⟩ = some (.slice ab n.buses.length cb) := later X3.h1
                have z2' : ∀ o, (W3.alloc o).cell? ⟨w.heap.size + 1 + 1, 2, none⟩ = some (.slice al' n.lines.length cl') := later X3.h2
                have z3' : ∀ o, (W3.alloc o).cell? ⟨w.heap.size + 1 + 1, 3, none⟩ = some (.slice ag n.gens.length cg) := later X3.h3
                have z4' : ∀ o, (W3.alloc o).cell? ⟨w.heap.size + 1 + 1, 4, none⟩ = some (.slice ad n.loads.length cd) := later X3.h4
                have z5' : ∀ o, (W3.alloc o).cell? ⟨w.heap.size + 1 + 1, 5, none⟩ = some (.slice at' n.ties.length ct) := later X3.h5
                have fz : ∀ o j, (W3.alloc o).frozen? ⟨w.heap.size + 1 + 1, j, none⟩ = false := fun o j => (World.frozen?_of_block (w := W3) (a := ⟨w.heap.size + 1 + 1, j, none⟩) (Below.heap_alloc W3 o _ X3.lt)).trans (X3.f j)
                clear X3 ho HX HX2 HD HWS HFO HRD HY Y1 HP0 HP1 HFP HE HV HLN hE hE0 y0 y1 y2 y3 y4 y5 fy p0 p1 fp q0 q1
                go_wp2
                exact ⟨⟨k + 1, stepN n (k0 :: r), true, _, _, _, _, _, rfl, by go_num, by omega, HP.out.1, HP.out.2, HF.out _⟩, by simp [intOf]; omega⟩
        · have hne : (((r.length : Int) + 1) != (longK k0 : Int)) = true := by
            rw [bne_iff_ne]; intro h; apply hl; simp; omega
          have HP : Hid (R = ((1, ((k + 1 : Nat) : Int)), emptyNet)) := by
            have h := HX.out.2.1
            rw [HD.out, readGo_form HWS.out.symm (.inl hl)] at h
            exact h.symm
          obtain ⟨u0, u1, u2, u3, u4, u5, Y1⟩ := HX2.out.res
          obtain ⟨v0, p0⟩ := HX2.out.f0
          obtain ⟨v1, p1⟩ := HX2.out.f1
          have fp := HX2.out.ff
          have y0 := Y1.h0
          have y1 := Y1.h1
          have y2 := Y1.h2
          have y3 := Y1.h3
          have y4 := Y1.h4
          have y5 := Y1.h5
          have fy := Y1.f
          clear Y1
          have hBW := hide' HX2.out.below
          clear HX HX2 hown HD HWS hl hcc
          go_wp2_with (go_at_call 11; refine (longOf_any k0 _).mono ?_; rintro e w' ⟨rfl, hw'⟩; obtain rfl := hw'.symm)
          refine bodyPost_ret (v := .tuple #[zero6, .agg #[.int .i64 1, .int .i64 ((k : Int) + 1)]]) (by simp [results, Tryd.results5, go_sem, y0, y1, y2, y3, y4, y5, p0, p1]) rfl ?_
          obtain rfl := HP.out
          exact ⟨_, _, _, _, _, rfl, owns_empty _ _, fin_below hBW.out _ _ _ _ _ _ _ _⟩
    · -- all lines have come
      obtain ⟨u0, u1, u2, u3, u4, u5, Y1⟩ := HX.out.2.2.res
      obtain ⟨v0, p0⟩ := HX.out.2.2.f0
      obtain ⟨v1, p1⟩ := HX.out.2.2.f1
      have fp := HX.out.2.2.ff
      have y0 := Y1.h0
      have y1 := Y1.h1
      have y2 := Y1.h2
      have y3 := Y1.h3
      have y4 := Y1.h4
      have y5 := Y1.h5
      have fy := Y1.f
      obtain ⟨ab, cb, rfl⟩ := own_slice HX.out.2.2.own.hb
      obtain ⟨al', cl', rfl⟩ := own_slice HX.out.2.2.own.hl
      obtain ⟨ag, cg, rfl⟩ := own_slice HX.out.2.2.own.hg
      obtain ⟨ad, cd, rfl⟩ := own_slice HX.out.2.2.own.hd
      obtain ⟨at', ct, rfl⟩ := own_slice HX.out.2.2.own.ht
      have X := HX.out.2.2.box
      have x0 : wr.cell? ⟨w.heap.size + 1 + 1, 0, none⟩ = some (.string n.name) := X.h0
      have x1 : wr.cell? ⟨w.heap.size + 1 + 1, 1, none⟩ = some (.slice ab n.buses.length cb) := X.h1
      have x2 : wr.cell? ⟨w.heap.size + 1 + 1, 2, none⟩ = some (.slice al' n.lines.length cl') := X.h2
      have x3 : wr.cell? ⟨w.heap.size + 1 + 1, 3, none⟩ = some (.slice ag n.gens.length cg) := X.h3
      have x4 : wr.cell? ⟨w.heap.size + 1 + 1, 4, none⟩ = some (.slice ad n.loads.length cd) := X.h4
      have x5 : wr.cell? ⟨w.heap.size + 1 + 1, 5, none⟩ = some (.slice at' n.ties.length ct) := X.h5
      clear Y1 X
      have HD : Hid (readGo [] k n bg = R) := by
        have h := HX.out.2.1
        rw [List.drop_of_length_le (by omega)] at h
        exact h
      have he : k = lines.length := by omega
      cases bg with
      | true =>
        have HP : Hid (R = ((0, 0), n)) := by have h := HD.out; rw [readGo, if_pos rfl] at h; exact h.symm
        have HB := hide' HX.out.2.2.below
        have HOW := hide' HX.out.2.2.own
        clear HX HD
        go_wp2
        refine bodyPost_ret (v := .tuple #[.agg #[.string n.name, .slice ab n.buses.length cb, .slice al' n.lines.length cl', .slice ag n.gens.length cg, .slice ad n.loads.length cd, .slice at' n.ties.length ct], .agg #[.int .i64 0, .int .i64 0]]) (by simp [results, Tryd.results5, go_sem, y0, y1, y2, y3, y4, y5, p0, p1]) rfl ?_
        obtain rfl := HP.out
        exact ⟨_, _, _, _, _, rfl, (fin_owns HOW.out (by omega) _ _ _ _ _ _ _ _).down (by omega), fin_below HB.out _ _ _ _ _ _ _ _⟩
      | false =>
        have HP : Hid (R = ((1, (k : Int)), emptyNet)) := by have h := HD.out; rw [readGo, if_neg (by decide)] at h; exact h.symm
        have HB := hide' HX.out.2.2.below
        have HE := hide' he
        clear HX HD he
        go_wp2
        refine bodyPost_ret (v := .tuple #[zero6, .agg #[.int .i64 1, .int .i64 (lines.length : Int)]]) (by simp [results, Tryd.results5, go_sem, y0, y1, y2, y3, y4, y5, p0, p1]) rfl ?_
        obtain rfl := HP.out
        exact ⟨_, _, _, _, _, by rw [HE.out]; rfl, owns_empty _ _, fin_below HB.out _ _ _ _ _ _ _ _⟩
end Go.Proofs.YtjmadnpcadidhaaDoor
