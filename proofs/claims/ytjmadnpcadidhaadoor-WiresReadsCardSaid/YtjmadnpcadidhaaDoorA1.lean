/- Plain words on names: letters, digits, and when a row of bytes is a name. No program in them. -/
import Derived.Test.YtjmadnpcadidhaaDoorRows
import Derived.WalkKit
import Derived.WalkSpells
import Derived.WalkLawsBesides
import Derived.Maps.AppendAt
namespace Go.Proofs.YtjmadnpcadidhaaDoor

def blankB (r : Int) : Bool := r == 9 || r == 13 || r == 32
def digitB (r : Int) : Bool := decide (48 ≤ r) && decide (r ≤ 57)
def letterB (r : Int) : Bool :=
  (decide (97 ≤ r) && decide (r ≤ 122)) || (decide (65 ≤ r) && decide (r ≤ 90)) || r == 95 ||
    (decide (192 ≤ r) && decide (r ≤ 591) && r != 215 && r != 247)
def okR (r : Int) (n : Nat) : Bool := letterB r || (digitB r && !((n : Int) == 0))
def asciiB (c : UInt8) : Bool := decide ((c.toNat : Int) < 128)
def leadB (c : UInt8) : Bool := decide (195 ≤ (c.toNat : Int)) && decide ((c.toNat : Int) ≤ 201)
def contB (d : UInt8) : Bool := decide (128 ≤ (d.toNat : Int)) && decide ((d.toNat : Int) ≤ 191)
def runeOf (c d : UInt8) : Int := (c.toNat : Int) % 32 * 64 + (d.toNat : Int) % 64
def runeU (c : UInt8) : Int := c.toNat
def countB (n : Nat) : Bool := decide (0 < (n : Int)) && decide ((n : Int) ≤ 16)
def nameGo : List UInt8 → Option UInt8 → Nat → Bool
  | [], none, n => countB n
  | [], some _, _ => false
  | c :: l, none, n => cond (asciiB c) (cond (okR (runeU c) n) (nameGo l none (n + 1)) false) (cond (leadB c) (nameGo l (some c) n) false)
  | d :: l, some c, n => cond (contB d) (cond (okR (runeOf c d) n) (nameGo l none (n + 1)) false) false
def nameL (l : List UInt8) : Bool := nameGo l none 0
theorem nameGo_ascii (c : UInt8) (r : List UInt8) (m : Nat) (h : asciiB c = true) : nameGo (c :: r) none m = cond (okR (runeU c) m) (nameGo r none (m + 1)) false := by
  rw [nameGo, h, cond_true]
theorem nameGo_lead (c : UInt8) (r : List UInt8) (m : Nat) (h : asciiB c = false) : nameGo (c :: r) none m = cond (leadB c) (nameGo r (some c) m) false := by
  rw [nameGo, h, cond_false]
theorem nameGo_cont (c d : UInt8) (r : List UInt8) (m : Nat) : nameGo (d :: r) (some c) m = cond (contB d) (cond (okR (runeOf c d) m) (nameGo r none (m + 1)) false) false := by
  rw [nameGo]
theorem nameGo_nil (m : Nat) : nameGo [] none m = countB m := by rw [nameGo]
theorem nameGo_half (c : UInt8) (m : Nat) : nameGo [] (some c) m = false := by rw [nameGo]
end Go.Proofs.YtjmadnpcadidhaaDoor
/- Contracts of the small functions that only reckon: letters, digits, blanks, and how many words a kind of line has. -/
namespace Go.Proofs.YtjmadnpcadidhaaDoor
open Go.RowKit

theorem ret_bool {a b : Bool} (h : a = b) : Ending.returned (.bool a) = .returned (.bool b) := by rw [h]

set_option maxHeartbeats 400000 in
theorem isBlank_any (r : Int) (w : World) :
    Calls Tryd.prog 26 #[.int .i32 r] w fun e w' => e = .returned (.bool (blankB r)) ∧ w' = w := by
  go_enter Tryd.func26, Tryd.ntmps26
  go_wp2
  all_goals
    go_ret
    exact ⟨ret_bool (by rw [Bool.eq_iff_iff]; simp_all [blankB]), rfl⟩

set_option maxHeartbeats 400000 in
theorem isDigit_any (r : Int) (w : World) :
    Calls Tryd.prog 48 #[.int .i32 r] w fun e w' => e = .returned (.bool (digitB r)) ∧ w' = w := by
  go_enter Tryd.func48, Tryd.ntmps48
  go_wp2
  all_goals
    go_ret
    exact ⟨ret_bool (by rw [Bool.eq_iff_iff]; simp [digitB] <;> omega), rfl⟩

set_option maxHeartbeats 400000 in
theorem isLetter_any (r : Int) (w : World) :
    Calls Tryd.prog 47 #[.int .i32 r] w fun e w' => e = .returned (.bool (letterB r)) ∧ w' = w := by
  go_enter Tryd.func47, Tryd.ntmps47
  go_wp2
  all_goals
    go_ret
    exact ⟨ret_bool (by rw [Bool.eq_iff_iff]; simp_all [letterB] <;> omega), rfl⟩

set_option maxHeartbeats 400000 in
theorem Letter_any (r : Int) (f : Bool) (w : World) :
    Calls Tryd.prog 35 #[.int .i32 r, .bool f] w fun e w' => e = .returned (.bool (letterB r || (digitB r && !f))) ∧ w' = w := by
  go_enter Tryd.func35, Tryd.ntmps35
  go_wp2
  all_goals
    go_ret
    exact ⟨ret_bool (by rw [Bool.eq_iff_iff]; simp_all [letterB, digitB] <;> omega), rfl⟩
end Go.Proofs.YtjmadnpcadidhaaDoor
/- Small facts on memory that the walks share: what an append to a list of the call's own leaves. -/
namespace Go.Proofs.YtjmadnpcadidhaaDoor
open Go.RowKit

theorem below_app {B B' : Nat} {w wr w1 : World} {o : Obj} {e sz n : Nat} {v : Value} {xs : List Value} (hB : Below B w wr) (hown : wr.ownsRow B' e sz v n xs) (hle : B ≤ B') (hb : B ≤ wr.heap.size)
    (hg : (wr.alloc o).grownBy w1 v.ownBlock) : Below B w w1 :=
  Below.grown (hB.alloc hb o) hg (by simp; omega) (fun k e => by have := (hown.lt k e).1; omega)
theorem one_cell {x : Value} (h : x.oneCell' = true) : ∀ u ∈ [x], u.oneCell' = true := by
  intro u hu; simp at hu; subst hu; exact h
theorem map_snoc {α : Type} (f : α → Value) (out : List α) (x : α) : out.map f ++ [f x] = (out ++ [x]).map f := by simp
theorem own_snoc {α : Type} {w : World} {B e : Nat} {v : Value} {f : α → Value} {out : List α} {x : α} (h : w.ownsRow B e 1 v (out.length + 1) (out.map f ++ [f x])) : w.ownsRow B e 1 v (out ++ [x]).length ((out ++ [x]).map f) := by
  rw [← map_snoc]; simpa using h
end Go.Proofs.YtjmadnpcadidhaaDoor
/- Plain facts on texts, lines and words: no program in them. -/
namespace Go.Proofs.YtjmadnpcadidhaaDoor

def bytesOf (s : ByteArray) : List UInt8 := s.data.toList
def textOf (l : List UInt8) : ByteArray := ⟨l.toArray⟩
theorem bytesOf_textOf (l : List UInt8) : bytesOf (textOf l) = l := by simp [bytesOf, textOf]
theorem textOf_bytesOf (s : ByteArray) : textOf (bytesOf s) = s := by cases s; simp [bytesOf, textOf]
theorem length_bytesOf (s : ByteArray) : (bytesOf s).length = s.size := Array.length_toList
theorem bytesOf_extract (s : ByteArray) (a b : Nat) : bytesOf (s.extract a b) = ((bytesOf s).take b).drop a := by
  simp [bytesOf, ByteArray.data_extract, List.extract_eq_take_drop, List.drop_take]
theorem getElem_bytesOf (s : ByteArray) (k : Nat) (h : k < s.size) : (bytesOf s)[k]'(by rw [length_bytesOf]; exact h) = s[k] := rfl
theorem bytesOf_inj {s t : ByteArray} (h : bytesOf s = bytesOf t) : s = t := by rw [← textOf_bytesOf s, h, textOf_bytesOf]

def splitL : List UInt8 → List (List UInt8)
  | [] => [[]]
  | c :: r => if c = 10 then [] :: splitL r else match splitL r with
    | [] => [[c]]
    | h :: t => (c :: h) :: t
theorem splitL_ne (l : List UInt8) : splitL l ≠ [] := by
  cases l with
  | nil => simp [splitL]
  | cons c r =>
    unfold splitL; split
    · simp
    · split <;> simp
theorem splitL_none (x : List UInt8) (h : ∀ c ∈ x, c ≠ 10) : splitL x = [x] := by
  induction x with
  | nil => rfl
  | cons c r ih =>
    unfold splitL
    rw [if_neg (h c (by simp)), ih (fun d hd => h d (by simp [hd]))]
theorem splitL_at (x y : List UInt8) (h : ∀ c ∈ x, c ≠ 10) : splitL (x ++ 10 :: y) = x :: splitL y := by
  induction x with
  | nil => simp [splitL]
  | cons c r ih =>
    rw [List.cons_append, splitL, if_neg (h c (by simp)), ih (fun d hd => h d (by simp [hd]))]

/-- What has been told of the lines when the letters below k have been looked at, and the line at hand began at fr. -/
def LinesAt (s : ByteArray) (k fr : Nat) (out : List ByteArray) : Prop :=
  fr ≤ k ∧ k ≤ s.size ∧ out.map bytesOf ++ splitL ((bytesOf s).drop fr) = splitL (bytesOf s) ∧ ∀ j (h : j < s.size), fr ≤ j → j < k → s[j] ≠ 10
theorem LinesAt.start (s : ByteArray) : LinesAt s 0 0 [] := ⟨by omega, by omega, by simp, by intros; omega⟩
theorem LinesAt.on {s : ByteArray} {k fr : Nat} {out : List ByteArray} (h : LinesAt s k fr out) (hk : k < s.size) (h10 : ¬ (s[k].toNat : Int) = 10) : LinesAt s (k + 1) fr out := by
  obtain ⟨h1, h2, h3, h4⟩ := h
  refine ⟨by omega, by omega, h3, fun j hj a b => ?_⟩
  by_cases e : j = k
  · subst e; intro e2; exact h10 (by rw [e2]; rfl)
  · exact h4 j hj a (by omega)
theorem LinesAt.piece {s : ByteArray} {k fr : Nat} {out : List ByteArray} (h : LinesAt s k fr out) : ∀ c ∈ bytesOf (s.extract fr k), c ≠ 10 := by
  obtain ⟨h1, h2, h3, h4⟩ := h
  intro c hc
  rw [bytesOf_extract, List.mem_iff_getElem] at hc
  obtain ⟨i, hi, rfl⟩ := hc
  simp only [List.length_drop, List.length_take, length_bytesOf] at hi
  simp only [List.getElem_drop, List.getElem_take]
  exact h4 (fr + i) (by omega) (by omega) (by omega)
theorem LinesAt.cut {s : ByteArray} {k fr : Nat} {out : List ByteArray} (h : LinesAt s k fr out) (hk : k < s.size) (h10 : (s[k].toNat : Int) = 10) :
    LinesAt s (k + 1) (k + 1) (out ++ [s.extract fr k]) := by
  have hp := h.piece
  obtain ⟨h1, h2, h3, h4⟩ := h
  refine ⟨by omega, by omega, ?_, by intros; omega⟩
  rw [← h3, List.map_append, List.append_assoc]
  congr 1
  have e : (bytesOf s).drop fr = bytesOf (s.extract fr k) ++ 10 :: (bytesOf s).drop (k + 1) := by
    rw [bytesOf_extract]
    have hlen := length_bytesOf s
    have e1 : (bytesOf s).drop fr = ((bytesOf s).take k ++ (bytesOf s).drop k).drop fr := by rw [List.take_append_drop]
    rw [e1, List.drop_append_of_le_length (by simp [hlen]; omega), List.drop_eq_getElem_cons (i := k) (by omega)]
    congr 2
    show s[k] = 10
    apply UInt8.toNat_inj.1
    show s[k].toNat = 10
    omega
  rw [e, splitL_at _ _ hp]
  rfl
theorem LinesAt.fin {s : ByteArray} {fr : Nat} {out : List ByteArray} (h : LinesAt s s.size fr out) :
    (out ++ [s.extract fr s.size]).map bytesOf = splitL (bytesOf s) := by
  have hp := h.piece
  obtain ⟨h1, h2, h3, h4⟩ := h
  have e : (bytesOf s).drop fr = bytesOf (s.extract fr s.size) := by
    rw [bytesOf_extract, List.take_of_length_le (by rw [length_bytesOf]; exact Nat.le_refl _)]
  rw [← h3, e, splitL_none _ hp]
  simp

def blankU (c : UInt8) : Bool := c == 9 || c == 13 || c == 32
def fieldsGo (cur : List UInt8) : List UInt8 → List (List UInt8)
  | [] => if cur = [] then [] else [cur]
  | c :: r => if blankU c then (if cur = [] then fieldsGo [] r else cur :: fieldsGo [] r) else fieldsGo (cur ++ [c]) r
def said (l : List UInt8) : List UInt8 := l.takeWhile (fun c => c != 35)
def wordsL (l : List UInt8) : List (List UInt8) := fieldsGo [] (said l)

theorem drop_cons (s : ByteArray) (k : Nat) (h : k < s.size) : (bytesOf s).drop k = s[k] :: (bytesOf s).drop (k + 1) := by
  rw [List.drop_eq_getElem_cons (i := k) (by rw [length_bytesOf]; exact h)]; rfl
theorem u8_eq {c : UInt8} {n : Nat} (hn : n < 256) (h : (c.toNat : Int) = n) : c = UInt8.ofNat n := by
  apply UInt8.toNat_inj.1; simp; omega
theorem bytesOf_push (a s : ByteArray) (k : Nat) (h : k < s.size) : bytesOf (a ++ s.extract k (k + 1)) = bytesOf a ++ [s[k]] := by
  have e := bytesOf_extract s k (k + 1)
  rw [List.drop_take, drop_cons s k h] at e
  have e2 : bytesOf (a ++ s.extract k (k + 1)) = bytesOf a ++ bytesOf (s.extract k (k + 1)) := by simp [bytesOf]
  rw [e2, e]
  simp

/-- What has been told of the words when the letters below k have been looked at; the word at hand is cur. -/
def WordsAt (s : ByteArray) (k : Nat) (out : List ByteArray) (cur : ByteArray) : Prop :=
  out.map bytesOf ++ fieldsGo (bytesOf cur) (said ((bytesOf s).drop k)) = wordsL (bytesOf s)
theorem WordsAt.start (s : ByteArray) : WordsAt s 0 [] ⟨#[]⟩ := rfl
theorem said_cons (s : ByteArray) (k : Nat) (h : k < s.size) (hc : ¬ (s[k].toNat : Int) = 35) : said ((bytesOf s).drop k) = s[k] :: said ((bytesOf s).drop (k + 1)) := by
  unfold said
  rw [drop_cons s k h, List.takeWhile_cons, if_pos]
  simp only [bne_iff_ne, ne_eq]
  intro e; rw [e] at hc; exact hc rfl
theorem said_end (s : ByteArray) (k : Nat) (h : k ≤ s.size) (hc : ∀ h : k < s.size, (s[k].toNat : Int) = 35) : said ((bytesOf s).drop k) = [] := by
  unfold said
  by_cases hk : k < s.size
  · rw [drop_cons s k hk, List.takeWhile_cons, if_neg]
    rw [u8_eq (n := 35) (by omega) (hc hk)]; decide
  · rw [List.drop_of_length_le (by rw [length_bytesOf]; omega)]; rfl
theorem blank_iff (c : UInt8) : blankU c = true ↔ ((c.toNat : Int) = 9 ∨ (c.toNat : Int) = 13 ∨ (c.toNat : Int) = 32) := by
  unfold blankU
  simp only [Bool.or_eq_true, beq_iff_eq, or_assoc]
  constructor
  · rintro (h | h | h) <;> rw [h] <;> decide
  · rintro (h | h | h)
    · exact .inl (u8_eq (n := 9) (by omega) h)
    · exact .inr (.inl (u8_eq (n := 13) (by omega) h))
    · exact .inr (.inr (u8_eq (n := 32) (by omega) h))
theorem WordsAt.push {s : ByteArray} {k : Nat} {out : List ByteArray} {cur : ByteArray} (h : WordsAt s k out cur) (hk : k < s.size) (hc : ¬ (s[k].toNat : Int) = 35)
    (hb : ¬ ((s[k].toNat : Int) = 9 ∨ (s[k].toNat : Int) = 13 ∨ (s[k].toNat : Int) = 32)) : WordsAt s (k + 1) out (cur ++ s.extract k (k + 1)) := by
  unfold WordsAt at *
  rw [said_cons s k hk hc, fieldsGo, if_neg (by rw [blank_iff]; exact hb)] at h
  rw [bytesOf_push cur s k hk]; exact h
theorem bytesOf_empty : bytesOf ⟨#[]⟩ = [] := rfl
theorem bytesOf_nil {s : ByteArray} : bytesOf s = [] ↔ s.size = 0 := by
  rw [← length_bytesOf]; exact List.length_eq_zero_iff.symm
theorem WordsAt.word {s : ByteArray} {k : Nat} {out : List ByteArray} {cur : ByteArray} (h : WordsAt s k out cur) (hk : k < s.size) (hc : ¬ (s[k].toNat : Int) = 35)
    (hb : (s[k].toNat : Int) = 9 ∨ (s[k].toNat : Int) = 13 ∨ (s[k].toNat : Int) = 32) (hn : 0 < cur.size) : WordsAt s (k + 1) (out ++ [cur]) ⟨#[]⟩ := by
  unfold WordsAt at *
  rw [said_cons s k hk hc, fieldsGo, if_pos (by rw [blank_iff]; exact hb), if_neg (by rw [bytesOf_nil]; omega)] at h
  rw [bytesOf_empty, List.map_append, List.append_assoc]; exact h
theorem WordsAt.skip {s : ByteArray} {k : Nat} {out : List ByteArray} {cur : ByteArray} (h : WordsAt s k out cur) (hk : k < s.size) (hc : ¬ (s[k].toNat : Int) = 35)
    (hb : (s[k].toNat : Int) = 9 ∨ (s[k].toNat : Int) = 13 ∨ (s[k].toNat : Int) = 32) (hn : ¬ 0 < cur.size) : WordsAt s (k + 1) out ⟨#[]⟩ := by
  unfold WordsAt at *
  rw [said_cons s k hk hc, fieldsGo, if_pos (by rw [blank_iff]; exact hb), if_pos (by rw [bytesOf_nil]; omega)] at h
  exact h
theorem WordsAt.last {s : ByteArray} {k : Nat} {out : List ByteArray} {cur : ByteArray} (h : WordsAt s k out cur) (hk : k ≤ s.size) (hc : ∀ h : k < s.size, (s[k].toNat : Int) = 35)
    (hn : 0 < cur.size) : (out ++ [cur]).map bytesOf = wordsL (bytesOf s) := by
  unfold WordsAt at h
  rw [said_end s k hk hc, fieldsGo, if_neg (by rw [bytesOf_nil]; omega)] at h
  rw [List.map_append]; exact h
theorem WordsAt.none {s : ByteArray} {k : Nat} {out : List ByteArray} {cur : ByteArray} (h : WordsAt s k out cur) (hk : k ≤ s.size) (hc : ∀ h : k < s.size, (s[k].toNat : Int) = 35)
    (hn : ¬ 0 < cur.size) : out.map bytesOf = wordsL (bytesOf s) := by
  unfold WordsAt at h
  rw [said_end s k hk hc, fieldsGo, if_pos (by rw [bytesOf_nil]; omega)] at h
  simpa using h
end Go.Proofs.YtjmadnpcadidhaaDoor
/- Contract of the document's splitting of a text into lines: the lines of the text, in new memory. -/
namespace Go.Proofs.YtjmadnpcadidhaaDoor
open Go.RowKit

theorem Tryd.info9 : (Tryd.prog.info? 9).map (fun i => (i.zero, i.size, i.bytes)) = some (some (.string ⟨#[]⟩), 1, 16) := by kernel_rfl
theorem Tryd.underlying22 : Tryd.prog.underlying 22 = some (.slice 9) := by kernel_rfl

set_option maxRecDepth 100000 in
set_option maxHeartbeats 400000 in
theorem linesOf_any (s : ByteArray) (w : World) (hs : s.size ≤ 20000) :
    Calls Tryd.prog 9 #[.string s] w fun e w' => ∃ (v : Value) (out : List ByteArray), e = .returned v ∧ w'.ownsRow w.heap.size 9 1 v out.length (out.map Value.string) ∧
      out.map bytesOf = splitL (bytesOf s) ∧ Below w.heap.size w w' := by
  obtain ⟨i0, hi, hz0, hz1, hz2⟩ := info_parts Tryd.info9
  go_enter Tryd.func9, Tryd.ntmps9
  go_wp2
  go_loopw [3, 4, 5] (fun v f i wr => ∃ (k fr : Nat) (out : List ByteArray), i = .int .i64 k ∧ f = .int .i64 fr ∧
      wr.ownsRow w.heap.size 9 1 v out.length (out.map Value.string) ∧ out.length ≤ k ∧ k ≤ s.size + 1 ∧ fr ≤ k ∧ Hid ((k ≤ s.size ∧ LinesAt s k fr out) ∨ (k = s.size + 1 ∧ out.map bytesOf = splitL (bytesOf s))) ∧ Below w.heap.size w wr)
    (fun _ _ i _ => s.size + 1 - (intOf i).toNat)
  case atStart => exact ⟨0, 0, [], rfl, rfl, World.ownsRow_nil _ _ _ _, by simp, by omega, by omega, .inl ⟨by omega, LinesAt.start s⟩, Below.refl _ _⟩
  case round =>
    obtain ⟨k, fr, out, rfl, rfl, hown, hol, hk1, hfr, HL, hB⟩ := hrel
    by_cases hlt : k < s.size
    · by_cases h10 : (s[k].toNat : Int) = 10
      · have hne : ((k : Int) == (s.size : Int)) = false := by simp; omega
        go_wp2_with (at_builtin; refine wpList_append_own _ rfl _ _ 22 rfl w.heap.size 9 i0 (.string ⟨#[]⟩) 1 16 Tryd.underlying22 hi hz0 hz1 hz2 rfl (by decide) _ _ _ rfl (hown.alloc _) ⟨wr.heap.size, 0, none⟩ 1 1 [.string (s.extract fr k)] rfl rfl (cell_one_new _ _ _) (one_cell rfl) (by unfold maxLen; omega) (by omega) (by have := hB.size; simp; omega) ?_; intro v' w1 hown' hgrow _)
        go_roundw
        case rel => exact ⟨k + 1, k + 1, out ++ [s.extract fr k], by go_num, by go_num, own_snoc hown', by simp; omega, by omega, by omega, .inl ⟨by omega, (HL.out.resolve_right (by omega)).2.cut hlt h10⟩, below_app hB hown (Nat.le_refl _) hB.size hgrow⟩
        case measure => simp [intOf]; omega
      · have hne : ((k : Int) == (s.size : Int)) = false := by simp; omega
        have hn : ((s[k].toNat : Int) == 10) = false := by simpa using h10
        go_wp2
        go_roundw
        case rel => exact ⟨k + 1, fr, out, by go_num, rfl, hown, by omega, by omega, by omega, .inl ⟨by omega, (HL.out.resolve_right (by omega)).2.on hlt h10⟩, hB⟩
        case measure => simp [intOf]; omega
    · by_cases he : k = s.size
      · subst he
        have hne : ((s.size : Int) == (s.size : Int)) = true := by simp
        go_wp2_with (at_builtin; refine wpList_append_own _ rfl _ _ 22 rfl w.heap.size 9 i0 (.string ⟨#[]⟩) 1 16 Tryd.underlying22 hi hz0 hz1 hz2 rfl (by decide) _ _ _ rfl (hown.alloc _) ⟨wr.heap.size, 0, none⟩ 1 1 [.string (s.extract fr s.size)] rfl rfl (cell_one_new _ _ _) (one_cell rfl) (by unfold maxLen; omega) (by omega) (by have := hB.size; simp; omega) ?_; intro v' w1 hown' hgrow _)
        go_roundw
        case rel => exact ⟨s.size + 1, s.size + 1, out ++ [s.extract fr s.size], by go_num, by go_num, own_snoc hown', by simp; omega, by omega, by omega, .inr ⟨rfl, (HL.out.resolve_right (by omega)).2.fin⟩, below_app hB hown (Nat.le_refl _) hB.size hgrow⟩
        case measure => simp [intOf]
      · go_wp2
        go_ret
        exact ⟨_, out, rfl, hown, (HL.out.resolve_left (by omega)).2, hB⟩
end Go.Proofs.YtjmadnpcadidhaaDoor
/- Contract of the document's splitting of a line into words: the words of the line, in new memory. -/
namespace Go.Proofs.YtjmadnpcadidhaaDoor
open Go.RowKit

set_option maxRecDepth 100000 in
set_option maxHeartbeats 1000000 in
theorem wordsOf_any (s : ByteArray) (w : World) (hs : s.size ≤ 20000) :
    Calls Tryd.prog 10 #[.string s] w fun e w' => ∃ (v : Value) (out : List ByteArray), e = .returned v ∧ w'.ownsRow w.heap.size 9 1 v out.length (out.map Value.string) ∧
      out.map bytesOf = wordsL (bytesOf s) ∧ out.length ≤ s.size + 1 ∧ Below w.heap.size w w' := by
  obtain ⟨i0, hi, hz0, hz1, hz2⟩ := info_parts Tryd.info9
  go_enter Tryd.func10, Tryd.ntmps10
  go_wp2
  go_loopw [3, 4, 5] (fun v c i wr => ∃ (k : Nat) (cur : ByteArray) (out : List ByteArray), i = .int .i64 k ∧ c = .string cur ∧
      wr.ownsRow w.heap.size 9 1 v out.length (out.map Value.string) ∧ out.length ≤ k ∧ k ≤ s.size ∧ cur.size ≤ k ∧ Hid (WordsAt s k out cur) ∧ Below w.heap.size w wr)
    (fun _ _ i _ => s.size - (intOf i).toNat)
  case atStart => exact ⟨0, ⟨#[]⟩, [], rfl, rfl, World.ownsRow_nil _ _ _ _, by simp, by omega, Nat.le_refl _, WordsAt.start s, Below.refl _ _⟩
  case round =>
    obtain ⟨k, cur, out, rfl, rfl, hown, hol, hk1, hcl, HL, hB⟩ := hrel
    by_cases hgo : ∃ hlt : k < s.size, ¬ (s[k].toNat : Int) = 35
    · obtain ⟨hlt, h35⟩ := hgo
      have h35' : ((s[k].toNat : Int) != 35) = true := by simpa using h35
      by_cases hb : (s[k].toNat : Int) = 9 ∨ (s[k].toNat : Int) = 13 ∨ (s[k].toNat : Int) = 32
      · by_cases hn : 0 < cur.size
        · have HP : Hid (WordsAt s (k + 1) (out ++ [cur]) ⟨#[]⟩) := HL.out.word hlt h35 hb hn
          clear HL h35
          rcases hb with h9 | h13 | h32
          all_goals
            go_wp2_with (at_builtin; refine wpList_append_own _ rfl _ _ 22 rfl w.heap.size 9 i0 (.string ⟨#[]⟩) 1 16 Tryd.underlying22 hi hz0 hz1 hz2 rfl (by decide) _ _ _ rfl (hown.alloc _) ⟨wr.heap.size, 0, none⟩ 1 1 [.string cur] rfl rfl (cell_one_new _ _ _) (one_cell rfl) (by unfold maxLen; omega) (by omega) (by have := hB.size; simp; omega) ?_; intro v' w1 hown' hgrow _)
            go_roundw
            case rel => exact ⟨k + 1, ⟨#[]⟩, out ++ [cur], by go_num, rfl, own_snoc hown', by simp; omega, by omega, Nat.zero_le _, HP, below_app hB hown (Nat.le_refl _) hB.size hgrow⟩
            case measure => simp [intOf]; omega
        · have HP : Hid (WordsAt s (k + 1) out ⟨#[]⟩) := HL.out.skip hlt h35 hb hn
          clear HL h35
          rcases hb with h9 | h13 | h32
          all_goals
            go_wp2
            go_roundw
            case rel => exact ⟨k + 1, ⟨#[]⟩, out, by go_num, rfl, hown, by omega, by omega, Nat.zero_le _, HP, hB⟩
            case measure => simp [intOf]; omega
      · have HP : Hid (WordsAt s (k + 1) out (cur ++ s.extract k (k + 1))) := HL.out.push hlt h35 hb
        have h9 : ((s[k].toNat : Int) == 9) = false := by simp; omega
        have h13 : ((s[k].toNat : Int) == 13) = false := by simp; omega
        have h32 : ((s[k].toNat : Int) == 32) = false := by simp; omega
        clear hb HL h35
        go_wp2
        go_roundw
        case rel => exact ⟨k + 1, cur ++ s.extract k (k + 1), out, by go_num, rfl, hown, by omega, by omega, by simp; omega, HP, hB⟩
        case measure => simp [intOf]; omega
    · have hend : ∀ h : k < s.size, (s[k].toNat : Int) = 35 := fun h => Classical.byContradiction fun c => hgo ⟨h, c⟩
      by_cases hn : 0 < cur.size
      · have HP : Hid ((out ++ [cur]).map bytesOf = wordsL (bytesOf s)) := HL.out.last hk1 hend hn
        clear HL hgo
        by_cases hlt : k < s.size
        · have h35' : ((s[k].toNat : Int) != 35) = false := by simpa using hend hlt
          clear hend
          go_wp2_with (at_builtin; refine wpList_append_own _ rfl _ _ 22 rfl w.heap.size 9 i0 (.string ⟨#[]⟩) 1 16 Tryd.underlying22 hi hz0 hz1 hz2 rfl (by decide) _ _ _ rfl (hown.alloc _) ⟨wr.heap.size, 0, none⟩ 1 1 [.string cur] rfl rfl (cell_one_new _ _ _) (one_cell rfl) (by unfold maxLen; omega) (by omega) (by have := hB.size; simp; omega) ?_; intro v' w1 hown' hgrow _)
          go_ret
          exact ⟨_, out ++ [cur], rfl, own_snoc hown', HP.out, by simp; omega, below_app hB hown (Nat.le_refl _) hB.size hgrow⟩
        · clear hend
          go_wp2_with (at_builtin; refine wpList_append_own _ rfl _ _ 22 rfl w.heap.size 9 i0 (.string ⟨#[]⟩) 1 16 Tryd.underlying22 hi hz0 hz1 hz2 rfl (by decide) _ _ _ rfl (hown.alloc _) ⟨wr.heap.size, 0, none⟩ 1 1 [.string cur] rfl rfl (cell_one_new _ _ _) (one_cell rfl) (by unfold maxLen; omega) (by omega) (by have := hB.size; simp; omega) ?_; intro v' w1 hown' hgrow _)
          go_ret
          exact ⟨_, out ++ [cur], rfl, own_snoc hown', HP.out, by simp; omega, below_app hB hown (Nat.le_refl _) hB.size hgrow⟩
      · have HP : Hid (out.map bytesOf = wordsL (bytesOf s)) := HL.out.none hk1 hend hn
        clear HL hgo
        by_cases hlt : k < s.size
        · have h35' : ((s[k].toNat : Int) != 35) = false := by simpa using hend hlt
          clear hend
          go_wp2
          go_ret
          exact ⟨_, out, rfl, hown, HP.out, by omega, hB⟩
        · clear hend
          go_wp2
          go_ret
          exact ⟨_, out, rfl, hown, HP.out, by omega, hB⟩
end Go.Proofs.YtjmadnpcadidhaaDoor
/- Contracts: how many words a line of a kind has, in the program and in the document's answer. -/
namespace Go.Proofs.YtjmadnpcadidhaaDoor
open Go.RowKit

def kNet : ByteArray := ⟨#[110, 101, 116]⟩
def kBus : ByteArray := ⟨#[98, 117, 115]⟩
def kLine : ByteArray := ⟨#[108, 105, 110, 101]⟩
def kGen : ByteArray := ⟨#[103, 101, 110]⟩
def kLoad : ByteArray := ⟨#[108, 111, 97, 100]⟩
def kTie : ByteArray := ⟨#[116, 105, 101]⟩
def kOpen : ByteArray := ⟨#[111, 112, 101, 110]⟩
def kClosed : ByteArray := ⟨#[99, 108, 111, 115, 101, 100]⟩
def longK (k : ByteArray) : Nat :=
  if k = kNet then 2 else if k = kBus then 2 else if k = kLoad then 4 else if k = kTie then 5 else if k = kLine then 6 else if k = kGen then 6 else 0

theorem lit_beq (k : ByteArray) (l : List UInt8) : (k.toList == l) = decide (k = ⟨l.toArray⟩) := by
  rw [Bool.eq_iff_iff, ByteArray.toList_eq]
  simp only [beq_iff_eq, decide_eq_true_eq]
  constructor
  · intro h; cases k; simp at h; subst h; simp
  · intro h; rw [h]
theorem lit_yes {k : ByteArray} {l : List UInt8} (h : k = ⟨l.toArray⟩) : (k.toList == l) = true := by rw [lit_beq]; simpa using h
theorem lit_no {k : ByteArray} {l : List UInt8} (h : ¬ k = ⟨l.toArray⟩) : (k.toList == l) = false := by rw [lit_beq]; simpa using h
theorem ret_nat {a b : Nat} (h : a = b) : Ending.returned (.int .i64 (a : Int)) = .returned (.int .i64 (b : Int)) := by rw [h]

theorem kindCase (k : ByteArray) :
    (k = kNet ∧ longK k = 2 ∧ (k.toList == [110, 101, 116]) = true ∧ (k.toList == [98, 117, 115]) = false ∧ (k.toList == [108, 105, 110, 101]) = false ∧ (k.toList == [103, 101, 110]) = false ∧ (k.toList == [108, 111, 97, 100]) = false ∧ (k.toList == [116, 105, 101]) = false) ∨
    (k = kBus ∧ longK k = 2 ∧ (k.toList == [110, 101, 116]) = false ∧ (k.toList == [98, 117, 115]) = true ∧ (k.toList == [108, 105, 110, 101]) = false ∧ (k.toList == [103, 101, 110]) = false ∧ (k.toList == [108, 111, 97, 100]) = false ∧ (k.toList == [116, 105, 101]) = false) ∨
    (k = kLine ∧ longK k = 6 ∧ (k.toList == [110, 101, 116]) = false ∧ (k.toList == [98, 117, 115]) = false ∧ (k.toList == [108, 105, 110, 101]) = true ∧ (k.toList == [103, 101, 110]) = false ∧ (k.toList == [108, 111, 97, 100]) = false ∧ (k.toList == [116, 105, 101]) = false) ∨
    (k = kGen ∧ longK k = 6 ∧ (k.toList == [110, 101, 116]) = false ∧ (k.toList == [98, 117, 115]) = false ∧ (k.toList == [108, 105, 110, 101]) = false ∧ (k.toList == [103, 101, 110]) = true ∧ (k.toList == [108, 111, 97, 100]) = false ∧ (k.toList == [116, 105, 101]) = false) ∨
    (k = kLoad ∧ longK k = 4 ∧ (k.toList == [110, 101, 116]) = false ∧ (k.toList == [98, 117, 115]) = false ∧ (k.toList == [108, 105, 110, 101]) = false ∧ (k.toList == [103, 101, 110]) = false ∧ (k.toList == [108, 111, 97, 100]) = true ∧ (k.toList == [116, 105, 101]) = false) ∨
    (k = kTie ∧ longK k = 5 ∧ (k.toList == [110, 101, 116]) = false ∧ (k.toList == [98, 117, 115]) = false ∧ (k.toList == [108, 105, 110, 101]) = false ∧ (k.toList == [103, 101, 110]) = false ∧ (k.toList == [108, 111, 97, 100]) = false ∧ (k.toList == [116, 105, 101]) = true) ∨
    ((¬ k = kNet ∧ ¬ k = kBus ∧ ¬ k = kLine ∧ ¬ k = kGen ∧ ¬ k = kLoad ∧ ¬ k = kTie) ∧ longK k = 0 ∧ (k.toList == [110, 101, 116]) = false ∧ (k.toList == [98, 117, 115]) = false ∧ (k.toList == [108, 105, 110, 101]) = false ∧ (k.toList == [103, 101, 110]) = false ∧ (k.toList == [108, 111, 97, 100]) = false ∧ (k.toList == [116, 105, 101]) = false) := by
  simp only [lit_beq]
  by_cases h0 : k = kNet
  · subst h0
    left
    decide
  by_cases h1 : k = kBus
  · subst h1
    right; left
    decide
  by_cases h2 : k = kLine
  · subst h2
    right; right; left
    decide
  by_cases h3 : k = kGen
  · subst h3
    right; right; right; left
    decide
  by_cases h4 : k = kLoad
  · subst h4
    right; right; right; right; left
    decide
  by_cases h5 : k = kTie
  · subst h5
    right; right; right; right; right; left
    decide
  right; right; right; right; right; right
  refine ⟨⟨h0, h1, h2, h3, h4, h5⟩, ?_, ?_⟩
  · simp [longK, h0, h1, h2, h3, h4, h5]
  · exact ⟨decide_eq_false h0, decide_eq_false h1, decide_eq_false h2, decide_eq_false h3, decide_eq_false h4, decide_eq_false h5⟩

set_option maxHeartbeats 800000 in
theorem wordsIn_any (k : ByteArray) (w : World) :
    Calls Tryd.prog 28 #[.string k] w fun e w' => e = .returned (.int .i64 (longK k)) ∧ w' = w := by
  rcases kindCase k with ⟨-, hn, b0, b1, b2, b3, b4, b5⟩ | ⟨-, hn, b0, b1, b2, b3, b4, b5⟩ | ⟨-, hn, b0, b1, b2, b3, b4, b5⟩ | ⟨-, hn, b0, b1, b2, b3, b4, b5⟩ | ⟨-, hn, b0, b1, b2, b3, b4, b5⟩ | ⟨-, hn, b0, b1, b2, b3, b4, b5⟩ | ⟨-, hn, b0, b1, b2, b3, b4, b5⟩
  all_goals
    rw [hn]
    clear hn
    go_enter Tryd.func28, Tryd.ntmps28
    go_wp2
    go_ret
    exact ⟨rfl, rfl⟩

set_option maxHeartbeats 800000 in
theorem longOf_any (k : ByteArray) (w : World) :
    Calls Tryd.prog 11 #[.string k] w fun e w' => e = .returned (.int .i64 (longK k)) ∧ w' = w := by
  rcases kindCase k with ⟨-, hn, b0, b1, b2, b3, b4, b5⟩ | ⟨-, hn, b0, b1, b2, b3, b4, b5⟩ | ⟨-, hn, b0, b1, b2, b3, b4, b5⟩ | ⟨-, hn, b0, b1, b2, b3, b4, b5⟩ | ⟨-, hn, b0, b1, b2, b3, b4, b5⟩ | ⟨-, hn, b0, b1, b2, b3, b4, b5⟩ | ⟨-, hn, b0, b1, b2, b3, b4, b5⟩
  all_goals
    rw [hn]
    clear hn
    go_enter Tryd.func11, Tryd.ntmps11
    go_wp2
    go_ret
    exact ⟨rfl, rfl⟩

end Go.Proofs.YtjmadnpcadidhaaDoor
/- Contracts: a number told by digits, and the place of a text in a list, in the document's answer. -/
namespace Go.Proofs.YtjmadnpcadidhaaDoor
open Go.RowKit

def digU (c : UInt8) : Bool := decide (48 ≤ (c.toNat : Int)) && decide ((c.toNat : Int) ≤ 57)
def numGo (l : List UInt8) : Int := l.foldl (fun n c => 10 * n + ((c.toNat : Int) - 48)) 0
def numL (l : List UInt8) : Int := if l.length = 0 ∨ 9 < l.length then -1 else if l.all digU then numGo l else -1

theorem numGo_snoc (l : List UInt8) (c : UInt8) : numGo (l ++ [c]) = 10 * numGo l + ((c.toNat : Int) - 48) := by simp [numGo]
theorem take_snoc' (s : ByteArray) (k : Nat) (h : k < s.size) : (bytesOf s).take (k + 1) = (bytesOf s).take k ++ [s[k]] := by
  rw [List.take_succ_eq_append_getElem (by rw [length_bytesOf]; exact h)]; rfl

/-- The first k letters are digits, and n is what they tell. -/
def NumAt (s : ByteArray) (k : Nat) (n : Int) : Prop := ((bytesOf s).take k).all digU = true ∧ n = numGo ((bytesOf s).take k)
theorem NumAt.step {s : ByteArray} {k : Nat} {n : Int} (h : NumAt s k n) (hk : k < s.size) (h1 : 48 ≤ (s[k].toNat : Int)) (h2 : (s[k].toNat : Int) ≤ 57) : NumAt s (k + 1) (10 * n + ((s[k].toNat : Int) - 48)) := by
  unfold NumAt at *
  rw [take_snoc' s k hk, numGo_snoc, List.all_append, h.1, h.2]
  exact ⟨by simp [digU, h1, h2], rfl⟩
theorem NumAt.bad {s : ByteArray} {k : Nat} (hk : k < s.size) (h0 : 1 ≤ s.size) (h9 : s.size ≤ 9) (hb : ¬ (48 ≤ (s[k].toNat : Int) ∧ (s[k].toNat : Int) ≤ 57)) : numL (bytesOf s) = -1 := by
  have hl := length_bytesOf s
  unfold numL
  rw [if_neg (by omega), if_neg]
  rw [List.all_eq_true]
  intro h
  have := h _ (List.getElem_mem (l := bytesOf s) (n := k) (by omega))
  rw [getElem_bytesOf s k hk] at this
  simp [digU] at this
  exact hb ⟨by omega, by omega⟩
theorem NumAt.fin {s : ByteArray} {n : Int} (h : NumAt s s.size n) (h0 : 1 ≤ s.size) (h9 : s.size ≤ 9) : numL (bytesOf s) = n := by
  have hl := length_bytesOf s
  unfold NumAt at h
  rw [List.take_of_length_le (by omega)] at h
  unfold numL
  rw [if_neg (by omega), if_pos h.1, h.2]
theorem numL_size {s : ByteArray} (h : s.size = 0 ∨ 9 < s.size) : numL (bytesOf s) = -1 := by
  unfold numL; rw [length_bytesOf, if_pos h]
theorem ret_int {k : IntKind} {a b : Int} (h : a = b) : Ending.returned (.int k a) = .returned (.int k b) := by rw [h]

set_option maxRecDepth 100000 in
set_option maxHeartbeats 800000 in
theorem numberOf_any (s : ByteArray) (w : World) (hs : s.size ≤ 20000) :
    Calls Tryd.prog 37 #[.string s] w fun e w' => e = .returned (.int .i64 (numL (bytesOf s))) ∧ w' = w := by
  by_cases hz : s.size = 0 ∨ 9 < s.size
  · rw [numL_size hz]
    by_cases h0 : s.size = 0
    · have h0' : ((s.size : Int) == 0) = true := by simp [h0]
      clear hz h0
      go_enter Tryd.func37, Tryd.ntmps37
      go_wp2
      go_ret
      exact ⟨rfl, rfl⟩
    · have h0' : ((s.size : Int) == 0) = false := beq_eq_false_iff_ne.2 (by omega)
      have h9 : 9 < s.size := by omega
      clear hz
      go_enter Tryd.func37, Tryd.ntmps37
      go_wp2
      go_ret
      exact ⟨rfl, rfl⟩
  · have h0' : ((s.size : Int) == 0) = false := beq_eq_false_iff_ne.2 (by omega)
    have h1 : 1 ≤ s.size := by omega
    have h9 : s.size ≤ 9 := by omega
    clear hz hs
    go_enter Tryd.func37, Tryd.ntmps37
    go_wp2
    go_loop [3, 4] (fun n i => ∃ (k : Nat) (m : Int), k ≤ s.size ∧ i = .int .i64 k ∧ n = .int .i64 m ∧ 0 ≤ m ∧ m < 10 ^ k ∧ Hid (NumAt s k m)) (fun _ i => s.size - (intOf i).toNat)
    case atStart => exact ⟨0, 0, by omega, rfl, rfl, by omega, by decide, rfl, rfl⟩
    case round =>
      obtain ⟨k, m, hk, rfl, rfl, hm0, hm1, HN⟩ := hrel
      have hpow : (10 : Int) ^ k ≤ 10 ^ 9 := by
        have : (10 : Nat) ^ k ≤ 10 ^ 9 := Nat.pow_le_pow_right (by omega) (by omega)
        exact_mod_cast this
      have hm2 : m < 1000000000 := by omega
      have HM : Hid (m < 10 ^ k) := hm1
      clear hm1 hpow
      by_cases hlt : k < s.size
      · by_cases hd : 48 ≤ (s[k].toNat : Int) ∧ (s[k].toNat : Int) ≤ 57
        · obtain ⟨ha, hb⟩ := hd
          have HP : Hid (NumAt s (k + 1) (10 * m + ((s[k].toNat : Int) - 48))) := HN.out.step hlt ha hb
          have HB : Hid (10 * m + ((s[k].toNat : Int) - 48) < 10 ^ (k + 1)) := by
            have := HM.out
            show _ < _
            rw [Int.pow_succ]; omega
          go_wp2
          go_round
          case rel => exact ⟨k + 1, _, by omega, by go_num, rfl, by omega, HB.out, HP⟩
          case measure => simp [intOf]; omega
        · have HP : Hid (numL (bytesOf s) = -1) := NumAt.bad hlt h1 h9 hd
          by_cases ha : (s[k].toNat : Int) < 48
          · clear hd
            go_wp2
            go_ret
            exact ⟨ret_int HP.out.symm, rfl⟩
          · have hb : 57 < (s[k].toNat : Int) := by omega
            clear hd
            go_wp2
            go_ret
            exact ⟨ret_int HP.out.symm, rfl⟩
      · have HP : Hid (numL (bytesOf s) = m) := by
          have e : k = s.size := by omega
          subst e; exact HN.out.fin h1 h9
        go_wp2
        go_ret
        exact ⟨ret_int HP.out.symm, rfl⟩
end Go.Proofs.YtjmadnpcadidhaaDoor
