/- Plain words on names: letters, digits, and when a row of bytes is a name. No program in them. -/
import Derived.Test.YtpbalclhdhjnoaaGreatDoorRows
import Derived.WalkKit
import Derived.WalkSpells
import Derived.WalkLawsBesides
import Derived.Maps.AppendAt
namespace Go.Proofs.YtpbalclhdhjnoaaGreatDoor

def digitB (r : Int) : Bool := decide (48 ≤ r) && decide (r ≤ 57)
def letterB (r : Int) : Bool :=
  (decide (97 ≤ r) && decide (r ≤ 122)) || (decide (65 ≤ r) && decide (r ≤ 90)) || r == 95 ||
    (decide (192 ≤ r) && decide (r ≤ 591) && r != 215 && r != 247)
def okR (r : Int) (n : Nat) : Bool := letterB r || (digitB r && !((n : Int) == 0))
def asciiB (c : UInt8) : Bool := decide ((c.toNat : Int) < 128)
def leadB (c : UInt8) : Bool := decide (195 ≤ (c.toNat : Int)) && decide ((c.toNat : Int) ≤ 201)
def contB (d : UInt8) : Bool := decide (128 ≤ (d.toNat : Int)) && decide ((d.toNat : Int) ≤ 191)
def runeOf (c d : UInt8) : Int := (c.toNat : Int) % 32 * 64 + (d.toNat : Int) % 64
def runeU (c : UInt8) : Int := c.toNat
def countB (n : Nat) : Bool := decide (0 < (n : Int)) && decide ((n : Int) ≤ 16)
def nameGo : List UInt8 → Option UInt8 → Nat → Bool
  | [], none, n => countB n
  | [], some _, _ => false
  | c :: l, none, n => cond (asciiB c) (cond (okR (runeU c) n) (nameGo l none (n + 1)) false) (cond (leadB c) (nameGo l (some c) n) false)
  | d :: l, some c, n => cond (contB d) (cond (okR (runeOf c d) n) (nameGo l none (n + 1)) false) false
def nameL (l : List UInt8) : Bool := nameGo l none 0
theorem nameGo_ascii (c : UInt8) (r : List UInt8) (m : Nat) (h : asciiB c = true) : nameGo (c :: r) none m = cond (okR (runeU c) m) (nameGo r none (m + 1)) false := by
  rw [nameGo, h, cond_true]
theorem nameGo_lead (c : UInt8) (r : List UInt8) (m : Nat) (h : asciiB c = false) : nameGo (c :: r) none m = cond (leadB c) (nameGo r (some c) m) false := by
  rw [nameGo, h, cond_false]
theorem nameGo_cont (c d : UInt8) (r : List UInt8) (m : Nat) : nameGo (d :: r) (some c) m = cond (contB d) (cond (okR (runeOf c d) m) (nameGo r none (m + 1)) false) false := by
  rw [nameGo]
theorem nameGo_nil (m : Nat) : nameGo [] none m = countB m := by rw [nameGo]
theorem nameGo_half (c : UInt8) (m : Nat) : nameGo [] (some c) m = false := by rw [nameGo]
end Go.Proofs.YtpbalclhdhjnoaaGreatDoor
namespace Go.Proofs.YtpbalclhdhjnoaaGreatDoor
open Go.RowKit

theorem ret_bool {a b : Bool} (h : a = b) : Ending.returned (.bool a) = .returned (.bool b) := by rw [h]

set_option maxHeartbeats 400000 in
theorem isDigit_any (r : Int) (w : World) :
    Calls Tryz.prog 92 #[.int .i32 r] w fun e w' => e = .returned (.bool (digitB r)) ∧ w' = w := by
  go_enter Tryz.func92, Tryz.ntmps92
  go_wp2
  all_goals
    go_ret
    exact ⟨ret_bool (by rw [Bool.eq_iff_iff]; simp [digitB] <;> omega), rfl⟩

set_option maxHeartbeats 400000 in
theorem isLetter_any (r : Int) (w : World) :
    Calls Tryz.prog 91 #[.int .i32 r] w fun e w' => e = .returned (.bool (letterB r)) ∧ w' = w := by
  go_enter Tryz.func91, Tryz.ntmps91
  go_wp2
  all_goals
    go_ret
    exact ⟨ret_bool (by rw [Bool.eq_iff_iff]; simp_all [letterB] <;> omega), rfl⟩

end Go.Proofs.YtpbalclhdhjnoaaGreatDoor
namespace Go.Proofs.YtpbalclhdhjnoaaGreatDoor
open Go.RowKit

theorem one_cell {x : Value} (h : x.oneCell' = true) : ∀ u ∈ [x], u.oneCell' = true := by
  intro u hu; simp at hu; subst hu; exact h
theorem map_snoc {α : Type} (f : α → Value) (out : List α) (x : α) : out.map f ++ [f x] = (out ++ [x]).map f := by simp
end Go.Proofs.YtpbalclhdhjnoaaGreatDoor
namespace Go.Proofs.YtpbalclhdhjnoaaGreatDoor

def bytesOf (s : ByteArray) : List UInt8 := s.data.toList
def textOf (l : List UInt8) : ByteArray := ⟨l.toArray⟩
theorem bytesOf_textOf (l : List UInt8) : bytesOf (textOf l) = l := by simp [bytesOf, textOf]
theorem textOf_bytesOf (s : ByteArray) : textOf (bytesOf s) = s := by cases s; simp [bytesOf, textOf]
theorem length_bytesOf (s : ByteArray) : (bytesOf s).length = s.size := Array.length_toList
theorem bytesOf_extract (s : ByteArray) (a b : Nat) : bytesOf (s.extract a b) = ((bytesOf s).take b).drop a := by
  simp [bytesOf, ByteArray.data_extract, List.extract_eq_take_drop, List.drop_take]
theorem getElem_bytesOf (s : ByteArray) (k : Nat) (h : k < s.size) : (bytesOf s)[k]'(by rw [length_bytesOf]; exact h) = s[k] := rfl
theorem bytesOf_inj {s t : ByteArray} (h : bytesOf s = bytesOf t) : s = t := by rw [← textOf_bytesOf s, h, textOf_bytesOf]

def splitL : List UInt8 → List (List UInt8)
  | [] => [[]]
  | c :: r => if c = 10 then [] :: splitL r else match splitL r with
    | [] => [[c]]
    | h :: t => (c :: h) :: t
theorem splitL_none (x : List UInt8) (h : ∀ c ∈ x, c ≠ 10) : splitL x = [x] := by
  induction x with
  | nil => rfl
  | cons c r ih =>
    unfold splitL
    rw [if_neg (h c (by simp)), ih (fun d hd => h d (by simp [hd]))]
theorem splitL_at (x y : List UInt8) (h : ∀ c ∈ x, c ≠ 10) : splitL (x ++ 10 :: y) = x :: splitL y := by
  induction x with
  | nil => simp [splitL]
  | cons c r ih =>
    rw [List.cons_append, splitL, if_neg (h c (by simp)), ih (fun d hd => h d (by simp [hd]))]

def blankU (c : UInt8) : Bool := c == 9 || c == 13 || c == 32
def fieldsGo (cur : List UInt8) : List UInt8 → List (List UInt8)
  | [] => if cur = [] then [] else [cur]
  | c :: r => if blankU c then (if cur = [] then fieldsGo [] r else cur :: fieldsGo [] r) else fieldsGo (cur ++ [c]) r
def said (l : List UInt8) : List UInt8 := l.takeWhile (fun c => c != 35)
def wordsL (l : List UInt8) : List (List UInt8) := fieldsGo [] (said l)

theorem drop_cons (s : ByteArray) (k : Nat) (h : k < s.size) : (bytesOf s).drop k = s[k] :: (bytesOf s).drop (k + 1) := by
  rw [List.drop_eq_getElem_cons (i := k) (by rw [length_bytesOf]; exact h)]; rfl
theorem u8_eq {c : UInt8} {n : Nat} (hn : n < 256) (h : (c.toNat : Int) = n) : c = UInt8.ofNat n := by
  apply UInt8.toNat_inj.1; simp; omega
theorem blank_iff (c : UInt8) : blankU c = true ↔ ((c.toNat : Int) = 9 ∨ (c.toNat : Int) = 13 ∨ (c.toNat : Int) = 32) := by
  unfold blankU
  simp only [Bool.or_eq_true, beq_iff_eq, or_assoc]
  constructor
  · rintro (h | h | h) <;> rw [h] <;> decide
  · rintro (h | h | h)
    · exact .inl (u8_eq (n := 9) (by omega) h)
    · exact .inr (.inl (u8_eq (n := 13) (by omega) h))
    · exact .inr (.inr (u8_eq (n := 32) (by omega) h))
end Go.Proofs.YtpbalclhdhjnoaaGreatDoor
namespace Go.Proofs.YtpbalclhdhjnoaaGreatDoor
open Go.RowKit

theorem Tryz.info9 : (Tryz.prog.info? 9).map (fun i => (i.zero, i.size, i.bytes)) = some (some (.string ⟨#[]⟩), 1, 16) := by kernel_rfl
theorem Tryz.underlying22 : Tryz.prog.underlying 22 = some (.slice 9) := by kernel_rfl

end Go.Proofs.YtpbalclhdhjnoaaGreatDoor
namespace Go.Proofs.YtpbalclhdhjnoaaGreatDoor
open Go.RowKit

def kNet : ByteArray := ⟨#[110, 101, 116]⟩
def kBus : ByteArray := ⟨#[98, 117, 115]⟩
def kLine : ByteArray := ⟨#[108, 105, 110, 101]⟩
def kGen : ByteArray := ⟨#[103, 101, 110]⟩
def kLoad : ByteArray := ⟨#[108, 111, 97, 100]⟩
def kTie : ByteArray := ⟨#[116, 105, 101]⟩
def longK (k : ByteArray) : Nat :=
  if k = kNet then 2 else if k = kBus then 2 else if k = kLoad then 4 else if k = kTie then 5 else if k = kLine then 6 else if k = kGen then 6 else 0

theorem lit_beq (k : ByteArray) (l : List UInt8) : (k.toList == l) = decide (k = ⟨l.toArray⟩) := by
  rw [Bool.eq_iff_iff, ByteArray.toList_eq]
  simp only [beq_iff_eq, decide_eq_true_eq]
  constructor
  · intro h; cases k; simp at h; subst h; simp
  · intro h; rw [h]
theorem kindCase (k : ByteArray) :
    (k = kNet ∧ longK k = 2 ∧ (k.toList == [110, 101, 116]) = true ∧ (k.toList == [98, 117, 115]) = false ∧ (k.toList == [108, 105, 110, 101]) = false ∧ (k.toList == [103, 101, 110]) = false ∧ (k.toList == [108, 111, 97, 100]) = false ∧ (k.toList == [116, 105, 101]) = false) ∨
    (k = kBus ∧ longK k = 2 ∧ (k.toList == [110, 101, 116]) = false ∧ (k.toList == [98, 117, 115]) = true ∧ (k.toList == [108, 105, 110, 101]) = false ∧ (k.toList == [103, 101, 110]) = false ∧ (k.toList == [108, 111, 97, 100]) = false ∧ (k.toList == [116, 105, 101]) = false) ∨
    (k = kLine ∧ longK k = 6 ∧ (k.toList == [110, 101, 116]) = false ∧ (k.toList == [98, 117, 115]) = false ∧ (k.toList == [108, 105, 110, 101]) = true ∧ (k.toList == [103, 101, 110]) = false ∧ (k.toList == [108, 111, 97, 100]) = false ∧ (k.toList == [116, 105, 101]) = false) ∨
    (k = kGen ∧ longK k = 6 ∧ (k.toList == [110, 101, 116]) = false ∧ (k.toList == [98, 117, 115]) = false ∧ (k.toList == [108, 105, 110, 101]) = false ∧ (k.toList == [103, 101, 110]) = true ∧ (k.toList == [108, 111, 97, 100]) = false ∧ (k.toList == [116, 105, 101]) = false) ∨
    (k = kLoad ∧ longK k = 4 ∧ (k.toList == [110, 101, 116]) = false ∧ (k.toList == [98, 117, 115]) = false ∧ (k.toList == [108, 105, 110, 101]) = false ∧ (k.toList == [103, 101, 110]) = false ∧ (k.toList == [108, 111, 97, 100]) = true ∧ (k.toList == [116, 105, 101]) = false) ∨
    (k = kTie ∧ longK k = 5 ∧ (k.toList == [110, 101, 116]) = false ∧ (k.toList == [98, 117, 115]) = false ∧ (k.toList == [108, 105, 110, 101]) = false ∧ (k.toList == [103, 101, 110]) = false ∧ (k.toList == [108, 111, 97, 100]) = false ∧ (k.toList == [116, 105, 101]) = true) ∨
    ((¬ k = kNet ∧ ¬ k = kBus ∧ ¬ k = kLine ∧ ¬ k = kGen ∧ ¬ k = kLoad ∧ ¬ k = kTie) ∧ longK k = 0 ∧ (k.toList == [110, 101, 116]) = false ∧ (k.toList == [98, 117, 115]) = false ∧ (k.toList == [108, 105, 110, 101]) = false ∧ (k.toList == [103, 101, 110]) = false ∧ (k.toList == [108, 111, 97, 100]) = false ∧ (k.toList == [116, 105, 101]) = false) := by
  simp only [lit_beq]
  by_cases h0 : k = kNet
  · subst h0
    left
    decide
  by_cases h1 : k = kBus
  · subst h1
    right; left
    decide
  by_cases h2 : k = kLine
  · subst h2
    right; right; left
    decide
  by_cases h3 : k = kGen
  · subst h3
    right; right; right; left
    decide
  by_cases h4 : k = kLoad
  · subst h4
    right; right; right; right; left
    decide
  by_cases h5 : k = kTie
  · subst h5
    right; right; right; right; right; left
    decide
  right; right; right; right; right; right
  refine ⟨⟨h0, h1, h2, h3, h4, h5⟩, ?_, ?_⟩
  · simp [longK, h0, h1, h2, h3, h4, h5]
  · exact ⟨decide_eq_false h0, decide_eq_false h1, decide_eq_false h2, decide_eq_false h3, decide_eq_false h4, decide_eq_false h5⟩

set_option maxHeartbeats 800000 in
theorem wordsIn_any (k : ByteArray) (w : World) :
    Calls Tryz.prog 63 #[.string k] w fun e w' => e = .returned (.int .i64 (longK k)) ∧ w' = w := by
  rcases kindCase k with ⟨-, hn, b0, b1, b2, b3, b4, b5⟩ | ⟨-, hn, b0, b1, b2, b3, b4, b5⟩ | ⟨-, hn, b0, b1, b2, b3, b4, b5⟩ | ⟨-, hn, b0, b1, b2, b3, b4, b5⟩ | ⟨-, hn, b0, b1, b2, b3, b4, b5⟩ | ⟨-, hn, b0, b1, b2, b3, b4, b5⟩ | ⟨-, hn, b0, b1, b2, b3, b4, b5⟩
  all_goals
    rw [hn]
    clear hn
    go_enter Tryz.func63, Tryz.ntmps63
    go_wp2
    go_ret
    exact ⟨rfl, rfl⟩

end Go.Proofs.YtpbalclhdhjnoaaGreatDoor
namespace Go.Proofs.YtpbalclhdhjnoaaGreatDoor
open Go.RowKit

def digU (c : UInt8) : Bool := decide (48 ≤ (c.toNat : Int)) && decide ((c.toNat : Int) ≤ 57)
def numGo (l : List UInt8) : Int := l.foldl (fun n c => 10 * n + ((c.toNat : Int) - 48)) 0
def numL (l : List UInt8) : Int := if l.length = 0 ∨ 9 < l.length then -1 else if l.all digU then numGo l else -1

theorem take_snoc' (s : ByteArray) (k : Nat) (h : k < s.size) : (bytesOf s).take (k + 1) = (bytesOf s).take k ++ [s[k]] := by
  rw [List.take_succ_eq_append_getElem (by rw [length_bytesOf]; exact h)]; rfl

end Go.Proofs.YtpbalclhdhjnoaaGreatDoor
