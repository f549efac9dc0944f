/- Contracts of the program's reader: it insists, or gives up by a panic; it takes the next word; whether it has begun. -/
import Derived.Test.YtpbalclhdhjnoaaGreatDoorKA2
import Derived.Test.YtpbalclhdhjnoaaGreatDoorKShelf
import Derived.Lib.SmallJoins
import Derived.Test.YtpbalclhdhjnoaaGreatDoorKA3
import Derived.Maps.OwnIn
import Derived.Maps.Views
namespace Go.Proofs.YtpbalclhdhjnoaaGreatDoor
open Go.RowKit

/-- The panic by which the reader gives up. -/
abbrev gaveUp (c at_ : Int) : Ending := .panicked [{ v := .iface 66 (.agg #[.int .i64 c, .int .i64 at_]), recovered := false }]

set_option maxHeartbeats 400000 in
theorem insist_yes (K : Nat) (c : Int) (w : World) :
    Calls Tryz.prog 51 #[.pointer (some ⟨K, 0, none⟩), .bool true, .int .i64 c] w fun e w' => e = .returned (.tuple #[]) ∧ w' = w := by
  go_enter Tryz.func51, Tryz.ntmps51
  go_wp2
  go_end0
  exact ⟨rfl, rfl⟩
set_option maxHeartbeats 400000 in
theorem insist_no (K : Nat) (c at_ : Int) (w : World) (h : w.cell? ⟨K, 7, none⟩ = some (.int .i64 at_)) :
    Calls Tryz.prog 51 #[.pointer (some ⟨K, 0, none⟩), .bool false, .int .i64 c] w fun e w' => e = gaveUp c at_ ∧ w' = w := by
  go_enter Tryz.func51, Tryz.ntmps51
  go_wp2
  exact ⟨rfl, rfl, rfl⟩
set_option maxHeartbeats 400000 in
theorem begun_any (K : Nat) (nm : ByteArray) (w : World) (h : w.cell? ⟨K, 0, none⟩ = some (.string nm)) :
    Calls Tryz.prog 54 #[.pointer (some ⟨K, 0, none⟩)] w fun e w' => e = .returned (.bool (!nm.toList.isEmpty)) ∧ w' = w := by
  go_enter Tryz.func54, Tryz.ntmps54
  go_wp2
  go_ret
  exact ⟨rfl, rfl⟩
set_option maxHeartbeats 400000 in
theorem word_any (K bw ow m cap : Nat) (x : ByteArray) (w : World) (h : w.cell? ⟨K, 8, none⟩ = some (.slice (some ⟨bw, ow, none⟩) (m + 1) cap)) (hx : w.cell? ⟨bw, ow, none⟩ = some (.string x)) (hf : w.frozen? ⟨K, 8, none⟩ = false)
    (hm : m + 1 ≤ cap) (hmax : cap ≤ 9223372036854775807) (hm2 : m ≤ 100000) :
    Calls Tryz.prog 62 #[.pointer (some ⟨K, 0, none⟩)] w fun e w' => e = .returned (.string x) ∧ ∃ a', w' = w.setCell ⟨K, 8, none⟩ (.slice (some a') m (cap - 1)) ∧ (¬ cap = 1 → a' = ⟨bw, ow + 1, none⟩) := by
  have HM := hide' hmax
  have hcap : (1 : Int) ≤ (cap : Int) := by omega
  clear hmax
  by_cases h1 : cap = 1
  · subst h1
    have : m = 0 := by omega
    subst this
    go_enter Tryz.func62, Tryz.ntmps62
    go_wp2
    go_ret
    exact ⟨rfl, _, rfl, fun h => absurd trivial h⟩
  · go_enter Tryz.func62, Tryz.ntmps62
    go_wp2
    go_ret
    exact ⟨rfl, _, rfl, fun _ => rfl⟩

end Go.Proofs.YtpbalclhdhjnoaaGreatDoor
namespace Go.Proofs.YtpbalclhdhjnoaaGreatDoor
open Go.RowKit

/-- The next word has been taken. -/
def Took (w : World) (K bw ow m cap : Nat) (w1 : World) : Prop := ∃ a', w1 = w.setCell ⟨K, 8, none⟩ (.slice (some a') m (cap - 1)) ∧ (¬ cap = 1 → a' = ⟨bw, ow + 1, none⟩)
theorem Took.cell {w w1 : World} {K bw ow m cap : Nat} (h : Took w K bw ow m cap w1) {j : Nat} (hj : j ≠ 8) {v : Value} (hc : w.cell? ⟨K, j, none⟩ = some v) : w1.cell? ⟨K, j, none⟩ = some v := by
  obtain ⟨a', rfl, _⟩ := h
  exact (World.cell?_setCell_other w ⟨K, 8, none⟩ ⟨K, j, none⟩ _ (by intro e; cases e; exact hj rfl)).trans hc
/-- What the next word is. -/
structure Next (w : World) (K bw ow m cap : Nat) (x : ByteArray) (at_ : Int) : Prop where
  h : w.cell? ⟨K, 8, none⟩ = some (.slice (some ⟨bw, ow, none⟩) (m + 1) cap)
  hx : w.cell? ⟨bw, ow, none⟩ = some (.string x)
  hf : w.frozen? ⟨K, 8, none⟩ = false
  hm : m + 1 ≤ cap
  hmax : cap ≤ 9223372036854775807
  hm2 : m ≤ 100000
  hat : w.cell? ⟨K, 7, none⟩ = some (.int .i64 at_)
theorem Next.word {w : World} {K bw ow m cap : Nat} {x : ByteArray} {at_ : Int} (h : Next w K bw ow m cap x at_) : Calls Tryz.prog 62 #[.pointer (some ⟨K, 0, none⟩)] w fun e w' => e = .returned (.string x) ∧ Took w K bw ow m cap w' :=
  word_any K bw ow m cap x w h.h h.hx h.hf h.hm h.hmax h.hm2

set_option maxHeartbeats 400000 in
theorem closed_ok (K bw ow m cap : Nat) (x : ByteArray) (at_ : Int) (w : World) (hn : Next w K bw ow m cap x at_) (ho : (x.toList == [111, 112, 101, 110]) = true ∨ (x.toList == [99, 108, 111, 115, 101, 100]) = true) :
    Calls Tryz.prog 83 #[.pointer (some ⟨K, 0, none⟩)] w fun e w' => e = .returned (.bool (x.toList == [99, 108, 111, 115, 101, 100])) ∧ Took w K bw ow m cap w' := by
  have hw := hide' hn.word
  clear hn
  cases o1 : (x.toList == [111, 112, 101, 110]) with
  | true =>
    clear ho
    go_enter Tryz.func83, Tryz.ntmps83
    go_wp2_with (first | (go_at_call 62; refine hw.out.mono ?_; rintro e w1 ⟨rfl, ht⟩) | (go_at_call 51; refine (insist_yes _ _ _).mono ?_; rintro e w2 ⟨rfl, hw'⟩; obtain rfl := hw'.symm))
    go_ret
    exact ⟨rfl, ht⟩
  | false =>
    have o2 : (x.toList == [99, 108, 111, 115, 101, 100]) = true := ho.resolve_left (by rw [o1]; decide)
    clear ho
    go_enter Tryz.func83, Tryz.ntmps83
    go_wp2_with (first | (go_at_call 62; refine hw.out.mono ?_; rintro e w1 ⟨rfl, ht⟩) | (go_at_call 51; refine (insist_yes _ _ _).mono ?_; rintro e w2 ⟨rfl, hw'⟩; obtain rfl := hw'.symm))
    go_ret
    exact ⟨by rw [o2]; rfl, ht⟩
set_option maxHeartbeats 400000 in
theorem closed_no (K bw ow m cap : Nat) (x : ByteArray) (at_ : Int) (w : World) (hn : Next w K bw ow m cap x at_) (o1 : (x.toList == [111, 112, 101, 110]) = false) (o2 : (x.toList == [99, 108, 111, 115, 101, 100]) = false) :
    Calls Tryz.prog 83 #[.pointer (some ⟨K, 0, none⟩)] w fun e w' => e = gaveUp 1 at_ ∧ Took w K bw ow m cap w' := by
  have hw := hide' hn.word
  have HN := hide' hn
  clear hn
  go_enter Tryz.func83, Tryz.ntmps83
  go_wp2_with (first | (go_at_call 62; refine hw.out.mono ?_; rintro e w1 ⟨rfl, ht⟩) | (go_at_call 51; refine (insist_no _ _ at_ _ (ht.cell (by decide) HN.out.hat)).mono ?_; rintro e w2 ⟨rfl, hw'⟩; obtain rfl := hw'.symm))
  exact ⟨rfl, rfl, ht⟩
end Go.Proofs.YtpbalclhdhjnoaaGreatDoor
namespace Go.Proofs.YtpbalclhdhjnoaaGreatDoor
open Go.RowKit

theorem digit_val {c : UInt8} (h : digU c = true) : 48 ≤ c.toNat ∧ Lib.digitVal c = some (c.toNat - 48) := by
  simp only [digU, Bool.and_eq_true, decide_eq_true_eq] at h
  unfold Lib.digitVal
  exact ⟨by omega, if_pos ⟨by omega, by omega⟩⟩
theorem decFrom_eq (l : List UInt8) : ∀ acc : Nat, l.all digU = true → ∃ m : Nat, Lib.decFrom acc l = some m ∧ (m : Int) = l.foldl (fun n c => 10 * n + ((c.toNat : Int) - 48)) (acc : Int) := by
  induction l with
  | nil => intro acc _; exact ⟨acc, rfl, rfl⟩
  | cons c r ih =>
    intro acc h
    rw [List.all_cons, Bool.and_eq_true] at h
    obtain ⟨h48, hd⟩ := digit_val h.1
    obtain ⟨m, h1, h2⟩ := ih (acc * 10 + (c.toNat - 48)) h.2
    refine ⟨m, by rw [Lib.decFrom, hd]; exact h1, ?_⟩
    rw [h2, List.foldl_cons]
    congr 1
    omega
theorem numL_of {l : List UInt8} (h : isNumL l = true) : numL l = numGo l ∧ l ≠ [] ∧ l.all digU = true ∧ l.length ≤ 9 := by
  unfold isNumL at h
  simp only [Bool.and_eq_true, decide_eq_true_eq] at h
  unfold numL
  rw [if_neg (by omega), if_pos h.1]
  refine ⟨rfl, ?_, h.1, by omega⟩
  intro e; rw [e] at h; simp at h
theorem atoi_num {l : List UInt8} (h : isNumL l = true) : Lib.atoi l = some (numL l) := by
  obtain ⟨h1, h2, h3, _⟩ := numL_of h
  obtain ⟨m, h4, h5⟩ := decFrom_eq l 0 h3
  rw [h1]
  cases l with
  | nil => exact absurd rfl h2
  | cons b r =>
    have hb := h3
    rw [List.all_cons, Bool.and_eq_true] at hb
    have hd := digit_val hb.1
    have hb57 : b.toNat ≤ 57 := by have := hb.1; simp only [digU, Bool.and_eq_true, decide_eq_true_eq] at this; omega
    have n45 : (b == 45) = false := by rw [beq_eq_false_iff_ne]; intro e; rw [e] at hd; exact absurd hd.1 (by decide)
    have n43 : (b == 43) = false := by rw [beq_eq_false_iff_ne]; intro e; rw [e] at hd; exact absurd hd.1 (by decide)
    show (if (b == 45) = true then (Lib.decNat r).map fun (m : Nat) => -(m : Int) else if (b == 43) = true then (Lib.decNat r).map fun (m : Nat) => (m : Int) else (Lib.decNat (b :: r)).map fun (m : Nat) => (m : Int)) = _
    rw [n45, n43]
    simp only [Bool.false_eq_true, if_false, Lib.decNat, List.isEmpty_cons, h4, Option.map_some]
    rw [h5]; rfl
theorem numL_no {l : List UInt8} (h : isNumL l = false) : numL l = -1 := by
  unfold numL
  by_cases h1 : l.length = 0 ∨ 9 < l.length
  · rw [if_pos h1]
  · rw [if_neg h1, if_neg]
    intro h2
    unfold isNumL at h
    rw [h2, decide_eq_true (by omega), decide_eq_true (by omega)] at h
    cases h

/-- Behind the next word, and behind what was laid since. -/
def TookB (w : World) (K bw ow m cap : Nat) (w' : World) : Prop := ∃ w1, Took w K bw ow m cap w1 ∧ Below w1.heap.size w1 w'
theorem TookB.cell {w w' : World} {K bw ow m cap : Nat} (h : TookB w K bw ow m cap w') {j : Nat} (hj : j ≠ 8) {v : Value} (hc : w.cell? ⟨K, j, none⟩ = some v) : w'.cell? ⟨K, j, none⟩ = some v := by
  obtain ⟨w1, h1, h2⟩ := h
  have h3 := h1.cell hj hc
  exact (h2.cell (p := ⟨K, j, none⟩) (World.block_lt_of_cell? w1 _ h3)).trans h3
theorem TookB.more {w w' w2 : World} {K bw ow m cap : Nat} (h : TookB w K bw ow m cap w') (hb : Below w'.heap.size w' w2) : TookB w K bw ow m cap w2 := by
  obtain ⟨w1, h1, h2⟩ := h
  exact ⟨w1, h1, h2.trans (hb.mono h2.size)⟩

set_option maxHeartbeats 800000 in
theorem number_form (K bw ow m cap : Nat) (x : ByteArray) (at_ lo hi : Int) (w : World) (hn : Next w K bw ow m cap x at_) (hx : x.size ≤ 20000) (hv : numL (bytesOf x) < 0) :
    Calls Tryz.prog 81 #[.pointer (some ⟨K, 0, none⟩), .int .i64 lo, .int .i64 hi] w fun e w' => e = gaveUp 1 at_ ∧ TookB w K bw ow m cap w' := by
  have hw := hide' hn.word
  have HN := hide' hn
  have hz : isNumL (bytesOf x) = false := by
    cases h : isNumL (bytesOf x) with
    | false => rfl
    | true =>
      exfalso
      obtain ⟨h1, _, h3, _⟩ := numL_of h
      have := (numFold (bytesOf x) 0 h3 (by omega)).1
      rw [h1] at hv; unfold numGo at hv; omega
  clear hn hv
  go_enter Tryz.func81, Tryz.ntmps81
  go_wp2_with (first | (go_at_call 62; refine hw.out.mono ?_; rintro e w1 ⟨rfl, ht⟩; have ht' : TookB w K bw ow m cap w1 := ⟨w1, ht, Below.refl _ _⟩) | (go_at_call 94; refine (isNumber_any x _ hx).mono ?_; rintro e w2 ⟨rfl, hb2⟩; have ht2 := ht'.more hb2) | (go_at_call 51; refine (insist_no _ _ at_ _ (ht2.cell (by decide) HN.out.hat)).mono ?_; rintro e w3 ⟨rfl, hw'⟩; obtain rfl := hw'.symm))
  exact ⟨rfl, rfl, ht2⟩
end Go.Proofs.YtpbalclhdhjnoaaGreatDoor
namespace Go.Proofs.YtpbalclhdhjnoaaGreatDoor
open Go.RowKit

theorem below_bytesWorld' (w : World) (e : TypeId) (s : ByteArray) : Below w.heap.size w (Lib.bytesWorld w e s) := Joins.below_bytesWorld _ w e s (Nat.le_refl _)
theorem isNum_of {l : List UInt8} (h : ¬ numL l < 0) : isNumL l = true := by
  cases h1 : isNumL l with
  | true => rfl
  | false => have := numL_no h1; omega
theorem size_of_num {x : ByteArray} (h : isNumL (bytesOf x) = true) : x.size ≤ 18 := by
  have := (numL_of h).2.2.2
  rw [length_bytesOf] at this; omega

set_option maxHeartbeats 800000 in
theorem number_range (K bw ow m cap : Nat) (x : ByteArray) (at_ lo hi : Int) (w : World) (hn : Next w K bw ow m cap x at_) (hx : x.size ≤ 20000) (hv : ¬ numL (bytesOf x) < 0) (hr : numL (bytesOf x) < lo ∨ hi < numL (bytesOf x)) :
    Calls Tryz.prog 81 #[.pointer (some ⟨K, 0, none⟩), .int .i64 lo, .int .i64 hi] w fun e w' => e = gaveUp 4 at_ ∧ TookB w K bw ow m cap w' := by
  have hw := hide' hn.word
  have HN := hide' hn
  have hz := isNum_of hv
  have HA := hide' (atoi_num hz)
  have HS := hide' (size_of_num hz)
  clear hn hv
  by_cases h1 : lo ≤ numL (bytesOf x)
  · have h2 : hi < numL (bytesOf x) := by omega
    have hd : decide (numL (bytesOf x) ≤ hi) = false := decide_eq_false (by omega)
    clear hr
    go_enter Tryz.func81, Tryz.ntmps81
    go_wp2_with (first | (go_at_call 62; refine hw.out.mono ?_; rintro e w1 ⟨rfl, ht⟩; have ht' : TookB w K bw ow m cap w1 := ⟨w1, ht, Below.refl _ _⟩) | (go_at_call 94; refine (isNumber_any x _ hx).mono ?_; rintro e w2 ⟨rfl, hb2⟩; have ht2 := ht'.more hb2) | (go_at_call_of 51 (Value.bool true); refine (insist_yes _ _ _).mono ?_; rintro e w3 ⟨rfl, hw'⟩; obtain rfl := hw'.symm) | (go_at_call 95; refine (Tryz.strconv_Atoi x _ HS.out HA.out _).mono ?_; rintro e w4 ⟨rfl, tt, rfl⟩; have hb4 := below_bytesWorld' w2 5 tt) | (go_at_call_of 51 (Value.bool false); refine (insist_no _ _ at_ _ ((ht2.more hb4).cell (by decide) HN.out.hat)).mono ?_; rintro e w5 ⟨rfl, hw'⟩; obtain rfl := hw'.symm))
    exact ⟨rfl, rfl, ht2.more hb4⟩
  · have hd : decide (lo ≤ numL (bytesOf x)) = false := decide_eq_false h1
    clear hr
    go_enter Tryz.func81, Tryz.ntmps81
    go_wp2_with (first | (go_at_call 62; refine hw.out.mono ?_; rintro e w1 ⟨rfl, ht⟩; have ht' : TookB w K bw ow m cap w1 := ⟨w1, ht, Below.refl _ _⟩) | (go_at_call 94; refine (isNumber_any x _ hx).mono ?_; rintro e w2 ⟨rfl, hb2⟩; have ht2 := ht'.more hb2) | (go_at_call_of 51 (Value.bool true); refine (insist_yes _ _ _).mono ?_; rintro e w3 ⟨rfl, hw'⟩; obtain rfl := hw'.symm) | (go_at_call 95; refine (Tryz.strconv_Atoi x _ HS.out HA.out _).mono ?_; rintro e w4 ⟨rfl, tt, rfl⟩; have hb4 := below_bytesWorld' w2 5 tt) | (go_at_call_of 51 (Value.bool false); refine (insist_no _ _ at_ _ ((ht2.more hb4).cell (by decide) HN.out.hat)).mono ?_; rintro e w5 ⟨rfl, hw'⟩; obtain rfl := hw'.symm))
    exact ⟨rfl, rfl, ht2.more hb4⟩

set_option maxHeartbeats 800000 in
theorem number_ok (K bw ow m cap : Nat) (x : ByteArray) (at_ lo hi : Int) (w : World) (hn : Next w K bw ow m cap x at_) (hx : x.size ≤ 20000) (hv : ¬ numL (bytesOf x) < 0) (hr : ¬ (numL (bytesOf x) < lo ∨ hi < numL (bytesOf x))) :
    Calls Tryz.prog 81 #[.pointer (some ⟨K, 0, none⟩), .int .i64 lo, .int .i64 hi] w fun e w' => e = .returned (.int .i64 (numL (bytesOf x))) ∧ TookB w K bw ow m cap w' := by
  have hw := hide' hn.word
  have hz := isNum_of hv
  have HA := hide' (atoi_num hz)
  have HS := hide' (size_of_num hz)
  clear hn hv
  have h1 : lo ≤ numL (bytesOf x) := by omega
  have h2 : numL (bytesOf x) ≤ hi := by omega
  have hd1 : decide (lo ≤ numL (bytesOf x)) = true := decide_eq_true h1
  have hd2 : decide (numL (bytesOf x) ≤ hi) = true := decide_eq_true h2
  clear hr
  go_enter Tryz.func81, Tryz.ntmps81
  go_wp2_with (first | (go_at_call 62; refine hw.out.mono ?_; rintro e w1 ⟨rfl, ht⟩; have ht' : TookB w K bw ow m cap w1 := ⟨w1, ht, Below.refl _ _⟩) | (go_at_call 94; refine (isNumber_any x _ hx).mono ?_; rintro e w2 ⟨rfl, hb2⟩; have ht2 := ht'.more hb2) | (go_at_call_of 51 (Value.bool true); refine (insist_yes _ _ _).mono ?_; rintro e w3 ⟨rfl, hw'⟩; obtain rfl := hw'.symm) | (go_at_call 95; refine (Tryz.strconv_Atoi x _ HS.out HA.out _).mono ?_; rintro e w4 ⟨rfl, tt, rfl⟩; have hb4 := below_bytesWorld' w2 5 tt))
  go_ret
  exact ⟨rfl, ht2.more hb4⟩

set_option maxHeartbeats 800000 in
theorem clone_any (x : ByteArray) (w : World) (hx : x.size ≤ 20000) : Calls Tryz.prog 78 #[.string x] w fun e w' => e = .returned (.string x) ∧ Below w.heap.size w w' := by
  go_enter Tryz.func78, Tryz.ntmps78
  go_wp2_with (go_at_call 93; refine (Tryz.stringslite_Clone x _ (by omega)).mono ?_; rintro e w1 ⟨rfl, hb⟩)
  go_ret
  exact ⟨rfl, hb⟩

set_option maxHeartbeats 800000 in
theorem name_no (K bw ow m cap : Nat) (x : ByteArray) (at_ : Int) (w : World) (hn : Next w K bw ow m cap x at_) (hx : x.size ≤ 20000) (hv : nameL (bytesOf x) = false) :
    Calls Tryz.prog 64 #[.pointer (some ⟨K, 0, none⟩)] w fun e w' => e = gaveUp 5 at_ ∧ TookB w K bw ow m cap w' := by
  have hw := hide' hn.word
  have HN := hide' hn
  clear hn
  go_enter Tryz.func64, Tryz.ntmps64
  go_wp2_with (first | (go_at_call 62; refine hw.out.mono ?_; rintro e w1 ⟨rfl, ht⟩; have ht' : TookB w K bw ow m cap w1 := ⟨w1, ht, Below.refl _ _⟩) | (go_at_call 77; refine (isName_any x _ hx).mono ?_; rintro e w2 ⟨rfl, hb2⟩; have ht2 := ht'.more hb2) | (go_at_call 51; refine (insist_no _ _ at_ _ (ht2.cell (by decide) HN.out.hat)).mono ?_; rintro e w3 ⟨rfl, hw'⟩; obtain rfl := hw'.symm))
  exact ⟨rfl, rfl, ht2⟩

set_option maxHeartbeats 800000 in
theorem name_ok (K bw ow m cap : Nat) (x : ByteArray) (at_ : Int) (w : World) (hn : Next w K bw ow m cap x at_) (hx : x.size ≤ 20000) (hv : nameL (bytesOf x) = true) :
    Calls Tryz.prog 64 #[.pointer (some ⟨K, 0, none⟩)] w fun e w' => e = .returned (.string x) ∧ TookB w K bw ow m cap w' := by
  have hw := hide' hn.word
  clear hn
  go_enter Tryz.func64, Tryz.ntmps64
  go_wp2_with (first | (go_at_call 62; refine hw.out.mono ?_; rintro e w1 ⟨rfl, ht⟩; have ht' : TookB w K bw ow m cap w1 := ⟨w1, ht, Below.refl _ _⟩) | (go_at_call 77; refine (isName_any x _ hx).mono ?_; rintro e w2 ⟨rfl, hb2⟩; have ht2 := ht'.more hb2) | (go_at_call 51; refine (insist_yes _ _ _).mono ?_; rintro e w3 ⟨rfl, hw'⟩; obtain rfl := hw'.symm) | (go_at_call 78; refine (clone_any x _ hx).mono ?_; rintro e w4 ⟨rfl, hb4⟩))
  go_ret
  exact ⟨rfl, ht2.more hb4⟩
end Go.Proofs.YtpbalclhdhjnoaaGreatDoor
namespace Go.Proofs.YtpbalclhdhjnoaaGreatDoor
open Go.RowKit Go.Maps

/-- The names that are taken, each with its place. -/
abbrev Taken := List UInt8 → Option Int
/-- The map of names. -/
def TakenAt (w : World) (M n : Nat) (f : Taken) : Prop :=
  ∃ D : DataW Unit, IsMap D ∧ w.ownsMap Tryz.prog 9 (plainElem Tryz.prog 3) M n D ∧ ∀ k, has D (.string k) = (f k).isSome ∧ D.atKey (.string k) (.lit (.int .i64 0)) = .lit (.int .i64 ((f k).getD 0))
def Taken.set (f : Taken) (x : List UInt8) (v : Int) : Taken := fun k => if k = x then some v else f k
/-- The words that are yet to be taken. -/
def LeftAt (w : World) (Z K M : Nat) (wv : Value) (ws : List ByteArray) : Prop :=
  ws.length ≤ 100000 ∧ ∃ a cap, wv = .slice a ws.length cap ∧ ws.length ≤ cap ∧ cap ≤ maxLen ∧ (ws = [] ∨ ∃ bw ow, a = some ⟨bw, ow, none⟩ ∧ bw < Z ∧ bw ≠ K ∧ bw ≠ M ∧ ∀ j x, ws[j]? = some x → w.cell? ⟨bw, ow + j, none⟩ = some (.string x))
/-- The reader's state. -/
structure StV (w : World) (B Z K M : Nat) (b l g d t wv : Value) (N : NetM) (n : Nat) (f : Taken) (at_ : Int) (ws : List ByteArray) : Prop where
  box : w.heap[K]? = some (.cells #[.string N.name, b, l, g, d, t, .map (some M), .int .i64 at_, wv] 99 (0, 0))
  owns : Owns w B b l g d t N
  names : TakenAt w M n f
  words : LeftAt w Z K M wv ws
  hBK : B ≤ K
  hBM : B ≤ M
  hKZ : K < Z
  hMZ : M < Z
  hz : ∀ v ∈ [b, l, g, d, t], ∀ k, v.ownBlock = some k → k < Z
def St (w : World) (B Z K M : Nat) (N : NetM) (n : Nat) (f : Taken) (at_ : Int) (ws : List ByteArray) : Prop := ∃ b l g d t wv, StV w B Z K M b l g d t wv N n f at_ ws

/-- A loop's record, or the block of its deferred calls. -/
def keptO : Obj → Bool
  | .loop _ => true
  | .deferred _ => true
  | _ => false
/-- Nothing under B has changed, nor a loop's record or its deferred calls. -/
structure Bel (B : Nat) (w w' : World) : Prop extends Below B w w' where
  rest : ∀ (k : Nat) (o : Obj), w.heap[k]? = some o → keptO o = true → w'.heap[k]? = some o
theorem Bel.refl (B : Nat) (w : World) : Bel B w w := ⟨Below.refl B w, fun _ _ h _ => h⟩
theorem Bel.trans {B : Nat} {a b c : World} (h : Bel B a b) (k : Bel B b c) : Bel B a c := ⟨h.toBelow.trans k.toBelow, fun i o hi ho => k.rest i o (h.rest i o hi ho) ho⟩
theorem Bel.alloc {B : Nat} {a b : World} (h : Bel B a b) (hB : B ≤ b.heap.size) (o : Obj) : Bel B a (b.alloc o) :=
  ⟨h.toBelow.alloc hB o, fun i o' hi ho => by
    have h1 := h.rest i o' hi ho
    exact (Below.heap_alloc b o i (Array.getElem?_eq_some_iff.1 h1).1).trans h1⟩
theorem rest_set (w : World) (a : Addr) (v : Value) (k : Nat) (o : Obj) (hk : w.heap[k]? = some o) (ho : keptO o = true) : (w.setCell a v).heap[k]? = some o := by
  by_cases e : k = a.block
  · subst e
    simp only [World.setCell, Array.getElem?_modify, if_true, hk, Option.map_some]
    cases o <;> first | rfl | cases ho
  · exact (Below.heap_setCell w a v k e).trans hk
/-- Nothing that was there has changed but the reader's struct and its map. -/
structure Fr (K M : Nat) (w w' : World) : Prop where
  os : w'.os = w.os
  tape : w'.tape = w.tape
  output : w'.output = w.output
  size : w.heap.size ≤ w'.heap.size
  block : ∀ k, k < w.heap.size → k ≠ K → k ≠ M → w'.heap[k]? = w.heap[k]?
theorem Fr.ofDrew {K M : Nat} {w w' : World} (h : Fr K M w.drew w') : Fr K M w w' := ⟨h.os, h.tape, h.output, h.size, h.block⟩
theorem Fr.trans {K M : Nat} {a b c : World} (h : Fr K M a b) (k : Fr K M b c) : Fr K M a c :=
  ⟨k.os.trans h.os, k.tape.trans h.tape, k.output.trans h.output, Nat.le_trans h.size k.size, fun i hi h1 h2 => (k.block i (Nat.lt_of_lt_of_le hi h.size) h1 h2).trans (h.block i hi h1 h2)⟩
section
variable {w : World} {B Z K M : Nat} {b l g d t wv : Value} {N : NetM} {n : Nat} {f : Taken} {at_ : Int} {ws : List ByteArray}
theorem StV.lt (h : StV w B Z K M b l g d t wv N n f at_ ws) : K < w.heap.size := (Array.getElem?_eq_some_iff.1 h.box).1
theorem TakenAt.block (h : TakenAt w M n f) : ∃ es clock, w.heap[M]? = some (.map es clock) := by
  obtain ⟨D, _, ⟨es, cl, hb, _⟩, _⟩ := h
  exact ⟨es, cl, hb⟩
theorem TakenAt.ltM (h : TakenAt w M n f) : M < w.heap.size := by
  obtain ⟨es, cl, hb⟩ := h.block
  exact (Array.getElem?_eq_some_iff.1 hb).1
theorem TakenAt.of_block {w' : World} (h : TakenAt w M n f) (e : w'.heap[M]? = w.heap[M]?) : TakenAt w' M n f := by
  obtain ⟨D, h1, ⟨es, cl, hb, h2⟩, h3⟩ := h
  exact ⟨D, h1, ⟨es, cl, e.trans hb, h2⟩, h3⟩
theorem StV.ne (h : StV w B Z K M b l g d t wv N n f at_ ws) : K ≠ M := by
  rintro rfl
  obtain ⟨es, cl, hb⟩ := h.names.block
  rw [h.box] at hb; cases hb
theorem StV.cell {v : Value} (h : StV w B Z K M b l g d t wv N n f at_ ws) (j : Nat) (hv : (#[.string N.name, b, l, g, d, t, .map (some M), .int .i64 at_, wv] : Array Value)[j]? = some v) : w.cell? ⟨K, j, none⟩ = some v := by
  simp only [World.cell?, h.box]
  exact hv
theorem StV.frozen (h : StV w B Z K M b l g d t wv N n f at_ ws) (j : Nat) : w.frozen? ⟨K, j, none⟩ = false := by
  simp [World.frozen?, h.box]
theorem own_block {w w' : World} {B e sz n K : Nat} {v : Value} {xs : List Value} {cur : Array Value} {e' : TypeId} {fz : Nat × Nat} (h : w.ownsRow B e sz v n xs) (hk : w.heap[K]? = some (.cells cur e' fz)) (he : e ≠ e') (hb : ∀ k, k < w.heap.size → k ≠ K → w'.heap[k]? = w.heap[k]?) : w'.ownsRow B e sz v n xs := by
  refine ⟨h.1, ?_⟩
  rcases h.2 with h2 | ⟨g, cap, cur', h3, h4, h5, h6⟩
  · exact .inl h2
  · refine .inr ⟨g, cap, cur', h3, h4, (hb g (Array.getElem?_eq_some_iff.1 h5).1 ?_).trans h5, h6⟩
    rintro rfl
    rw [hk] at h5; cases h5; exact he rfl
theorem StV.next {x : ByteArray} (h : StV w B Z K M b l g d t wv N n f at_ (x :: ws)) : ∃ bw ow cap, wv = .slice (some ⟨bw, ow, none⟩) (ws.length + 1) cap ∧ bw < Z ∧ bw ≠ K ∧ bw ≠ M ∧ (∀ j y, ws[j]? = some y → w.cell? ⟨bw, ow + 1 + j, none⟩ = some (.string y)) ∧ Next w K bw ow ws.length cap x at_ := by
  obtain ⟨h1, a, cap, rfl, h2, h3, h4⟩ := h.words
  rcases h4 with h4 | ⟨bw, ow, rfl, hZ, h5, h6, h7⟩
  · cases h4
  · refine ⟨bw, ow, cap, rfl, hZ, h5, h6, fun j y hj => ?_, h.cell 8 rfl, h7 0 x rfl, h.frozen 8, h2, h3, ?_, h.cell 7 rfl⟩
    · have := h7 (j + 1) y (by simpa using hj)
      rwa [show ow + 1 + j = ow + (j + 1) by omega]
    · simp only [List.length_cons] at h1; omega
/-- Behind the next word the state is as ahead of it, but for the words. -/
theorem StV.took {x : ByteArray} (h : StV w B Z K M b l g d t wv N n f at_ (x :: ws)) : ∃ bw ow cap, Next w K bw ow ws.length cap x at_ ∧ ∀ w', TookB w K bw ow ws.length cap w' → St w' B Z K M N n f at_ ws ∧ Fr K M w w' := by
  obtain ⟨bw, ow, cap, rfl, hZ, hK, hM, hc, hn⟩ := h.next
  refine ⟨bw, ow, cap, hn, ?_⟩
  rintro w' ⟨w1, ⟨a', rfl, ha⟩, hb⟩
  have hB1 : ∀ k, k ≠ K → (w.setCell ⟨K, 8, none⟩ (.slice (some a') ws.length (cap - 1))).heap[k]? = w.heap[k]? := fun k hk => Below.heap_setCell w _ _ k hk
  have hs : (w.setCell ⟨K, 8, none⟩ (.slice (some a') ws.length (cap - 1))).heap.size = w.heap.size := by simp [World.setCell]
  have hblk : ∀ k, k < w.heap.size → k ≠ K → w'.heap[k]? = w.heap[k]? := fun k hk hne => (hb.block k (by rw [hs]; exact hk)).trans (hB1 k hne)
  have hKb : w'.heap[K]? = some (.cells #[.string N.name, b, l, g, d, t, .map (some M), .int .i64 at_, .slice (some a') ws.length (cap - 1)] 99 (0, 0)) := by
    rw [hb.block K (by rw [hs]; exact h.lt)]
    simp only [World.setCell, Array.getElem?_modify, if_true, h.box, Option.map_some]
    rfl
  have o := h.owns
  refine ⟨⟨b, l, g, d, t, _, hKb, ⟨own_block o.hb h.box (by decide) hblk, own_block o.hl h.box (by decide) hblk, own_block o.hg h.box (by decide) hblk, own_block o.hd h.box (by decide) hblk, own_block o.ht h.box (by decide) hblk⟩, h.names.of_block (hblk M h.names.ltM h.ne.symm), ?_, h.hBK, h.hBM, h.hKZ, h.hMZ, h.hz⟩, ?_⟩
  · have h1 := h.words.1
    have h2 := hn.hm
    have h3 := hn.hmax
    refine ⟨by simp only [List.length_cons] at h1; omega, some a', cap - 1, rfl, by omega, by simp only [maxLen]; omega, ?_⟩
    by_cases hw : ws = []
    · exact .inl hw
    · have hl : 0 < ws.length := List.length_pos_iff.2 hw
      obtain rfl := ha (by omega)
      refine .inr ⟨bw, ow + 1, rfl, hZ, hK, hM, fun j y hj => ?_⟩
      have hcy := hc j y hj
      have hlt : bw < w.heap.size := World.block_lt_of_cell? w _ hcy
      rw [World.cell?_of_block (hblk bw hlt hK)]
      exact hcy
  · exact ⟨hb.os, hb.tape, hb.output, by have := hb.size; rw [hs] at this; exact this, fun k hk h1 _ => hblk k hk h1⟩
theorem StV.fr {w' : World} (h : StV w B Z K M b l g d t wv N n f at_ ws) (hf : Fr K M w w') : Bel B w w' :=
  ⟨⟨hf.os, hf.tape, hf.output, hf.size, fun k hk => hf.block k (by have := h.lt; have := h.hBK; omega) (by have := h.hBK; omega) (by have := h.hBM; omega)⟩, fun k o hk ho => (hf.block k (Array.getElem?_eq_some_iff.1 hk).1 (by
    rintro rfl
    rw [h.box] at hk; cases hk; cases ho) (by
    rintro rfl
    obtain ⟨es, cl, hb⟩ := h.names.block
    rw [hb] at hk; cases hk; cases ho)).trans hk⟩
theorem St.fr {w' : World} (h : St w B Z K M N n f at_ ws) (hf : Fr K M w w') : Bel B w w' := by
  obtain ⟨b, l, g, d, t, wv, h⟩ := h
  exact h.fr hf
end
end Go.Proofs.YtpbalclhdhjnoaaGreatDoor
