/- The raw numbers' own helpers: a number within a range, a small number's form. -/
import Derived.Test.YtefkgllanghmfabDoorShw
import Derived.Laws.IdiomStrings
namespace Go.Proofs.YtefkgllanghmfabDoor
open Go.RowKit Go.Shelf

theorem tmod_within (a : Int) (f : Nat) (ha : 0 ≤ a) (hf : 0 < f) : ∃ p : Nat, a.tmod f = p ∧ p < f := by
  have h1 := Int.tmod_nonneg (f : Int) ha
  have h2 := Int.tmod_lt_of_pos a (show (0 : Int) < f by omega)
  exact ⟨(a.tmod f).toNat, (Int.toNat_of_nonneg h1).symm, by omega⟩
set_option maxHeartbeats 1000000 in
theorem picked_any (n : Int) (f : Nat) (w : World) (h0 : -9223372036854775808 ≤ n) (h1 : n ≤ 9223372036854775807) (hf : 0 < f) (hf1 : f ≤ 1000) :
    Calls Tryd.prog 8 #[.int .i64 n, .int .i64 f] w fun e w' => (∃ p : Nat, e = .returned (.int .i64 p) ∧ p < f) ∧ w' = w := by
  have hf0 : ((f : Int) == 0) = false := by simp; omega
  by_cases hn : n < 0
  · obtain ⟨p, hp, hlt⟩ := tmod_within (-(n + 1)) f (by omega) hf
    rw [Int.neg_tmod] at hp
    go_enter Tryd.func8, Tryd.ntmps8
    go_wp2
    go_ret
    exact ⟨⟨p, by first | rfl | rw [hp], hlt⟩, rfl⟩
  · obtain ⟨p, hp, hlt⟩ := tmod_within n f (by omega) hf
    go_enter Tryd.func8, Tryd.ntmps8
    go_wp2
    go_ret
    exact ⟨⟨p, by first | rfl | rw [hp], hlt⟩, rfl⟩

/-- The last digit. -/
def dg (m : Nat) : UInt8 := UInt8.ofNat (48 + m % 10)
/-- A small number's digits. -/
def digs (k : Nat) : List UInt8 := if k < 10 then [UInt8.ofNat (48 + k)] else [UInt8.ofNat (48 + k / 10), UInt8.ofNat (48 + k % 10)]
theorem digs_dec : ∀ u : Nat, u < 100 → digs u = Lib.decDigits u := by decide +kernel
theorem digs_text {k : Nat} (hk : k < 100) : textOf (digs k) = decB k := by
  unfold decB Lib.itoa
  rw [if_neg (by omega), digs_dec k hk]
  rfl
theorem textOf_cons (c : UInt8) (l : List UInt8) : textOf [c] ++ textOf l = textOf (c :: l) := by
  apply ByteArray.ext
  simp [textOf]
theorem conv_digit (m : Nat) (w : World) : (convert 56 9 (.slice (some ⟨w.heap.size, 0, none⟩) 1 1)).run Tryd.prog (w.alloc (.cells #[.int .u8 (48 + (m : Int) % 10)] 5)) = .ok (.string (textOf [dg m])) (w.alloc (.cells #[.int .u8 (48 + (m : Int) % 10)] 5)) := by
  refine run_convert_bytes_back _ 56 9 5 ⟨w.heap.size, 0, none⟩ 1 [dg m] Tryd.underlying56 Tryd.underlying5 Tryd.underlying9 (fun j hj => ?_)
  have hj0 : j = 0 := by simpa using hj
  subst hj0
  have h2 : ((dg m).toNat : Int) = 48 + (m : Int) % 10 := by
    rw [dg, UInt8.toNat_ofNat']
    omega
  simp only [List.getElem_cons_zero]
  rw [h2]
  simp [go_sem]
/-- How far the digits are told. -/
def DS (k m : Nat) (l : List UInt8) : Prop := (m = k ∧ l = []) ∨ (m = k / 10 ∧ l = [dg k]) ∨ (m = 0 ∧ l = digs k)
theorem DS.next {k m : Nat} {l : List UInt8} (hk : k < 100) (hm : 0 < m) (h : DS k m l) : DS k (m / 10) (dg m :: l) := by
  rcases h with ⟨rfl, rfl⟩ | ⟨rfl, rfl⟩ | ⟨rfl, _⟩
  · exact .inr (.inl ⟨rfl, rfl⟩)
  · refine .inr (.inr ⟨by omega, ?_⟩)
    unfold digs
    rw [if_neg (by omega), dg, dg, Nat.mod_eq_of_lt (show k / 10 < 10 by omega)]
  · omega
theorem DS.last {k : Nat} {l : List UInt8} (h0 : k ≠ 0) (h : DS k 0 l) : l = digs k := by
  rcases h with ⟨rfl, rfl⟩ | ⟨h1, rfl⟩ | ⟨_, rfl⟩
  · exact absurd rfl h0
  · unfold digs
    rw [if_pos (by omega), dg, Nat.mod_eq_of_lt (by omega)]
  · rfl
set_option maxHeartbeats 2000000 in
set_option maxRecDepth 100000 in
theorem dec_any (k : Nat) (hk : k < 100) (w : World) : Calls Tryd.prog 9 #[.int .i64 k] w fun e w' => e = .returned (.string (decB k)) ∧ Below w.heap.size w w' := by
  by_cases h0 : k = 0
  · subst h0
    go_enter Tryd.func9, Tryd.ntmps9
    go_wp2
    go_ret
    refine ⟨?_, Below.refl _ _⟩
    rw [show ((0 : Nat) : Int) = ((0 : Nat) : Int) from rfl, ← digs_text (k := 0) (by omega)]
    rfl
  · have hk0 : ((k : Int) == 0) = false := by simp; omega
    have hkn : decide ((k : Int) < 0) = false := by simp
    go_enter Tryd.func9, Tryd.ntmps9
    go_wp2
    go_loopw [3, 4] (fun s3 s4 W => ∃ (m : Nat) (l : List UInt8), s3 = .string (textOf l) ∧ s4 = .int .i64 m ∧ Hid (DS k m l) ∧ m ≤ 100 ∧ l.length + m ≤ 100 ∧ Hid (Below w.heap.size w W)) (fun _ s4 _ => (intOf s4).toNat)
    case atStart => exact ⟨k, [], rfl, rfl, .inl ⟨rfl, rfl⟩, by omega, by simp; omega, Below.refl _ _⟩
    case round =>
      obtain ⟨m, l, rfl, rfl, HD, hm, hlen, HB⟩ := hrel
      by_cases hm0 : 0 < m
      · have hcv := conv_digit m wr
        have hsz : ¬ 9223372036854775807 < (textOf [dg m]).size + (textOf l).size := by
          rw [size_textOf, size_textOf, List.length_singleton]
          omega
        have hap := textOf_cons (dg m) l
        obtain ⟨tx, htx⟩ : ∃ tx, tx = textOf [dg m] := ⟨_, rfl⟩
        obtain ⟨tl, htl⟩ : ∃ tl, tl = textOf l := ⟨_, rfl⟩
        rw [← htx] at hcv hsz hap
        rw [← htl] at hsz hap ⊢
        have HAP := hide' hap
        clear htx htl hap
        go_wp2
        refine ⟨⟨m / 10, dg m :: l, ?_, ?_, HD.out.next hk hm0, by omega, by simp; omega, HB.out.alloc HB.out.size _⟩, ?_⟩
        · rw [HAP.out]
        · simp
        · simp [intOf]; omega
      · have hm1 : m = 0 := by omega
        subst hm1
        have hl := HD.out.last h0
        clear HD hlen
        go_wp2
        go_ret
        refine ⟨?_, HB.out⟩
        rw [← digs_text hk, ← hl]
        rfl
end Go.Proofs.YtefkgllanghmfabDoor
