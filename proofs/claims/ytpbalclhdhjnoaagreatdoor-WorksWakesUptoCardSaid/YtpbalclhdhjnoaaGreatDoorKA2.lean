/- Contract: the place of a text in a list of texts, in the document's answer. -/
import Derived.Test.YtpbalclhdhjnoaaGreatDoorKA1
import Derived.Laws.RangeAny
import Derived.Deep.QuietTactic
import Derived.BigQuiet
namespace Go.Proofs.YtpbalclhdhjnoaaGreatDoor
open Go.RowKit

/-- A list that can be read: n elements of sz cells each, the cells are xs. -/
def RowAt (w : World) (v : Value) (n sz : Nat) (xs : List Value) : Prop :=
  xs.length = n * sz ∧ ∃ a cap, v = .slice a n cap ∧ ∀ j u, xs[j]? = some u → ∃ b off, a = some ⟨b, off, none⟩ ∧ w.cell? ⟨b, off + j, none⟩ = some u
theorem add_zero_off (g j : Nat) : (⟨g, 0, none⟩ : Addr).add j = ⟨g, 0 + j, none⟩ := by
  by_cases h0 : j = 0
  · subst h0; simp [Addr.add]
  · simp [Addr.add, h0]
theorem rowAt_of_own {w : World} {B e sz n : Nat} {v : Value} {xs : List Value} (h : w.ownsRow B e sz v n xs) : RowAt w v n sz xs := by
  refine ⟨h.1, ?_⟩
  rcases h.2 with ⟨rfl, h2⟩ | ⟨g, cap, cur, rfl, h3, h4, h5, h6, h7, h8⟩
  · subst h2
    refine ⟨none, 0, rfl, fun j u hj => ?_⟩
    have : xs = [] := List.length_eq_zero_iff.1 (by simpa using h.1)
    subst this; simp at hj
  · exact ⟨_, cap, rfl, fun j u hj => ⟨g, 0, rfl, by
      have := h.cells rfl j u hj
      rwa [add_zero_off] at this⟩⟩
def placeFrom (s : ByteArray) : Nat → List ByteArray → Int
  | _, [] => -1
  | k, x :: r => if x = s then (k : Int) else placeFrom s (k + 1) r
def placeL (xs : List ByteArray) (s : ByteArray) : Int := placeFrom s 0 xs
end Go.Proofs.YtpbalclhdhjnoaaGreatDoor
namespace Go.Proofs.YtpbalclhdhjnoaaGreatDoor
open Go.RowKit

theorem ascii_yes {c : UInt8} (h : (c.toNat : Int) < 128) : asciiB c = true := decide_eq_true h
theorem ascii_no {c : UInt8} (h : ¬ (c.toNat : Int) < 128) : asciiB c = false := decide_eq_false h
theorem lead_yes {c : UInt8} (h : 195 ≤ (c.toNat : Int)) (h' : (c.toNat : Int) ≤ 201) : leadB c = true := by unfold leadB; rw [decide_eq_true h, decide_eq_true h']; rfl
theorem lead_no {c : UInt8} (h : ¬ (195 ≤ (c.toNat : Int) ∧ (c.toNat : Int) ≤ 201)) : leadB c = false := by
  unfold leadB; rw [← Bool.decide_and]; exact decide_eq_false h
theorem cont_yes {c : UInt8} (h : 128 ≤ (c.toNat : Int)) (h' : (c.toNat : Int) ≤ 191) : contB c = true := by unfold contB; rw [decide_eq_true h, decide_eq_true h']; rfl
theorem cont_no {c : UInt8} (h : ¬ (128 ≤ (c.toNat : Int) ∧ (c.toNat : Int) ≤ 191)) : contB c = false := by
  unfold contB; rw [← Bool.decide_and]; exact decide_eq_false h

/-- The name goes on: behind k bytes, m letters, it is one just if the whole is one. -/
def NamesAt (s : ByteArray) (k m : Nat) : Prop := nameGo ((bytesOf s).drop k) none m = nameL (bytesOf s)
theorem NamesAt.one {s : ByteArray} {k m : Nat} (h : NamesAt s k m) (hk : k < s.size) (ha : (s[k].toNat : Int) < 128) (ho : okR s[k].toNat m = true) : NamesAt s (k + 1) (m + 1) := by
  have ho' : okR (runeU s[k]) m = true := ho
  unfold NamesAt at *; rw [drop_cons s k hk, nameGo_ascii _ _ _ (ascii_yes ha), ho', cond_true] at h; exact h
theorem NamesAt.oneNo {s : ByteArray} {k m : Nat} (h : NamesAt s k m) (hk : k < s.size) (ha : (s[k].toNat : Int) < 128) (ho : okR s[k].toNat m = false) : nameL (bytesOf s) = false := by
  have ho' : okR (runeU s[k]) m = false := ho
  unfold NamesAt at *; rw [drop_cons s k hk, nameGo_ascii _ _ _ (ascii_yes ha), ho', cond_false] at h; exact h.symm
theorem NamesAt.lead {s : ByteArray} {k m : Nat} (h : NamesAt s k m) (hk : k < s.size) (ha : ¬ (s[k].toNat : Int) < 128) (hl : leadB s[k] = true) : nameGo ((bytesOf s).drop (k + 1)) (some s[k]) m = nameL (bytesOf s) := by
  unfold NamesAt at *; rw [drop_cons s k hk, nameGo_lead _ _ _ (ascii_no ha), hl, cond_true] at h; exact h
theorem NamesAt.leadNo {s : ByteArray} {k m : Nat} (h : NamesAt s k m) (hk : k < s.size) (ha : ¬ (s[k].toNat : Int) < 128) (hl : leadB s[k] = false) : nameL (bytesOf s) = false := by
  unfold NamesAt at *; rw [drop_cons s k hk, nameGo_lead _ _ _ (ascii_no ha), hl, cond_false] at h; exact h.symm
theorem NamesAt.half {s : ByteArray} {k m : Nat} (h : NamesAt s k m) (hk : k < s.size) (ha : ¬ (s[k].toNat : Int) < 128) (hk1 : ¬ k + 1 < s.size) : nameL (bytesOf s) = false := by
  cases hl : leadB s[k] with
  | false => exact h.leadNo hk ha hl
  | true =>
    have h2 := h.lead hk ha hl
    rw [List.drop_of_length_le (by rw [length_bytesOf]; omega), nameGo_half] at h2; exact h2.symm
theorem NamesAt.contNo {s : ByteArray} {k m : Nat} (h : NamesAt s k m) (hk : k < s.size) (hk1 : k + 1 < s.size) (ha : ¬ (s[k].toNat : Int) < 128) (hc : contB s[k + 1] = false) : nameL (bytesOf s) = false := by
  cases hl : leadB s[k] with
  | false => exact h.leadNo hk ha hl
  | true =>
    have h2 := h.lead hk ha hl
    rw [drop_cons s (k + 1) hk1, nameGo_cont, hc, cond_false] at h2; exact h2.symm
theorem NamesAt.two {s : ByteArray} {k m : Nat} (h : NamesAt s k m) (hk : k < s.size) (hk1 : k + 1 < s.size) (ha : ¬ (s[k].toNat : Int) < 128) (hl : leadB s[k] = true) (hc : contB s[k + 1] = true)
    (ho : okR (runeOf s[k] s[k + 1]) m = true) : NamesAt s (k + 2) (m + 1) := by
  have h2 := h.lead hk ha hl
  rw [drop_cons s (k + 1) hk1, nameGo_cont, hc, cond_true, ho, cond_true] at h2; exact h2
theorem NamesAt.twoNo {s : ByteArray} {k m : Nat} (h : NamesAt s k m) (hk : k < s.size) (hk1 : k + 1 < s.size) (ha : ¬ (s[k].toNat : Int) < 128) (hl : leadB s[k] = true) (hc : contB s[k + 1] = true)
    (ho : okR (runeOf s[k] s[k + 1]) m = false) : nameL (bytesOf s) = false := by
  have h2 := h.lead hk ha hl
  rw [drop_cons s (k + 1) hk1, nameGo_cont, hc, cond_true, ho, cond_false] at h2; exact h2.symm
theorem NamesAt.fin {s : ByteArray} {k m : Nat} (h : NamesAt s k m) (hk : ¬ k < s.size) : nameL (bytesOf s) = (decide (0 < (m : Int)) && decide ((m : Int) ≤ 16)) := by
  unfold NamesAt at *
  rw [List.drop_of_length_le (by rw [length_bytesOf]; omega), nameGo_nil] at h
  exact h.symm
end Go.Proofs.YtpbalclhdhjnoaaGreatDoor
namespace Go.Proofs.YtpbalclhdhjnoaaGreatDoor
open Go.RowKit

theorem get!_of_lt (s : ByteArray) (k : Nat) (h : k < s.size) : s.get! k = s[k] := by
  simp only [ByteArray.get!, ByteArray.size] at *
  exact getElem!_pos s.data k h
theorem dec_two (s : ByteArray) (k : Nat) (h : k < s.size) (h1 : k + 1 < s.size) (a : 195 ≤ (s[k].toNat : Int)) (b : (s[k].toNat : Int) ≤ 201) (c : 128 ≤ (s[k + 1].toNat : Int)) (d : (s[k + 1].toNat : Int) ≤ 191) :
    Utf8.decode s k = (s[k].toNat % 32 * 64 + s[k + 1].toNat % 64, 2) := by
  have e0 : (s.get! (k + 0)).toNat = s[k].toNat := by rw [Nat.add_zero, get!_of_lt s k h]
  have e1 : (s.get! (k + 1)).toNat = s[k + 1].toNat := by rw [get!_of_lt s (k + 1) h1]
  unfold Utf8.decode
  simp only [e0, e1]
  rw [if_neg (by omega), if_pos (by simp; omega), if_pos (by omega)]
theorem dec_bad (s : ByteArray) (k : Nat) (h : k < s.size) (ha : ¬ (s[k].toNat : Int) < 128)
    (hb : ∀ h1 : k + 1 < s.size, ¬ (195 ≤ (s[k].toNat : Int) ∧ (s[k].toNat : Int) ≤ 201 ∧ 128 ≤ (s[k + 1].toNat : Int) ∧ (s[k + 1].toNat : Int) ≤ 191)) :
    128 ≤ ((Utf8.decode s k).1 : Int) ∧ (((Utf8.decode s k).1 : Int) < 192 ∨ 591 < ((Utf8.decode s k).1 : Int)) := by
  have e0 : (s.get! (k + 0)).toNat = s[k].toNat := by rw [Nat.add_zero, get!_of_lt s k h]
  have u0 := s[k].toNat_lt
  by_cases h1 : k + 1 < s.size
  · have e1 : (s.get! (k + 1)).toNat = s[k + 1].toNat := by rw [get!_of_lt s (k + 1) h1]
    have hb' := hb h1
    have u1 := s[k + 1].toNat_lt
    unfold Utf8.decode Utf8.runeError
    simp only [e0, e1]
    rw [if_neg (by omega)]
    split
    · rename_i hc
      simp at hc
      split <;> simp <;> omega
    · split
      · split
        · rename_i hv; simp at hv; simp; omega
        · simp
      · split
        · split
          · rename_i hv; simp at hv; simp; omega
          · simp
        · simp
  · unfold Utf8.decode Utf8.runeError
    simp only [e0]
    rw [if_neg (by omega), if_neg (by simp; omega), if_neg (by simp; omega), if_neg (by simp; omega)]
    simp
theorem bad_letter {r : Int} (h : 128 ≤ r) (h' : r < 192 ∨ 591 < r) : letterB r = false ∧ digitB r = false := by
  unfold letterB digitB
  constructor
  · rw [Bool.eq_false_iff]; simp; omega
  · rw [Bool.eq_false_iff]; simp; omega
theorem below_iter (w : World) (s : ByteArray) (p : Nat) : Below w.heap.size w (w.iter s p) := (Below.refl _ w).alloc (Nat.le_refl _) _
theorem okR_pos {r : Int} {n pos : Nat} (h : pos = 0 ↔ n = 0) : okR r n = (letterB r || (digitB r && !((pos : Int) == 0))) := by
  unfold okR
  have : ((n : Int) == 0) = ((pos : Int) == 0) := by rw [Bool.eq_iff_iff]; simp; omega
  rw [this]

theorem ok_cases {r : Int} {n pos : Nat} (h : pos = 0 ↔ n = 0) (ho : okR r n = true) : letterB r = true ∨ (letterB r = false ∧ ((pos : Int) == 0) = false ∧ digitB r = true) := by
  rw [okR_pos h] at ho
  cases h1 : letterB r <;> cases h2 : ((pos : Int) == 0) <;> cases h3 : digitB r <;> rw [h1, h2, h3] at ho <;> simp_all
theorem no_cases {r : Int} {n pos : Nat} (h : pos = 0 ↔ n = 0) (ho : okR r n = false) : (letterB r = false ∧ ((pos : Int) == 0) = true) ∨ (letterB r = false ∧ ((pos : Int) == 0) = false ∧ digitB r = false) := by
  rw [okR_pos h] at ho
  cases h1 : letterB r <;> cases h2 : ((pos : Int) == 0) <;> cases h3 : digitB r <;> rw [h1, h2, h3] at ho <;> simp_all

set_option maxRecDepth 100000 in
set_option maxHeartbeats 2000000 in
theorem isName_any (s : ByteArray) (w : World) (hs : s.size ≤ 20000) :
    Calls Tryz.prog 77 #[.string s] w fun e w' => e = .returned (.bool (nameL (bytesOf s))) ∧ Below w.heap.size w w' := by
  go_enter Tryz.func77, Tryz.ntmps77
  go_wp2
  go_loopw [3] (fun n wr => ∃ (k m : Nat), k ≤ s.size ∧ wr = w.iter s k ∧ n = .int .i64 m ∧ m ≤ k ∧ Hid ((k = 0 ↔ m = 0) ∧ NamesAt s k m)) (fun _ wr => s.size - wr.iterPos w.heap.size)
  case atStart => exact ⟨0, 0, by omega, rfl, rfl, by omega, Iff.rfl, rfl⟩
  case round =>
    obtain ⟨k, m, hk, rfl, rfl, hm, HN⟩ := hrel
    by_cases hlt : k < s.size
    · have hnx : ∀ ty, (Instr.next (.pointer (some ⟨w.heap.size, 0, none⟩)) true ty).run Tryz.prog (w.iter s k) = _ := fun ty => run_next_any w s k ty hlt
      by_cases ha : (s[k].toNat : Int) < 128
      · rw [decode_ascii s k hlt (by omega)] at hnx
        cases ho : okR s[k].toNat m with
        | true =>
          have HP : Hid ((k + 1 = 0 ↔ m + 1 = 0) ∧ NamesAt s (k + 1) (m + 1)) := ⟨by omega, HN.out.2.one hlt ha ho⟩
          have hc := ok_cases HN.out.1 ho
          clear ho HN
          rcases hc with h1 | ⟨h1, h2, h3⟩
          all_goals
            go_wp2_with (first | (go_at_call 91; refine (isLetter_any _ _).mono ?_; rintro e w' ⟨rfl, rfl⟩) | (go_at_call 92; refine (isDigit_any _ _).mono ?_; rintro e w' ⟨rfl, rfl⟩))
            go_roundw
            case rel => exact ⟨k + 1, m + 1, by omega, rfl, by go_num, by omega, HP⟩
            case measure => simp; omega
        | false =>
          have HP : Hid (nameL (bytesOf s) = false) := HN.out.2.oneNo hlt ha ho
          have hc := no_cases HN.out.1 ho
          clear ho HN
          rcases hc with ⟨h1, h2⟩ | ⟨h1, h2, h3⟩
          all_goals
            go_wp2_with (first | (go_at_call 91; refine (isLetter_any _ _).mono ?_; rintro e w' ⟨rfl, rfl⟩) | (go_at_call 92; refine (isDigit_any _ _).mono ?_; rintro e w' ⟨rfl, rfl⟩))
            go_ret
            exact ⟨ret_bool HP.out.symm, below_iter _ _ _⟩
      · by_cases hg : ∃ h1 : k + 1 < s.size, 195 ≤ (s[k].toNat : Int) ∧ (s[k].toNat : Int) ≤ 201 ∧ 128 ≤ (s[k + 1].toNat : Int) ∧ (s[k + 1].toNat : Int) ≤ 191
        · obtain ⟨hk1, a1, a2, a3, a4⟩ := hg
          rw [dec_two s k hlt hk1 a1 a2 a3 a4] at hnx
          have hlb := lead_yes a1 a2
          have hcb := cont_yes a3 a4
          cases ho : okR (runeOf s[k] s[k + 1]) m with
          | true =>
            have HP : Hid ((k + 2 = 0 ↔ m + 1 = 0) ∧ NamesAt s (k + 2) (m + 1)) := ⟨by omega, HN.out.2.two hlt hk1 ha hlb hcb ho⟩
            have hc := ok_cases HN.out.1 ho
            unfold runeOf at hc
            clear ho HN hlb hcb
            rcases hc with h1 | ⟨h1, h2, h3⟩
            all_goals
              go_wp2_with (first | (go_at_call 91; refine (isLetter_any _ _).mono ?_; rintro e w' ⟨rfl, rfl⟩) | (go_at_call 92; refine (isDigit_any _ _).mono ?_; rintro e w' ⟨rfl, rfl⟩))
              go_roundw
              case rel => exact ⟨k + 2, m + 1, by omega, rfl, by go_num, by omega, HP⟩
              case measure => simp; omega
          | false =>
            have HP : Hid (nameL (bytesOf s) = false) := HN.out.2.twoNo hlt hk1 ha hlb hcb ho
            have hc := no_cases HN.out.1 ho
            unfold runeOf at hc
            clear ho HN hlb hcb
            rcases hc with ⟨h1, h2⟩ | ⟨h1, h2, h3⟩
            all_goals
              go_wp2_with (first | (go_at_call 91; refine (isLetter_any _ _).mono ?_; rintro e w' ⟨rfl, rfl⟩) | (go_at_call 92; refine (isDigit_any _ _).mono ?_; rintro e w' ⟨rfl, rfl⟩))
              go_ret
              exact ⟨ret_bool HP.out.symm, below_iter _ _ _⟩
        · have HP : Hid (nameL (bytesOf s) = false) := by
            by_cases hk1 : k + 1 < s.size
            · by_cases hl : 195 ≤ (s[k].toNat : Int) ∧ (s[k].toNat : Int) ≤ 201
              · exact HN.out.2.contNo hlt hk1 ha (cont_no (fun hc => hg ⟨hk1, hl.1, hl.2, hc.1, hc.2⟩))
              · exact HN.out.2.leadNo hlt ha (lead_no hl)
            · exact HN.out.2.half hlt ha hk1
          obtain ⟨d1, d2⟩ := dec_bad s k hlt ha (fun h1 hh => hg ⟨h1, hh⟩)
          obtain ⟨h1, h3⟩ := bad_letter d1 d2
          clear HN hg d2
          by_cases h2 : ((k : Int) == 0) = true
          · go_wp2_with (first | (go_at_call 91; refine (isLetter_any _ _).mono ?_; rintro e w' ⟨rfl, rfl⟩) | (go_at_call 92; refine (isDigit_any _ _).mono ?_; rintro e w' ⟨rfl, rfl⟩))
            go_ret
            exact ⟨ret_bool HP.out.symm, below_iter _ _ _⟩
          · have h2' : ((k : Int) == 0) = false := by simpa using h2
            clear h2
            go_wp2_with (first | (go_at_call 91; refine (isLetter_any _ _).mono ?_; rintro e w' ⟨rfl, rfl⟩) | (go_at_call 92; refine (isDigit_any _ _).mono ?_; rintro e w' ⟨rfl, rfl⟩))
            go_ret
            exact ⟨ret_bool HP.out.symm, below_iter _ _ _⟩
    · have HP : Hid (nameL (bytesOf s) = (decide (0 < (m : Int)) && decide ((m : Int) ≤ 16))) := HN.out.2.fin hlt
      have hnx : ∀ ty, (Instr.next (.pointer (some ⟨w.heap.size, 0, none⟩)) true ty).run Tryz.prog (w.iter s k) = _ := fun ty => run_next_end w s k ty hlt
      clear HN
      by_cases h1 : 1 ≤ (m : Int)
      · rw [decide_eq_true (by omega), Bool.true_and] at HP
        go_wp2
        all_goals
          go_ret
          exact ⟨ret_bool (by rw [HP.out]), below_iter _ _ _⟩
      · rw [decide_eq_false (by omega), Bool.false_and] at HP
        go_wp2
        all_goals
          go_ret
          exact ⟨ret_bool (by rw [HP.out]), below_iter _ _ _⟩

def isNumL (l : List UInt8) : Bool := l.all digU && (decide (1 ≤ (l.length : Int)) && decide ((l.length : Int) ≤ 9))
theorem isNum_no {s : ByteArray} {k : Nat} (hk : k < s.size) (hb : digitB s[k].toNat = false) : isNumL (bytesOf s) = false := by
  have : (bytesOf s).all digU = false := by
    rw [List.all_eq_false]
    exact ⟨_, List.getElem_mem (l := bytesOf s) (n := k) (by rw [length_bytesOf]; exact hk), by rw [getElem_bytesOf s k hk]; exact Bool.eq_false_iff.1 hb⟩
  unfold isNumL; rw [this]; rfl
theorem dec_high (s : ByteArray) (k : Nat) (h : k < s.size) (ha : ¬ (s[k].toNat : Int) < 128) : digitB (Utf8.decode s k).1 = false ∧ digitB s[k].toNat = false := by
  have := (decode_high s k h (by omega)).1
  unfold digitB
  constructor <;> rw [Bool.eq_false_iff] <;> simp <;> omega

set_option maxRecDepth 100000 in
set_option maxHeartbeats 2000000 in
theorem isNumber_any (s : ByteArray) (w : World) (hs : s.size ≤ 20000) :
    Calls Tryz.prog 94 #[.string s] w fun e w' => e = .returned (.bool (isNumL (bytesOf s))) ∧ Below w.heap.size w w' := by
  go_enter Tryz.func94, Tryz.ntmps94
  go_wp2
  go_loopw [] (fun wr => ∃ (k : Nat), k ≤ s.size ∧ wr = w.iter s k ∧ Hid (((bytesOf s).take k).all digU = true)) (fun wr => s.size - wr.iterPos w.heap.size)
  case atStart => exact ⟨0, by omega, rfl, rfl⟩
  case round =>
    obtain ⟨k, hk, rfl, HN⟩ := hrel
    by_cases hlt : k < s.size
    · have hnx : ∀ ty, (Instr.next (.pointer (some ⟨w.heap.size, 0, none⟩)) true ty).run Tryz.prog (w.iter s k) = _ := fun ty => run_next_any w s k ty hlt
      by_cases ha : (s[k].toNat : Int) < 128
      · rw [decode_ascii s k hlt (by omega)] at hnx
        cases hd : digitB s[k].toNat with
        | true =>
          have HP : Hid (((bytesOf s).take (k + 1)).all digU = true) := by
            show _ = _
            rw [take_snoc' s k hlt, List.all_append, HN.out]
            simp only [List.all_cons, List.all_nil, Bool.and_true, Bool.true_and]
            exact hd
          clear HN
          go_wp2_with (go_at_call 92; refine (isDigit_any _ _).mono ?_; rintro e w' ⟨rfl, rfl⟩)
          go_roundw
          case rel => exact ⟨k + 1, by omega, rfl, HP⟩
          case measure => simp; omega
        | false =>
          have HP : Hid (isNumL (bytesOf s) = false) := isNum_no hlt hd
          go_wp2_with (go_at_call 92; refine (isDigit_any _ _).mono ?_; rintro e w' ⟨rfl, rfl⟩)
          go_ret
          exact ⟨ret_bool HP.out.symm, below_iter _ _ _⟩
      · obtain ⟨hd, hd'⟩ := dec_high s k hlt ha
        have HP : Hid (isNumL (bytesOf s) = false) := isNum_no hlt hd'
        clear hd'
        go_wp2_with (go_at_call 92; refine (isDigit_any _ _).mono ?_; rintro e w' ⟨rfl, rfl⟩)
        go_ret
        exact ⟨ret_bool HP.out.symm, below_iter _ _ _⟩
    · have hnx : ∀ ty, (Instr.next (.pointer (some ⟨w.heap.size, 0, none⟩)) true ty).run Tryz.prog (w.iter s k) = _ := fun ty => run_next_end w s k ty hlt
      have HP : Hid (isNumL (bytesOf s) = (decide (1 ≤ (s.size : Int)) && decide ((s.size : Int) ≤ 9))) := by
        show _ = _
        have h2 := HN.out
        rw [List.take_of_length_le (by rw [length_bytesOf]; omega)] at h2
        unfold isNumL
        rw [h2, length_bytesOf, Bool.true_and]
      clear HN
      by_cases h1 : 1 ≤ (s.size : Int)
      · rw [decide_eq_true h1, Bool.true_and] at HP
        go_wp2
        all_goals
          go_ret
          exact ⟨ret_bool (by rw [HP.out]), below_iter _ _ _⟩
      · rw [decide_eq_false h1, Bool.false_and] at HP
        go_wp2
        all_goals
          go_ret
          exact ⟨ret_bool (by rw [HP.out]), below_iter _ _ _⟩
end Go.Proofs.YtpbalclhdhjnoaaGreatDoor
namespace Go.Proofs.YtpbalclhdhjnoaaGreatDoor
open Go.RowKit

structure LineM where
  name : ByteArray
  frm : Int
  to : Int
  worth : Int
  limit : Int
structure GenM where
  name : ByteArray
  bus : Int
  least : Int
  most : Int
  cost : Int
structure LoadM where
  name : ByteArray
  bus : Int
  power : Int
structure TieM where
  name : ByteArray
  frm : Int
  to : Int
  closed : Bool
structure NetM where
  name : ByteArray
  buses : List ByteArray
  lines : List LineM
  gens : List GenM
  loads : List LoadM
  ties : List TieM
def LineM.cells (x : LineM) : List Value := [.string x.name, .int .i64 x.frm, .int .i64 x.to, .int .i64 x.worth, .int .i64 x.limit]
def GenM.cells (x : GenM) : List Value := [.string x.name, .int .i64 x.bus, .int .i64 x.least, .int .i64 x.most, .int .i64 x.cost]
def LoadM.cells (x : LoadM) : List Value := [.string x.name, .int .i64 x.bus, .int .i64 x.power]
def TieM.cells (x : TieM) : List Value := [.string x.name, .int .i64 x.frm, .int .i64 x.to, .bool x.closed]
def namesM (n : NetM) : List ByteArray := n.buses ++ n.lines.map LineM.name ++ n.gens.map GenM.name ++ n.loads.map LoadM.name ++ n.ties.map TieM.name
/-- No list is longer than may be. -/
def Fits (n : NetM) : Prop := n.buses.length ≤ 16 ∧ n.lines.length ≤ 30 ∧ n.gens.length ≤ 12 ∧ n.loads.length ≤ 16 ∧ n.ties.length ≤ 24

end Go.Proofs.YtpbalclhdhjnoaaGreatDoor
namespace Go.Proofs.YtpbalclhdhjnoaaGreatDoor
open Go.RowKit

theorem hide' {p : Prop} (h : p) : Hid p := h
end Go.Proofs.YtpbalclhdhjnoaaGreatDoor
namespace Go.Proofs.YtpbalclhdhjnoaaGreatDoor
open Go.RowKit

def newNameE (n : NetM) (s : ByteArray) (many most : Int) : Int :=
  if nameL (bytesOf s) = false then 5 else if 0 ≤ placeL (namesM n) s then 6 else if most ≤ many then 17 else 0
theorem names_le {n : NetM} (hf : Fits n) : (namesM n).length ≤ 1000 := by
  obtain ⟨f1, f2, f3, f4, f5⟩ := hf
  simp [namesM]; omega

/-- The places of two buses, and what is wrong. -/
def twoE (bs : List ByteArray) (x y : ByteArray) : Int := if placeL bs x < 0 then 9 else if placeL bs y < 0 then 9 else if placeL bs x = placeL bs y then 7 else 0

end Go.Proofs.YtpbalclhdhjnoaaGreatDoor
namespace Go.Proofs.YtpbalclhdhjnoaaGreatDoor
open Go.RowKit

def numsE : List ByteArray → List Int → List Int → Int
  | x :: xs, lo :: ls, hi :: hs => if numL (bytesOf x) < 0 then 1 else if numL (bytesOf x) < lo ∨ hi < numL (bytesOf x) then 4 else numsE xs ls hs
  | _, _, _ => 0
theorem numFold (l : List UInt8) : ∀ n : Int, l.all digU = true → 0 ≤ n → 0 ≤ l.foldl (fun n c => 10 * n + ((c.toNat : Int) - 48)) n ∧ l.foldl (fun n c => 10 * n + ((c.toNat : Int) - 48)) n < (n + 1) * 10 ^ l.length := by
  induction l with
  | nil => intro n _ h; simp only [List.foldl_nil, List.length_nil]; constructor <;> omega
  | cons c r ih =>
    intro n h h0
    rw [List.all_cons, Bool.and_eq_true] at h
    have hd := h.1
    simp only [digU, Bool.and_eq_true, decide_eq_true_eq] at hd
    have ih' := ih (10 * n + ((c.toNat : Int) - 48)) h.2 (by omega)
    rw [List.foldl_cons, List.length_cons]
    refine ⟨ih'.1, Int.lt_of_lt_of_le ih'.2 ?_⟩
    rw [Int.pow_succ, Int.mul_comm (10 ^ r.length) 10, ← Int.mul_assoc]
    apply Int.mul_le_mul_of_nonneg_right
    · omega
    · exact Int.le_of_lt (Int.pow_pos (by decide))
end Go.Proofs.YtpbalclhdhjnoaaGreatDoor
