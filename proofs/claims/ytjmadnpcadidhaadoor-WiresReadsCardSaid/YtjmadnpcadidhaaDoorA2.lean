/- Contract: the place of a text in a list of texts, in the document's answer. -/
import Derived.Test.YtjmadnpcadidhaaDoorA1
import Derived.Laws.RangeAny
import Derived.Deep.QuietTactic
import Derived.BigQuiet
namespace Go.Proofs.YtjmadnpcadidhaaDoor
open Go.RowKit

/-- A list that can be read: n elements of sz cells each, the cells are xs. -/
def RowAt (w : World) (v : Value) (n sz : Nat) (xs : List Value) : Prop :=
  xs.length = n * sz ∧ ∃ a cap, v = .slice a n cap ∧ ∀ j u, xs[j]? = some u → ∃ b off, a = some ⟨b, off, none⟩ ∧ w.cell? ⟨b, off + j, none⟩ = some u
theorem add_zero_off (g j : Nat) : (⟨g, 0, none⟩ : Addr).add j = ⟨g, 0 + j, none⟩ := by
  by_cases h0 : j = 0
  · subst h0; simp [Addr.add]
  · simp [Addr.add, h0]
theorem rowAt_of_own {w : World} {B e sz n : Nat} {v : Value} {xs : List Value} (h : w.ownsRow B e sz v n xs) : RowAt w v n sz xs := by
  refine ⟨h.1, ?_⟩
  rcases h.2 with ⟨rfl, h2⟩ | ⟨g, cap, cur, rfl, h3, h4, h5, h6, h7, h8⟩
  · subst h2
    refine ⟨none, 0, rfl, fun j u hj => ?_⟩
    have : xs = [] := List.length_eq_zero_iff.1 (by simpa using h.1)
    subst this; simp at hj
  · exact ⟨_, cap, rfl, fun j u hj => ⟨g, 0, rfl, by
      have := h.cells rfl j u hj
      rwa [add_zero_off] at this⟩⟩
theorem RowAt.below {w w' : World} {B n sz : Nat} {v : Value} {xs : List Value} (h : RowAt w v n sz xs) (hB : Below B w w') (hb : w.heap.size ≤ B) : RowAt w' v n sz xs := by
  obtain ⟨h1, a, cap, rfl, hc⟩ := h
  refine ⟨h1, a, cap, rfl, fun j u hj => ?_⟩
  obtain ⟨b, off, rfl, hcell⟩ := hc j u hj
  exact ⟨b, off, rfl, (hB.cell (p := ⟨b, off + j, none⟩) (Nat.lt_of_lt_of_le (World.block_lt_of_cell? w _ hcell) hb)).trans hcell⟩
abbrev TextsAt (w : World) (v : Value) (xs : List ByteArray) : Prop := RowAt w v xs.length 1 (xs.map Value.string)

def placeFrom (s : ByteArray) : Nat → List ByteArray → Int
  | _, [] => -1
  | k, x :: r => if x = s then (k : Int) else placeFrom s (k + 1) r
def placeL (xs : List ByteArray) (s : ByteArray) : Int := placeFrom s 0 xs
theorem placeFrom_yes (s : ByteArray) : ∀ (xs : List ByteArray) (base k : Nat) (hk : k < xs.length), (∀ j (h : j < xs.length), j < k → ¬ xs[j] = s) → xs[k] = s → placeFrom s base xs = (base + k : Nat)
  | x :: r, base, 0, _, _, he => by simp at he; simp [placeFrom, he]
  | x :: r, base, k + 1, hk, hno, he => by
    have h0 := hno 0 (by simp) (by omega)
    simp at h0 he hk
    rw [placeFrom, if_neg h0, placeFrom_yes s r (base + 1) k (by omega) (fun j h a => by have := hno (j + 1) (by simp; omega) (by omega); simpa using this) he]
    congr 1; omega
theorem placeFrom_no (s : ByteArray) : ∀ (xs : List ByteArray) (base : Nat), (∀ j (h : j < xs.length), ¬ xs[j] = s) → placeFrom s base xs = -1
  | [], _, _ => rfl
  | x :: r, base, hno => by
    have h0 := hno 0 (by simp)
    simp at h0
    rw [placeFrom, if_neg h0, placeFrom_no s r (base + 1) (fun j h => by have := hno (j + 1) (by simp; omega); simpa using this)]
theorem str_beq (a b : ByteArray) : (a.toList == b.toList) = decide (a = b) := by
  rw [lit_beq]; congr 1; rw [ByteArray.toList_eq]
theorem str_yes {a b : ByteArray} (h : a = b) : (a.toList == b.toList) = true := by rw [str_beq]; simpa using h
theorem str_no {a b : ByteArray} (h : ¬ a = b) : (a.toList == b.toList) = false := by rw [str_beq]; simpa using h
theorem placeL_yes {xs : List ByteArray} {s : ByteArray} {k : Nat} (hk : k < xs.length) (hno : ∀ j (h : j < xs.length), j < k → ¬ xs[j] = s) (he : xs[k] = s) : placeL xs s = k := by
  have := placeFrom_yes s xs 0 k hk hno he
  rw [Nat.zero_add] at this
  exact this
theorem placeL_no {xs : List ByteArray} {s : ByteArray} (hno : ∀ j (h : j < xs.length), ¬ xs[j] = s) : placeL xs s = -1 := placeFrom_no s xs 0 hno

set_option maxRecDepth 100000 in
set_option maxHeartbeats 800000 in
theorem placeOf_any (v : Value) (xs : List ByteArray) (s : ByteArray) (w : World) (hx : TextsAt w v xs) (hn : xs.length ≤ 1000) :
    Calls Tryd.prog 22 #[v, .string s] w fun e w' => e = .returned (.int .i64 (placeL xs s)) ∧ w' = w := by
  obtain ⟨-, a, cap, rfl, hc⟩ := hx
  go_enter Tryd.func22, Tryd.ntmps22
  go_wp2
  go_loop [5] (fun i => ∃ (k : Nat), k ≤ xs.length ∧ i = .int .i64 k ∧ Hid (∀ j (h : j < xs.length), j < k → ¬ xs[j] = s)) (fun i => xs.length - (intOf i).toNat)
  case atStart => exact ⟨0, by omega, rfl, fun j h a => by omega⟩
  case round =>
    obtain ⟨k, hk, rfl, HN⟩ := hrel
    by_cases hlt : k < xs.length
    · obtain ⟨b, off, rfl, hck⟩ := hc k (.string xs[k]) (by simp [hlt])
      by_cases he : xs[k] = s
      · have HP : Hid (placeL xs s = k) := placeL_yes hlt HN.out he
        have hb := str_yes he
        clear he hc
        go_wp2
        go_ret
        exact ⟨ret_int HP.out.symm, rfl⟩
      · have HP : Hid (∀ j (h : j < xs.length), j < k + 1 → ¬ xs[j] = s) := fun j h a => by
          by_cases e : j = k
          · subst e; exact he
          · exact HN.out j h (by omega)
        have hb := str_no he
        clear he hc
        go_wp2
        go_round
        case rel => exact ⟨k + 1, by omega, by go_num, HP⟩
        case measure => simp [intOf]; omega
    · have HP : Hid (placeL xs s = -1) := placeL_no fun j h => HN.out j h (by omega)
      clear hc
      go_wp2
      go_ret
      exact ⟨ret_int HP.out.symm, rfl⟩
end Go.Proofs.YtjmadnpcadidhaaDoor
/- Plain facts on names: no walk. -/
namespace Go.Proofs.YtjmadnpcadidhaaDoor
open Go.RowKit

theorem ascii_yes {c : UInt8} (h : (c.toNat : Int) < 128) : asciiB c = true := decide_eq_true h
theorem ascii_no {c : UInt8} (h : ¬ (c.toNat : Int) < 128) : asciiB c = false := decide_eq_false h
theorem lead_yes {c : UInt8} (h : 195 ≤ (c.toNat : Int)) (h' : (c.toNat : Int) ≤ 201) : leadB c = true := by unfold leadB; rw [decide_eq_true h, decide_eq_true h']; rfl
theorem lead_no {c : UInt8} (h : ¬ (195 ≤ (c.toNat : Int) ∧ (c.toNat : Int) ≤ 201)) : leadB c = false := by
  unfold leadB; rw [← Bool.decide_and]; exact decide_eq_false h
theorem cont_yes {c : UInt8} (h : 128 ≤ (c.toNat : Int)) (h' : (c.toNat : Int) ≤ 191) : contB c = true := by unfold contB; rw [decide_eq_true h, decide_eq_true h']; rfl
theorem cont_no {c : UInt8} (h : ¬ (128 ≤ (c.toNat : Int) ∧ (c.toNat : Int) ≤ 191)) : contB c = false := by
  unfold contB; rw [← Bool.decide_and]; exact decide_eq_false h

/-- The name goes on: behind k bytes, m letters, it is one just if the whole is one. -/
def NamesAt (s : ByteArray) (k m : Nat) : Prop := nameGo ((bytesOf s).drop k) none m = nameL (bytesOf s)
theorem NamesAt.one {s : ByteArray} {k m : Nat} (h : NamesAt s k m) (hk : k < s.size) (ha : (s[k].toNat : Int) < 128) (ho : okR s[k].toNat m = true) : NamesAt s (k + 1) (m + 1) := by
  have ho' : okR (runeU s[k]) m = true := ho
  unfold NamesAt at *; rw [drop_cons s k hk, nameGo_ascii _ _ _ (ascii_yes ha), ho', cond_true] at h; exact h
theorem NamesAt.oneNo {s : ByteArray} {k m : Nat} (h : NamesAt s k m) (hk : k < s.size) (ha : (s[k].toNat : Int) < 128) (ho : okR s[k].toNat m = false) : nameL (bytesOf s) = false := by
  have ho' : okR (runeU s[k]) m = false := ho
  unfold NamesAt at *; rw [drop_cons s k hk, nameGo_ascii _ _ _ (ascii_yes ha), ho', cond_false] at h; exact h.symm
theorem NamesAt.lead {s : ByteArray} {k m : Nat} (h : NamesAt s k m) (hk : k < s.size) (ha : ¬ (s[k].toNat : Int) < 128) (hl : leadB s[k] = true) : nameGo ((bytesOf s).drop (k + 1)) (some s[k]) m = nameL (bytesOf s) := by
  unfold NamesAt at *; rw [drop_cons s k hk, nameGo_lead _ _ _ (ascii_no ha), hl, cond_true] at h; exact h
theorem NamesAt.leadNo {s : ByteArray} {k m : Nat} (h : NamesAt s k m) (hk : k < s.size) (ha : ¬ (s[k].toNat : Int) < 128) (hl : leadB s[k] = false) : nameL (bytesOf s) = false := by
  unfold NamesAt at *; rw [drop_cons s k hk, nameGo_lead _ _ _ (ascii_no ha), hl, cond_false] at h; exact h.symm
theorem NamesAt.half {s : ByteArray} {k m : Nat} (h : NamesAt s k m) (hk : k < s.size) (ha : ¬ (s[k].toNat : Int) < 128) (hk1 : ¬ k + 1 < s.size) : nameL (bytesOf s) = false := by
  cases hl : leadB s[k] with
  | false => exact h.leadNo hk ha hl
  | true =>
    have h2 := h.lead hk ha hl
    rw [List.drop_of_length_le (by rw [length_bytesOf]; omega), nameGo_half] at h2; exact h2.symm
theorem NamesAt.contNo {s : ByteArray} {k m : Nat} (h : NamesAt s k m) (hk : k < s.size) (hk1 : k + 1 < s.size) (ha : ¬ (s[k].toNat : Int) < 128) (hc : contB s[k + 1] = false) : nameL (bytesOf s) = false := by
  cases hl : leadB s[k] with
  | false => exact h.leadNo hk ha hl
  | true =>
    have h2 := h.lead hk ha hl
    rw [drop_cons s (k + 1) hk1, nameGo_cont, hc, cond_false] at h2; exact h2.symm
theorem NamesAt.two {s : ByteArray} {k m : Nat} (h : NamesAt s k m) (hk : k < s.size) (hk1 : k + 1 < s.size) (ha : ¬ (s[k].toNat : Int) < 128) (hl : leadB s[k] = true) (hc : contB s[k + 1] = true)
    (ho : okR (runeOf s[k] s[k + 1]) m = true) : NamesAt s (k + 2) (m + 1) := by
  have h2 := h.lead hk ha hl
  rw [drop_cons s (k + 1) hk1, nameGo_cont, hc, cond_true, ho, cond_true] at h2; exact h2
theorem NamesAt.twoNo {s : ByteArray} {k m : Nat} (h : NamesAt s k m) (hk : k < s.size) (hk1 : k + 1 < s.size) (ha : ¬ (s[k].toNat : Int) < 128) (hl : leadB s[k] = true) (hc : contB s[k + 1] = true)
    (ho : okR (runeOf s[k] s[k + 1]) m = false) : nameL (bytesOf s) = false := by
  have h2 := h.lead hk ha hl
  rw [drop_cons s (k + 1) hk1, nameGo_cont, hc, cond_true, ho, cond_false] at h2; exact h2.symm
theorem NamesAt.fin {s : ByteArray} {k m : Nat} (h : NamesAt s k m) (hk : ¬ k < s.size) : nameL (bytesOf s) = (decide (0 < (m : Int)) && decide ((m : Int) ≤ 16)) := by
  unfold NamesAt at *
  rw [List.drop_of_length_le (by rw [length_bytesOf]; omega), nameGo_nil] at h
  exact h.symm
end Go.Proofs.YtjmadnpcadidhaaDoor
/- Contract: is a text a name, in the document's answer. -/
namespace Go.Proofs.YtjmadnpcadidhaaDoor
open Go.RowKit

set_option maxRecDepth 100000 in
set_option maxHeartbeats 2000000 in
theorem NameOk_any (s : ByteArray) (w : World) (hs : s.size ≤ 20000) :
    Calls Tryd.prog 18 #[.string s] w fun e w' => e = .returned (.bool (nameL (bytesOf s))) ∧ ∃ q, w' = w.drewN q := by
  go_enter Tryd.func18, Tryd.ntmps18
  go_wp2
  go_loopw [3, 4] (fun n i wr => ∃ (k m : Nat), k ≤ s.size ∧ i = .int .i64 k ∧ n = .int .i64 m ∧ m ≤ k ∧ Hid (NamesAt s k m) ∧ ∃ q, wr = w.drewN q) (fun _ i _ => s.size - (intOf i).toNat)
  case atStart => exact ⟨0, 0, by omega, rfl, rfl, by omega, rfl, 0, rfl⟩
  case round =>
    obtain ⟨k, m, hk, rfl, rfl, hm, HN, q, rfl⟩ := hrel
    by_cases hlt : k < s.size
    · by_cases ha : (s[k].toNat : Int) < 128
      · cases ho : okR s[k].toNat m with
        | true =>
          have HP : Hid (NamesAt s (k + 1) (m + 1)) := HN.out.one hlt ha ho
          have ho' : (letterB s[k].toNat || (digitB s[k].toNat && !((m : Int) == 0))) = true := ho
          clear ho
          go_wp2_with (go_at_call 35; refine (Letter_any _ _ _).mono ?_; rintro e w' ⟨rfl, rfl⟩)
          go_roundw
          case rel => exact ⟨k + 1, m + 1, by omega, by go_num, by go_num, by omega, HP, q, rfl⟩
          case measure => simp [intOf]; omega
        | false =>
          have HP : Hid (nameL (bytesOf s) = false) := HN.out.oneNo hlt ha ho
          have ho' : (letterB s[k].toNat || (digitB s[k].toNat && !((m : Int) == 0))) = false := ho
          clear ho
          go_wp2_with (go_at_call 35; refine (Letter_any _ _ _).mono ?_; rintro e w' ⟨rfl, rfl⟩)
          go_ret
          exact ⟨ret_bool HP.out.symm, q, rfl⟩
      · by_cases hl : 195 ≤ (s[k].toNat : Int) ∧ (s[k].toNat : Int) ≤ 201
        · have hlb := lead_yes hl.1 hl.2
          obtain ⟨h1, h2⟩ := hl
          by_cases hk1 : k + 1 < s.size
          · by_cases hc : 128 ≤ (s[k + 1].toNat : Int) ∧ (s[k + 1].toNat : Int) ≤ 191
            · have hcb := cont_yes hc.1 hc.2
              obtain ⟨h3, h4⟩ := hc
              cases ho : okR (runeOf s[k] s[k + 1]) m with
              | true =>
                have HP : Hid (NamesAt s (k + 2) (m + 1)) := HN.out.two hlt hk1 ha hlb hcb ho
                have ho' : (letterB ((s[k].toNat : Int) % 32 * 64 + (s[k + 1].toNat : Int) % 64) || (digitB ((s[k].toNat : Int) % 32 * 64 + (s[k + 1].toNat : Int) % 64) && !((m : Int) == 0))) = true := ho
                clear ho hlb hcb HN
                go_wp2_with fail
                go_region
                go_wp2_with (go_at_call 35; refine (Letter_any _ _ _).mono ?_; rintro e w' ⟨rfl, rfl⟩)
                go_roundw
                case rel => exact ⟨k + 2, m + 1, by omega, by go_num, by go_num, by omega, HP, q + 1, rfl⟩
                case measure => simp [intOf]; omega
              | false =>
                have HP : Hid (nameL (bytesOf s) = false) := HN.out.twoNo hlt hk1 ha hlb hcb ho
                have ho' : (letterB ((s[k].toNat : Int) % 32 * 64 + (s[k + 1].toNat : Int) % 64) || (digitB ((s[k].toNat : Int) % 32 * 64 + (s[k + 1].toNat : Int) % 64) && !((m : Int) == 0))) = false := ho
                clear ho hlb hcb HN
                go_wp2_with fail
                go_region
                go_wp2_with (go_at_call 35; refine (Letter_any _ _ _).mono ?_; rintro e w' ⟨rfl, rfl⟩)
                go_ret
                exact ⟨ret_bool HP.out.symm, q + 1, rfl⟩
            · have HP : Hid (nameL (bytesOf s) = false) := HN.out.contNo hlt hk1 ha (cont_no hc)
              clear hlb HN
              by_cases h3 : (s[k + 1].toNat : Int) < 128
              · clear hc
                go_wp2
                go_ret
                exact ⟨ret_bool HP.out.symm, q, rfl⟩
              have h4 : 191 < (s[k + 1].toNat : Int) := by omega
              clear hc
              go_wp2
              go_ret
              exact ⟨ret_bool HP.out.symm, q, rfl⟩
          · have HP : Hid (nameL (bytesOf s) = false) := HN.out.half hlt ha hk1
            clear hlb HN
            go_wp2
            go_ret
            exact ⟨ret_bool HP.out.symm, q, rfl⟩
        · have HP : Hid (nameL (bytesOf s) = false) := HN.out.leadNo hlt ha (lead_no hl)
          clear HN
          by_cases h1 : (s[k].toNat : Int) < 195
          · clear hl
            go_wp2
            go_ret
            exact ⟨ret_bool HP.out.symm, q, rfl⟩
          have h2 : 201 < (s[k].toNat : Int) := by omega
          clear hl
          go_wp2
          go_ret
          exact ⟨ret_bool HP.out.symm, q, rfl⟩
    · have HP : Hid (nameL (bytesOf s) = (decide (0 < (m : Int)) && decide ((m : Int) ≤ 16))) := HN.out.fin hlt
      clear HN
      by_cases h1 : 0 < (m : Int)
      · rw [decide_eq_true h1, Bool.true_and] at HP
        go_wp2
        all_goals
          go_ret
          exact ⟨ret_bool (by rw [HP.out]), q, rfl⟩
      · rw [decide_eq_false h1, Bool.false_and] at HP
        go_wp2
        all_goals
          go_ret
          exact ⟨ret_bool (by rw [HP.out]), q, rfl⟩
end Go.Proofs.YtjmadnpcadidhaaDoor
/- Contracts: is a text a name, is it a number, in the program (rune by rune). -/
namespace Go.Proofs.YtjmadnpcadidhaaDoor
open Go.RowKit

theorem get!_of_lt (s : ByteArray) (k : Nat) (h : k < s.size) : s.get! k = s[k] := by
  simp only [ByteArray.get!, ByteArray.size] at *
  exact getElem!_pos s.data k h
theorem dec_two (s : ByteArray) (k : Nat) (h : k < s.size) (h1 : k + 1 < s.size) (a : 195 ≤ (s[k].toNat : Int)) (b : (s[k].toNat : Int) ≤ 201) (c : 128 ≤ (s[k + 1].toNat : Int)) (d : (s[k + 1].toNat : Int) ≤ 191) :
    Utf8.decode s k = (s[k].toNat % 32 * 64 + s[k + 1].toNat % 64, 2) := by
  have e0 : (s.get! (k + 0)).toNat = s[k].toNat := by rw [Nat.add_zero, get!_of_lt s k h]
  have e1 : (s.get! (k + 1)).toNat = s[k + 1].toNat := by rw [get!_of_lt s (k + 1) h1]
  unfold Utf8.decode
  simp only [e0, e1]
  rw [if_neg (by omega), if_pos (by simp; omega), if_pos (by omega)]
theorem dec_bad (s : ByteArray) (k : Nat) (h : k < s.size) (ha : ¬ (s[k].toNat : Int) < 128)
    (hb : ∀ h1 : k + 1 < s.size, ¬ (195 ≤ (s[k].toNat : Int) ∧ (s[k].toNat : Int) ≤ 201 ∧ 128 ≤ (s[k + 1].toNat : Int) ∧ (s[k + 1].toNat : Int) ≤ 191)) :
    128 ≤ ((Utf8.decode s k).1 : Int) ∧ (((Utf8.decode s k).1 : Int) < 192 ∨ 591 < ((Utf8.decode s k).1 : Int)) := by
  have e0 : (s.get! (k + 0)).toNat = s[k].toNat := by rw [Nat.add_zero, get!_of_lt s k h]
  have u0 := s[k].toNat_lt
  by_cases h1 : k + 1 < s.size
  · have e1 : (s.get! (k + 1)).toNat = s[k + 1].toNat := by rw [get!_of_lt s (k + 1) h1]
    have hb' := hb h1
    have u1 := s[k + 1].toNat_lt
    unfold Utf8.decode Utf8.runeError
    simp only [e0, e1]
    rw [if_neg (by omega)]
    split
    · rename_i hc
      simp at hc
      split <;> simp <;> omega
    · split
      · split
        · rename_i hv; simp at hv; simp; omega
        · simp
      · split
        · split
          · rename_i hv; simp at hv; simp; omega
          · simp
        · simp
  · unfold Utf8.decode Utf8.runeError
    simp only [e0]
    rw [if_neg (by omega), if_neg (by simp; omega), if_neg (by simp; omega), if_neg (by simp; omega)]
    simp
theorem bad_letter {r : Int} (h : 128 ≤ r) (h' : r < 192 ∨ 591 < r) : letterB r = false ∧ digitB r = false := by
  unfold letterB digitB
  constructor
  · rw [Bool.eq_false_iff]; simp; omega
  · rw [Bool.eq_false_iff]; simp; omega
theorem below_iter (w : World) (s : ByteArray) (p : Nat) : Below w.heap.size w (w.iter s p) := (Below.refl _ w).alloc (Nat.le_refl _) _
theorem okR_pos {r : Int} {n pos : Nat} (h : pos = 0 ↔ n = 0) : okR r n = (letterB r || (digitB r && !((pos : Int) == 0))) := by
  unfold okR
  have : ((n : Int) == 0) = ((pos : Int) == 0) := by rw [Bool.eq_iff_iff]; simp; omega
  rw [this]

theorem ok_cases {r : Int} {n pos : Nat} (h : pos = 0 ↔ n = 0) (ho : okR r n = true) : letterB r = true ∨ (letterB r = false ∧ ((pos : Int) == 0) = false ∧ digitB r = true) := by
  rw [okR_pos h] at ho
  cases h1 : letterB r <;> cases h2 : ((pos : Int) == 0) <;> cases h3 : digitB r <;> rw [h1, h2, h3] at ho <;> simp_all
theorem no_cases {r : Int} {n pos : Nat} (h : pos = 0 ↔ n = 0) (ho : okR r n = false) : (letterB r = false ∧ ((pos : Int) == 0) = true) ∨ (letterB r = false ∧ ((pos : Int) == 0) = false ∧ digitB r = false) := by
  rw [okR_pos h] at ho
  cases h1 : letterB r <;> cases h2 : ((pos : Int) == 0) <;> cases h3 : digitB r <;> rw [h1, h2, h3] at ho <;> simp_all

set_option maxRecDepth 100000 in
set_option maxHeartbeats 2000000 in
theorem isName_any (s : ByteArray) (w : World) (hs : s.size ≤ 20000) :
    Calls Tryd.prog 39 #[.string s] w fun e w' => e = .returned (.bool (nameL (bytesOf s))) ∧ Below w.heap.size w w' := by
  go_enter Tryd.func39, Tryd.ntmps39
  go_wp2
  go_loopw [3] (fun n wr => ∃ (k m : Nat), k ≤ s.size ∧ wr = w.iter s k ∧ n = .int .i64 m ∧ m ≤ k ∧ Hid ((k = 0 ↔ m = 0) ∧ NamesAt s k m)) (fun _ wr => s.size - wr.iterPos w.heap.size)
  case atStart => exact ⟨0, 0, by omega, rfl, rfl, by omega, Iff.rfl, rfl⟩
  case round =>
    obtain ⟨k, m, hk, rfl, rfl, hm, HN⟩ := hrel
    by_cases hlt : k < s.size
    · have hnx : ∀ ty, (Instr.next (.pointer (some ⟨w.heap.size, 0, none⟩)) true ty).run Tryd.prog (w.iter s k) = _ := fun ty => run_next_any w s k ty hlt
      by_cases ha : (s[k].toNat : Int) < 128
      · rw [decode_ascii s k hlt (by omega)] at hnx
        cases ho : okR s[k].toNat m with
        | true =>
          have HP : Hid ((k + 1 = 0 ↔ m + 1 = 0) ∧ NamesAt s (k + 1) (m + 1)) := ⟨by omega, HN.out.2.one hlt ha ho⟩
          have hc := ok_cases HN.out.1 ho
          clear ho HN
          rcases hc with h1 | ⟨h1, h2, h3⟩
          all_goals
            go_wp2_with (first | (go_at_call 47; refine (isLetter_any _ _).mono ?_; rintro e w' ⟨rfl, rfl⟩) | (go_at_call 48; refine (isDigit_any _ _).mono ?_; rintro e w' ⟨rfl, rfl⟩))
            go_roundw
            case rel => exact ⟨k + 1, m + 1, by omega, rfl, by go_num, by omega, HP⟩
            case measure => simp; omega
        | false =>
          have HP : Hid (nameL (bytesOf s) = false) := HN.out.2.oneNo hlt ha ho
          have hc := no_cases HN.out.1 ho
          clear ho HN
          rcases hc with ⟨h1, h2⟩ | ⟨h1, h2, h3⟩
          all_goals
            go_wp2_with (first | (go_at_call 47; refine (isLetter_any _ _).mono ?_; rintro e w' ⟨rfl, rfl⟩) | (go_at_call 48; refine (isDigit_any _ _).mono ?_; rintro e w' ⟨rfl, rfl⟩))
            go_ret
            exact ⟨ret_bool HP.out.symm, below_iter _ _ _⟩
      · by_cases hg : ∃ h1 : k + 1 < s.size, 195 ≤ (s[k].toNat : Int) ∧ (s[k].toNat : Int) ≤ 201 ∧ 128 ≤ (s[k + 1].toNat : Int) ∧ (s[k + 1].toNat : Int) ≤ 191
        · obtain ⟨hk1, a1, a2, a3, a4⟩ := hg
          rw [dec_two s k hlt hk1 a1 a2 a3 a4] at hnx
          have hlb := lead_yes a1 a2
          have hcb := cont_yes a3 a4
          cases ho : okR (runeOf s[k] s[k + 1]) m with
          | true =>
            have HP : Hid ((k + 2 = 0 ↔ m + 1 = 0) ∧ NamesAt s (k + 2) (m + 1)) := ⟨by omega, HN.out.2.two hlt hk1 ha hlb hcb ho⟩
            have hc := ok_cases HN.out.1 ho
            unfold runeOf at hc
            clear ho HN hlb hcb
            rcases hc with h1 | ⟨h1, h2, h3⟩
            all_goals
              go_wp2_with (first | (go_at_call 47; refine (isLetter_any _ _).mono ?_; rintro e w' ⟨rfl, rfl⟩) | (go_at_call 48; refine (isDigit_any _ _).mono ?_; rintro e w' ⟨rfl, rfl⟩))
              go_roundw
              case rel => exact ⟨k + 2, m + 1, by omega, rfl, by go_num, by omega, HP⟩
              case measure => simp; omega
          | false =>
            have HP : Hid (nameL (bytesOf s) = false) := HN.out.2.twoNo hlt hk1 ha hlb hcb ho
            have hc := no_cases HN.out.1 ho
            unfold runeOf at hc
            clear ho HN hlb hcb
            rcases hc with ⟨h1, h2⟩ | ⟨h1, h2, h3⟩
            all_goals
              go_wp2_with (first | (go_at_call 47; refine (isLetter_any _ _).mono ?_; rintro e w' ⟨rfl, rfl⟩) | (go_at_call 48; refine (isDigit_any _ _).mono ?_; rintro e w' ⟨rfl, rfl⟩))
              go_ret
              exact ⟨ret_bool HP.out.symm, below_iter _ _ _⟩
        · have HP : Hid (nameL (bytesOf s) = false) := by
            by_cases hk1 : k + 1 < s.size
            · by_cases hl : 195 ≤ (s[k].toNat : Int) ∧ (s[k].toNat : Int) ≤ 201
              · exact HN.out.2.contNo hlt hk1 ha (cont_no (fun hc => hg ⟨hk1, hl.1, hl.2, hc.1, hc.2⟩))
              · exact HN.out.2.leadNo hlt ha (lead_no hl)
            · exact HN.out.2.half hlt ha hk1
          obtain ⟨d1, d2⟩ := dec_bad s k hlt ha (fun h1 hh => hg ⟨h1, hh⟩)
          obtain ⟨h1, h3⟩ := bad_letter d1 d2
          clear HN hg d2
          by_cases h2 : ((k : Int) == 0) = true
          · go_wp2_with (first | (go_at_call 47; refine (isLetter_any _ _).mono ?_; rintro e w' ⟨rfl, rfl⟩) | (go_at_call 48; refine (isDigit_any _ _).mono ?_; rintro e w' ⟨rfl, rfl⟩))
            go_ret
            exact ⟨ret_bool HP.out.symm, below_iter _ _ _⟩
          · have h2' : ((k : Int) == 0) = false := by simpa using h2
            clear h2
            go_wp2_with (first | (go_at_call 47; refine (isLetter_any _ _).mono ?_; rintro e w' ⟨rfl, rfl⟩) | (go_at_call 48; refine (isDigit_any _ _).mono ?_; rintro e w' ⟨rfl, rfl⟩))
            go_ret
            exact ⟨ret_bool HP.out.symm, below_iter _ _ _⟩
    · have HP : Hid (nameL (bytesOf s) = (decide (0 < (m : Int)) && decide ((m : Int) ≤ 16))) := HN.out.2.fin hlt
      have hnx : ∀ ty, (Instr.next (.pointer (some ⟨w.heap.size, 0, none⟩)) true ty).run Tryd.prog (w.iter s k) = _ := fun ty => run_next_end w s k ty hlt
      clear HN
      by_cases h1 : 1 ≤ (m : Int)
      · rw [decide_eq_true (by omega), Bool.true_and] at HP
        go_wp2
        all_goals
          go_ret
          exact ⟨ret_bool (by rw [HP.out]), below_iter _ _ _⟩
      · rw [decide_eq_false (by omega), Bool.false_and] at HP
        go_wp2
        all_goals
          go_ret
          exact ⟨ret_bool (by rw [HP.out]), below_iter _ _ _⟩

def isNumL (l : List UInt8) : Bool := l.all digU && (decide (1 ≤ (l.length : Int)) && decide ((l.length : Int) ≤ 9))
theorem isNum_no {s : ByteArray} {k : Nat} (hk : k < s.size) (hb : digitB s[k].toNat = false) : isNumL (bytesOf s) = false := by
  have : (bytesOf s).all digU = false := by
    rw [List.all_eq_false]
    exact ⟨_, List.getElem_mem (l := bytesOf s) (n := k) (by rw [length_bytesOf]; exact hk), by rw [getElem_bytesOf s k hk]; exact Bool.eq_false_iff.1 hb⟩
  unfold isNumL; rw [this]; rfl
theorem dec_high (s : ByteArray) (k : Nat) (h : k < s.size) (ha : ¬ (s[k].toNat : Int) < 128) : digitB (Utf8.decode s k).1 = false ∧ digitB s[k].toNat = false := by
  have := (decode_high s k h (by omega)).1
  unfold digitB
  constructor <;> rw [Bool.eq_false_iff] <;> simp <;> omega

set_option maxRecDepth 100000 in
set_option maxHeartbeats 2000000 in
theorem isNumber_any (s : ByteArray) (w : World) (hs : s.size ≤ 20000) :
    Calls Tryd.prog 50 #[.string s] w fun e w' => e = .returned (.bool (isNumL (bytesOf s))) ∧ Below w.heap.size w w' := by
  go_enter Tryd.func50, Tryd.ntmps50
  go_wp2
  go_loopw [] (fun wr => ∃ (k : Nat), k ≤ s.size ∧ wr = w.iter s k ∧ Hid (((bytesOf s).take k).all digU = true)) (fun wr => s.size - wr.iterPos w.heap.size)
  case atStart => exact ⟨0, by omega, rfl, rfl⟩
  case round =>
    obtain ⟨k, hk, rfl, HN⟩ := hrel
    by_cases hlt : k < s.size
    · have hnx : ∀ ty, (Instr.next (.pointer (some ⟨w.heap.size, 0, none⟩)) true ty).run Tryd.prog (w.iter s k) = _ := fun ty => run_next_any w s k ty hlt
      by_cases ha : (s[k].toNat : Int) < 128
      · rw [decode_ascii s k hlt (by omega)] at hnx
        cases hd : digitB s[k].toNat with
        | true =>
          have HP : Hid (((bytesOf s).take (k + 1)).all digU = true) := by
            show _ = _
            rw [take_snoc' s k hlt, List.all_append, HN.out]
            simp only [List.all_cons, List.all_nil, Bool.and_true, Bool.true_and]
            exact hd
          clear HN
          go_wp2_with (go_at_call 48; refine (isDigit_any _ _).mono ?_; rintro e w' ⟨rfl, rfl⟩)
          go_roundw
          case rel => exact ⟨k + 1, by omega, rfl, HP⟩
          case measure => simp; omega
        | false =>
          have HP : Hid (isNumL (bytesOf s) = false) := isNum_no hlt hd
          go_wp2_with (go_at_call 48; refine (isDigit_any _ _).mono ?_; rintro e w' ⟨rfl, rfl⟩)
          go_ret
          exact ⟨ret_bool HP.out.symm, below_iter _ _ _⟩
      · obtain ⟨hd, hd'⟩ := dec_high s k hlt ha
        have HP : Hid (isNumL (bytesOf s) = false) := isNum_no hlt hd'
        clear hd'
        go_wp2_with (go_at_call 48; refine (isDigit_any _ _).mono ?_; rintro e w' ⟨rfl, rfl⟩)
        go_ret
        exact ⟨ret_bool HP.out.symm, below_iter _ _ _⟩
    · have hnx : ∀ ty, (Instr.next (.pointer (some ⟨w.heap.size, 0, none⟩)) true ty).run Tryd.prog (w.iter s k) = _ := fun ty => run_next_end w s k ty hlt
      have HP : Hid (isNumL (bytesOf s) = (decide (1 ≤ (s.size : Int)) && decide ((s.size : Int) ≤ 9))) := by
        show _ = _
        have h2 := HN.out
        rw [List.take_of_length_le (by rw [length_bytesOf]; omega)] at h2
        unfold isNumL
        rw [h2, length_bytesOf, Bool.true_and]
      clear HN
      by_cases h1 : 1 ≤ (s.size : Int)
      · rw [decide_eq_true h1, Bool.true_and] at HP
        go_wp2
        all_goals
          go_ret
          exact ⟨ret_bool (by rw [HP.out]), below_iter _ _ _⟩
      · rw [decide_eq_false h1, Bool.false_and] at HP
        go_wp2
        all_goals
          go_ret
          exact ⟨ret_bool (by rw [HP.out]), below_iter _ _ _⟩
end Go.Proofs.YtjmadnpcadidhaaDoor
/- A network as plain data, and how it lies in memory. -/
namespace Go.Proofs.YtjmadnpcadidhaaDoor
open Go.RowKit

structure LineM where
  name : ByteArray
  frm : Int
  to : Int
  worth : Int
  limit : Int
structure GenM where
  name : ByteArray
  bus : Int
  least : Int
  most : Int
  cost : Int
structure LoadM where
  name : ByteArray
  bus : Int
  power : Int
structure TieM where
  name : ByteArray
  frm : Int
  to : Int
  closed : Bool
structure NetM where
  name : ByteArray
  buses : List ByteArray
  lines : List LineM
  gens : List GenM
  loads : List LoadM
  ties : List TieM
def LineM.cells (x : LineM) : List Value := [.string x.name, .int .i64 x.frm, .int .i64 x.to, .int .i64 x.worth, .int .i64 x.limit]
def GenM.cells (x : GenM) : List Value := [.string x.name, .int .i64 x.bus, .int .i64 x.least, .int .i64 x.most, .int .i64 x.cost]
def LoadM.cells (x : LoadM) : List Value := [.string x.name, .int .i64 x.bus, .int .i64 x.power]
def TieM.cells (x : TieM) : List Value := [.string x.name, .int .i64 x.frm, .int .i64 x.to, .bool x.closed]
def namesM (n : NetM) : List ByteArray := n.buses ++ n.lines.map LineM.name ++ n.gens.map GenM.name ++ n.loads.map LoadM.name ++ n.ties.map TieM.name
/-- No list is longer than may be. -/
def Fits (n : NetM) : Prop := n.buses.length ≤ 16 ∧ n.lines.length ≤ 30 ∧ n.gens.length ≤ 12 ∧ n.loads.length ≤ 16 ∧ n.ties.length ≤ 24

theorem flat_get {α : Type} (f : α → List Value) (sz : Nat) (hf : ∀ x, (f x).length = sz) : ∀ (xs : List α) (k j : Nat) (hk : k < xs.length), j < sz → (xs.flatMap f)[k * sz + j]? = (f xs[k])[j]?
  | x :: r, 0, j, _, hj => by
    rw [List.flatMap_cons, Nat.zero_mul, Nat.zero_add, List.getElem?_append_left (by rw [hf]; exact hj)]; rfl
  | x :: r, k + 1, j, hk, hj => by
    have h := flat_get f sz hf r k j (by simpa using hk) hj
    rw [List.flatMap_cons, List.getElem?_append_right (by rw [hf, Nat.succ_mul]; omega), hf]
    rw [show (k + 1) * sz + j - sz = k * sz + j by rw [Nat.succ_mul]; omega, h]
    simp
theorem flat_len {α : Type} (f : α → List Value) (sz : Nat) (hf : ∀ x, (f x).length = sz) (xs : List α) : (xs.flatMap f).length = xs.length * sz := by
  induction xs with
  | nil => simp
  | cons x r ih => rw [List.flatMap_cons, List.length_append, hf, ih, List.length_cons, Nat.succ_mul]; omega

/-- A network's value, its lists readable. -/
def NetAt (w : World) (v : Value) (n : NetM) : Prop :=
  ∃ b l g d t, v = .agg #[.string n.name, b, l, g, d, t] ∧ TextsAt w b n.buses ∧ RowAt w l n.lines.length 5 (n.lines.flatMap LineM.cells) ∧ RowAt w g n.gens.length 5 (n.gens.flatMap GenM.cells) ∧
    RowAt w d n.loads.length 3 (n.loads.flatMap LoadM.cells) ∧ RowAt w t n.ties.length 4 (n.ties.flatMap TieM.cells)
end Go.Proofs.YtjmadnpcadidhaaDoor
/- A law: a list is appended, whole, to none. -/
namespace Go.Proofs.YtjmadnpcadidhaaDoor
open Go.RowKit
variable {P : Program}

theorem add_off (b off j : Nat) : (⟨b, off, none⟩ : Addr).add j = ⟨b, off + j, none⟩ := by
  by_cases h0 : j = 0
  · subst h0; simp [Addr.add]
  · simp [Addr.add, h0]
theorem run_append_nils (w : World) (t ty e : TypeId) (i : TypeInfo) (ht : P.underlying t = some (.slice e)) (hi : P.info? e = some i) (c : Nat) :
    (Builtin.append_ #[t, t] ty #[.slice none 0 0, .slice none 0 c]).run P w = .ok (.slice none 0 0) w := by
  have hl : (Builtin.lenOf (.slice none 0 c)).run P w = .ok 0 w := rfl
  simp [Builtin.append_, run_underlying ht, sizeOf, typeInfo, hi, hl, Builtin.firstCells]
theorem wpList_append_all (w : World) {ops : Array Oper} {rest : List Oper} {o : Oper} {a : Act} {Q : Exit → Act → World → Prop} (hgd : o.guard = none) (s x : Operand) (t : TypeId)
    (ho : o.op = .call { callee := .builtin .append, args := #[s, x], argTypes := #[t, t] })
    (base : Nat) (e : TypeId) (i : TypeInfo) (z : Value) (bytes : Nat) (ht : P.underlying t = some (.slice e)) (hi : P.info? e = some i) (hz : i.zero = some z)
    (hsize : i.size = 1) (hby : i.bytes = bytes) (hzs : z.cells.size = 1)
    (hs : a.eval s = .slice none 0 0) (ao : Option Addr) (m c : Nat) (news : List Value) (hx : a.eval x = .slice ao m c) (hl : news.length = m * 1)
    (hnews : ∀ j u, news[j]? = some u → ∃ b off, ao = some ⟨b, off, none⟩ ∧ w.cell? ⟨b, off + j, none⟩ = some u) (h1 : ∀ u ∈ news, u.oneCell' = true)
    (h63 : m ≤ maxLen) (hbytes : m * bytes ≤ 140737488355328) (hbase : base ≤ w.heap.size)
    (h : ∀ v' w', w'.ownsRow base e 1 v' m news → w.grownBy w' none → wpList P ops Q rest (a.put o.dst v') w') : wpList P ops Q (o :: rest) a w := by
  cases ao with
  | some ad =>
    refine wpList_append_own w hgd s x t ho base e i z 1 bytes ht hi hz hsize hby hzs (by decide) _ 0 [] hs (World.ownsRow_nil _ _ _ _) ad m c news hx hl (fun j u hj => ?_) h1 (by rw [Nat.zero_add]; exact h63) (by rw [Nat.zero_add]; exact hbytes) hbase ?_
    · obtain ⟨b, off, e1, hc⟩ := hnews j u hj
      cases e1
      rw [add_off]; exact hc
    · intro v' w' ho' hg' _
      rw [Nat.zero_add, List.nil_append] at ho'
      exact h v' w' ho' hg'
  | none =>
    have hm : news = [] := by
      cases news with
      | nil => rfl
      | cons u r => obtain ⟨b, off, e1, _⟩ := hnews 0 u rfl; cases e1
    subst hm
    have hm0 : m = 0 := by simpa using hl.symm
    subst hm0
    refine wpList_plain hgd fun K hK => ?_
    unfold Oper.wp execOp
    simp only [ho, resolve, invoke, builtin, Sem.run_bind, Sem.run_pure, Result.andThen_ok, List.map_toArray, List.map_cons, List.map_nil, hs, hx, run_append_nils w t o.type e i ht hi c]
    exact hK _ _ (h _ w (World.ownsRow_nil _ _ _ _) ⟨rfl, rfl, rfl, Nat.le_refl _, fun _ _ _ => rfl⟩)
end Go.Proofs.YtjmadnpcadidhaaDoor
/- Contract: all names of a network, in the document's answer. -/
namespace Go.Proofs.YtjmadnpcadidhaaDoor
open Go.RowKit

theorem box_cells (w : World) (c0 c1 c2 c3 c4 c5 : Value) (t : TypeId) :
    (w.alloc (.cells #[c0, c1, c2, c3, c4, c5] t)).cell? ⟨w.heap.size, 0, none⟩ = some c0 ∧ (w.alloc (.cells #[c0, c1, c2, c3, c4, c5] t)).cell? ⟨w.heap.size, 1, none⟩ = some c1 ∧
    (w.alloc (.cells #[c0, c1, c2, c3, c4, c5] t)).cell? ⟨w.heap.size, 2, none⟩ = some c2 ∧ (w.alloc (.cells #[c0, c1, c2, c3, c4, c5] t)).cell? ⟨w.heap.size, 3, none⟩ = some c3 ∧
    (w.alloc (.cells #[c0, c1, c2, c3, c4, c5] t)).cell? ⟨w.heap.size, 4, none⟩ = some c4 ∧ (w.alloc (.cells #[c0, c1, c2, c3, c4, c5] t)).cell? ⟨w.heap.size, 5, none⟩ = some c5 := by
  simp
theorem texts_one (xs : List ByteArray) : ∀ u ∈ xs.map Value.string, u.oneCell' = true := by
  intro u hu; obtain ⟨x, _, rfl⟩ := List.mem_map.1 hu; rfl

theorem elem_at {α : Type} {w wr : World} {f : α → List Value} {sz : Nat} {a : Option Addr} {xs : List α} (hf : ∀ x, (f x).length = sz)
    (h : ∀ j u, (xs.flatMap f)[j]? = some u → ∃ b off, a = some ⟨b, off, none⟩ ∧ w.cell? ⟨b, off + j, none⟩ = some u) (hB : Below w.heap.size w wr) (k : Nat) (hk : k < xs.length) (x0 : Value) (h0 : (f xs[k])[0]? = some x0) :
    ∃ b off, a = some ⟨b, off, none⟩ ∧ wr.cell? ⟨b, off + k * sz, none⟩ = some x0 := by
  have hsz : 0 < sz := by rw [← hf xs[k]]; exact (List.getElem?_eq_some_iff.1 h0).1
  have e := flat_get f sz hf xs k 0 hk hsz
  rw [Nat.add_zero, h0] at e
  obtain ⟨b, off, rfl, hc⟩ := h _ _ e
  exact ⟨b, off, rfl, (hB.cell (p := ⟨b, off + k * sz, none⟩) (World.block_lt_of_cell? w _ hc)).trans hc⟩
theorem take_map_snoc {α : Type} (f : α → ByteArray) (xs : List α) (k : Nat) (hk : k < xs.length) (pre : List ByteArray) : pre ++ (xs.take k).map f ++ [f xs[k]] = pre ++ (xs.take (k + 1)).map f := by
  rw [List.take_succ_eq_append_getElem hk, List.map_append, List.append_assoc]; rfl

theorem hide' {p : Prop} (h : p) : Hid p := h
theorem ownsRow_down {w : World} {B B' e sz n : Nat} {v : Value} {xs : List Value} (h : w.ownsRow (B + 1) e sz v n xs) (hB : B' = B := by rfl) : w.ownsRow B' e sz v n xs := by
  subst hB
  refine ⟨h.1, ?_⟩
  rcases h.2 with h2 | ⟨g, cap, cur, h3, h4, h5⟩
  · exact .inl h2
  · exact .inr ⟨g, cap, cur, h3, by omega, h5⟩

set_option maxRecDepth 100000 in
set_option maxHeartbeats 2000000 in
theorem namesOf_any (v : Value) (n : NetM) (w : World) (hn : NetAt w v n) (hf : Fits n) :
    Calls Tryd.prog 36 #[v] w fun e w' => ∃ v', e = .returned v' ∧ w'.ownsRow w.heap.size 9 1 v' (namesM n).length ((namesM n).map Value.string) ∧ Below w.heap.size w w' := by
  obtain ⟨b, l, g, d, t, rfl, ⟨lb, ab, cb, rfl, hb⟩, ⟨ll, al, cl, rfl, hl⟩, ⟨lg, ag, cg, rfl, hg⟩, ⟨ld, ad, cd, rfl, hd⟩, ⟨lt, at', ct, rfl, ht⟩⟩ := hn
  obtain ⟨f1, f2, f3, f4, f5⟩ := hf
  obtain ⟨i0, hi, hz0, hz1, hz2⟩ := info_parts Tryd.info9
  obtain ⟨W0, hW0⟩ : ∃ W0, w.alloc (.cells #[.string n.name, .slice ab n.buses.length cb, .slice al n.lines.length cl, .slice ag n.gens.length cg, .slice ad n.loads.length cd, .slice at' n.ties.length ct] 28) = W0 := ⟨_, rfl⟩
  have hc0 := box_cells w (.string n.name) (.slice ab n.buses.length cb) (.slice al n.lines.length cl) (.slice ag n.gens.length cg) (.slice ad n.loads.length cd) (.slice at' n.ties.length ct) 28
  rw [hW0] at hc0
  have hB0 : Below w.heap.size w W0 := by rw [← hW0]; exact (Below.refl _ _).alloc (Nat.le_refl _) _
  have hs0 : W0.heap.size = w.heap.size + 1 := by rw [← hW0]; simp
  have hbW : ∀ j u, (n.buses.map Value.string)[j]? = some u → ∃ b off, ab = some ⟨b, off, none⟩ ∧ W0.cell? ⟨b, off + j, none⟩ = some u := fun j u hj => by
    obtain ⟨b, off, e1, hc⟩ := hb j u hj
    exact ⟨b, off, e1, (hB0.cell (p := ⟨b, off + j, none⟩) (World.block_lt_of_cell? w _ hc)).trans hc⟩
  have HW : Hid (_ = W0) := hW0
  clear hW0 hb lb ll lg ld lt
  go_enter Tryd.func36, Tryd.ntmps36
  go_wp2_with (at_builtin; go_must (rw [HW.out]; refine wpList_append_all _ rfl _ _ 22 rfl (w.heap.size + 1) 9 i0 (.string ⟨#[]⟩) 16 Tryd.underlying22 hi hz0 hz1 hz2 rfl rfl ab n.buses.length cb (n.buses.map Value.string) rfl (by simp) hbW (texts_one _) (by unfold maxLen; omega) (by omega) (by omega) ?_; intro v1 w1 hown1 hg1))
  have hB1 : Below (w.heap.size + 1) W0 w1 := (Below.refl _ _).grown hg1 (by omega) (fun k e => by cases e)
  have hB0' : Hid (Below w.heap.size w W0) := hB0
  clear hg1 hbW hB0 HW
  go_loopw [3, 4] (fun v i wr => ∃ (k : Nat), k ≤ n.lines.length ∧ i = .int .i64 k ∧ wr.ownsRow (w.heap.size + 1) 9 1 v (n.buses ++ (n.lines.take k).map LineM.name).length ((n.buses ++ (n.lines.take k).map LineM.name).map Value.string) ∧ Below (w.heap.size + 1) W0 wr) (fun _ i _ => n.lines.length - (intOf i).toNat)
  case atStart => exact ⟨0, by omega, rfl, by simpa using hown1, hB1⟩
  case round =>
    clear hown1 hB1
    obtain ⟨k, hk, rfl, hown, hB⟩ := hrel
    have hc2 := (hB.cell (p := ⟨w.heap.size, 2, none⟩) (by simp)).trans hc0.2.2.1
    have HC := hide' hc0
    clear hc0
    by_cases hlt : k < n.lines.length
    · obtain ⟨b, off, rfl, hck⟩ := elem_at (f := LineM.cells) (sz := 5) (fun _ => rfl) hl (hB0'.out.trans (hB.mono (by omega))) k hlt (.string n.lines[k].name) rfl
      clear hl hg hd ht
      go_wp2_with (at_builtin; refine wpList_append_own _ rfl _ _ 22 rfl (w.heap.size + 1) 9 i0 (.string ⟨#[]⟩) 1 16 Tryd.underlying22 hi hz0 hz1 hz2 rfl (by decide) _ _ _ rfl (hown.alloc _) ⟨wr.heap.size, 0, none⟩ 1 1 [.string n.lines[k].name] rfl rfl (cell_one_new _ _ _) (one_cell rfl) (by unfold maxLen; simp; omega) (by simp; omega) (by have := hB.size; simp; omega) ?_; intro v' w2 hown' hgrow _)
      go_roundw
      case rel => exact ⟨k + 1, by omega, by go_num, by have := own_snoc hown'; rwa [take_map_snoc] at this, below_app hB hown (Nat.le_refl _) (by have := hB.size; omega) hgrow⟩
      case measure => simp [intOf]; omega
    · have hown1 := hown
      rw [List.take_of_length_le (by omega)] at hown1
      have hB1 := hB
      clear hB hown
      go_wp2_with fail
      have hc0 := HC.out
      clear HC hlt hk hc2
      go_loopw [3, 5] (fun v i wr => ∃ (k : Nat), k ≤ n.gens.length ∧ i = .int .i64 k ∧ wr.ownsRow (w.heap.size + 1) 9 1 v ((n.buses ++ n.lines.map LineM.name) ++ (n.gens.take k).map GenM.name).length (((n.buses ++ n.lines.map LineM.name) ++ (n.gens.take k).map GenM.name).map Value.string) ∧ Below (w.heap.size + 1) W0 wr) (fun _ i _ => n.gens.length - (intOf i).toNat)
      case atStart => exact ⟨0, by omega, rfl, by simpa using hown1, hB1⟩
      case round =>
        clear hown1 hB1
        obtain ⟨k, hk, rfl, hown, hB⟩ := hrel
        have hc2 := (hB.cell (p := ⟨w.heap.size, 3, none⟩) (by simp)).trans hc0.2.2.2.1
        have HC := hide' hc0
        clear hc0
        by_cases hlt : k < n.gens.length
        · obtain ⟨b, off, rfl, hck⟩ := elem_at (f := GenM.cells) (sz := 5) (fun _ => rfl) hg (hB0'.out.trans (hB.mono (by omega))) k hlt (.string n.gens[k].name) rfl
          clear hl hg hd ht
          go_wp2_with (at_builtin; refine wpList_append_own _ rfl _ _ 22 rfl (w.heap.size + 1) 9 i0 (.string ⟨#[]⟩) 1 16 Tryd.underlying22 hi hz0 hz1 hz2 rfl (by decide) _ _ _ rfl (hown.alloc _) ⟨wr.heap.size, 0, none⟩ 1 1 [.string n.gens[k].name] rfl rfl (cell_one_new _ _ _) (one_cell rfl) (by unfold maxLen; simp; omega) (by simp; omega) (by have := hB.size; simp; omega) ?_; intro v' w2 hown' hgrow _)
          go_roundw
          case rel => exact ⟨k + 1, by omega, by go_num, by have := own_snoc hown'; rwa [take_map_snoc] at this, below_app hB hown (Nat.le_refl _) (by have := hB.size; omega) hgrow⟩
          case measure => simp [intOf]; omega
        · have hown1 := hown
          rw [List.take_of_length_le (by omega)] at hown1
          have hB1 := hB
          clear hB hown
          go_wp2_with fail
          have hc0 := HC.out
          clear HC hlt hk hc2
          go_loopw [3, 6] (fun v i wr => ∃ (k : Nat), k ≤ n.loads.length ∧ i = .int .i64 k ∧ wr.ownsRow (w.heap.size + 1) 9 1 v (((n.buses ++ n.lines.map LineM.name) ++ n.gens.map GenM.name) ++ (n.loads.take k).map LoadM.name).length ((((n.buses ++ n.lines.map LineM.name) ++ n.gens.map GenM.name) ++ (n.loads.take k).map LoadM.name).map Value.string) ∧ Below (w.heap.size + 1) W0 wr) (fun _ i _ => n.loads.length - (intOf i).toNat)
          case atStart => exact ⟨0, by omega, rfl, by simpa using hown1, hB1⟩
          case round =>
            clear hown1 hB1
            obtain ⟨k, hk, rfl, hown, hB⟩ := hrel
            have hc2 := (hB.cell (p := ⟨w.heap.size, 4, none⟩) (by simp)).trans hc0.2.2.2.2.1
            have HC := hide' hc0
            clear hc0
            by_cases hlt : k < n.loads.length
            · obtain ⟨b, off, rfl, hck⟩ := elem_at (f := LoadM.cells) (sz := 3) (fun _ => rfl) hd (hB0'.out.trans (hB.mono (by omega))) k hlt (.string n.loads[k].name) rfl
              clear hl hg hd ht
              go_wp2_with (at_builtin; refine wpList_append_own _ rfl _ _ 22 rfl (w.heap.size + 1) 9 i0 (.string ⟨#[]⟩) 1 16 Tryd.underlying22 hi hz0 hz1 hz2 rfl (by decide) _ _ _ rfl (hown.alloc _) ⟨wr.heap.size, 0, none⟩ 1 1 [.string n.loads[k].name] rfl rfl (cell_one_new _ _ _) (one_cell rfl) (by unfold maxLen; simp; omega) (by simp; omega) (by have := hB.size; simp; omega) ?_; intro v' w2 hown' hgrow _)
              go_roundw
              case rel => exact ⟨k + 1, by omega, by go_num, by have := own_snoc hown'; rwa [take_map_snoc] at this, below_app hB hown (Nat.le_refl _) (by have := hB.size; omega) hgrow⟩
              case measure => simp [intOf]; omega
            · have hown1 := hown
              rw [List.take_of_length_le (by omega)] at hown1
              have hB1 := hB
              clear hB hown
              go_wp2_with fail
              have hc0 := HC.out
              clear HC hlt hk hc2
              go_loopw [3, 7] (fun v i wr => ∃ (k : Nat), k ≤ n.ties.length ∧ i = .int .i64 k ∧ wr.ownsRow (w.heap.size + 1) 9 1 v ((((n.buses ++ n.lines.map LineM.name) ++ n.gens.map GenM.name) ++ n.loads.map LoadM.name) ++ (n.ties.take k).map TieM.name).length (((((n.buses ++ n.lines.map LineM.name) ++ n.gens.map GenM.name) ++ n.loads.map LoadM.name) ++ (n.ties.take k).map TieM.name).map Value.string) ∧ Below (w.heap.size + 1) W0 wr) (fun _ i _ => n.ties.length - (intOf i).toNat)
              case atStart => exact ⟨0, by omega, rfl, by simpa using hown1, hB1⟩
              case round =>
                clear hown1 hB1
                obtain ⟨k, hk, rfl, hown, hB⟩ := hrel
                have hc2 := (hB.cell (p := ⟨w.heap.size, 5, none⟩) (by simp)).trans hc0.2.2.2.2.2
                have HC := hide' hc0
                clear hc0
                by_cases hlt : k < n.ties.length
                · obtain ⟨b, off, rfl, hck⟩ := elem_at (f := TieM.cells) (sz := 4) (fun _ => rfl) ht (hB0'.out.trans (hB.mono (by omega))) k hlt (.string n.ties[k].name) rfl
                  clear hl hg hd ht
                  go_wp2_with (at_builtin; refine wpList_append_own _ rfl _ _ 22 rfl (w.heap.size + 1) 9 i0 (.string ⟨#[]⟩) 1 16 Tryd.underlying22 hi hz0 hz1 hz2 rfl (by decide) _ _ _ rfl (hown.alloc _) ⟨wr.heap.size, 0, none⟩ 1 1 [.string n.ties[k].name] rfl rfl (cell_one_new _ _ _) (one_cell rfl) (by unfold maxLen; simp; omega) (by simp; omega) (by have := hB.size; simp; omega) ?_; intro v' w2 hown' hgrow _)
                  go_roundw
                  case rel => exact ⟨k + 1, by omega, by go_num, by have := own_snoc hown'; rwa [take_map_snoc] at this, below_app hB hown (Nat.le_refl _) (by have := hB.size; omega) hgrow⟩
                  case measure => simp [intOf]; omega
                · have hown1 := hown
                  rw [List.take_of_length_le (by omega)] at hown1
                  have hB1 := hB
                  clear hB hown
                  go_wp2_with fail
                  go_ret
                  exact ⟨_, rfl, ownsRow_down hown1, hB0'.out.trans (hB1.mono (by omega))⟩
end Go.Proofs.YtjmadnpcadidhaaDoor
/- Contracts: whether a name is new, and two buses by their names, in the document's answer. -/
namespace Go.Proofs.YtjmadnpcadidhaaDoor
open Go.RowKit

theorem NetAt.below {w w' : World} {B : Nat} {v : Value} {n : NetM} (h : NetAt w v n) (hB : Below B w w') (hb : w.heap.size ≤ B) : NetAt w' v n := by
  obtain ⟨b, l, g, d, t, h0, h1, h2, h3, h4, h5⟩ := h
  exact ⟨b, l, g, d, t, h0, h1.below hB hb, h2.below hB hb, h3.below hB hb, h4.below hB hb, h5.below hB hb⟩
theorem below_drewN {B : Nat} {a w : World} (h : Below B a w) (q : Nat) : Below B a (w.drewN q) := ⟨h.os, h.tape, h.output, h.size, h.block⟩
def newNameE (n : NetM) (s : ByteArray) (many most : Int) : Int :=
  if nameL (bytesOf s) = false then 5 else if 0 ≤ placeL (namesM n) s then 6 else if most ≤ many then 17 else 0
theorem names_le {n : NetM} (hf : Fits n) : (namesM n).length ≤ 1000 := by
  obtain ⟨f1, f2, f3, f4, f5⟩ := hf
  simp [namesM]; omega

set_option maxRecDepth 100000 in
set_option maxHeartbeats 2000000 in
theorem newName_any (v : Value) (n : NetM) (s : ByteArray) (many most : Int) (w : World) (hn : NetAt w v n) (hf : Fits n) (hs : s.size ≤ 20000) :
    Calls Tryd.prog 19 #[v, .string s, .int .i64 many, .int .i64 most] w fun e w' => e = .returned (.int .i64 (newNameE n s many most)) ∧ Below w.heap.size w w' := by
  have hle := names_le hf
  obtain ⟨E, hE⟩ : ∃ E, newNameE n s many most = E := ⟨_, rfl⟩
  rw [hE]
  obtain ⟨b, l, g, d, t, rfl, h1, h2, h3, h4, h5⟩ := hn
  have hn' : NetAt w (.agg #[.string n.name, b, l, g, d, t]) n := ⟨b, l, g, d, t, rfl, h1, h2, h3, h4, h5⟩
  have HN := hide' hn'
  clear h1 h2 h3 h4 h5 hn'
  unfold newNameE at hE
  cases hv : nameL (bytesOf s) with
  | false =>
    rw [if_pos hv] at hE
    subst hE
    go_enter Tryd.func19, Tryd.ntmps19
    go_wp2_with (go_at_call 18; refine (NameOk_any s _ hs).mono ?_; rintro e w' ⟨rfl, q, rfl⟩)
    go_ret
    exact ⟨rfl, below_drewN ((Below.refl _ _).alloc (Nat.le_refl _) _) q⟩
  | true =>
    rw [if_neg (by rw [hv]; decide)] at hE
    have HE := hide' hE
    clear hE
    have hB0 : Below w.heap.size w (w.alloc (.cells #[.string n.name, b, l, g, d, t] 28)) := (Below.refl _ _).alloc (Nat.le_refl _) _
    have HB := hide' hB0
    clear hB0
    by_cases hp : 0 ≤ placeL (namesM n) s
    · have HE' : Hid (6 = E) := by have := HE.out; rwa [if_pos hp] at this
      clear HE
      go_enter Tryd.func19, Tryd.ntmps19
      go_wp2_with (go_at_call 18; refine (NameOk_any s _ hs).mono ?_; rintro e w' ⟨rfl, q, rfl⟩)
      have hB1 := below_drewN HB.out q
      refine (namesOf_any _ n _ (HN.out.below hB1 (Nat.le_refl _)) hf).mono ?_
      rintro e w2 ⟨v', rfl, hown, hB2⟩
      have HB2 := hide' (hB1.trans (hB2.mono (by simp)))
      have HO := hide' (rowAt_of_own hown)
      clear hown hB1 hB2
      go_wp2_with (go_at_call 22; refine (placeOf_any v' (namesM n) s _ HO.out hle).mono ?_; rintro e w3 ⟨rfl, rfl⟩)
      go_ret
      exact ⟨ret_int HE'.out, HB2.out⟩
    · have HE2 : Hid ((if most ≤ many then 17 else 0) = E) := by have := HE.out; rwa [if_neg hp] at this
      clear HE
      by_cases hm : most ≤ many
      · have HE' : Hid (17 = E) := by have := HE2.out; rwa [if_pos hm] at this
        clear HE2
        go_enter Tryd.func19, Tryd.ntmps19
        go_wp2_with (go_at_call 18; refine (NameOk_any s _ hs).mono ?_; rintro e w' ⟨rfl, q, rfl⟩)
        have hB1 := below_drewN HB.out q
        refine (namesOf_any _ n _ (HN.out.below hB1 (Nat.le_refl _)) hf).mono ?_
        rintro e w2 ⟨v', rfl, hown, hB2⟩
        have HB2 := hide' (hB1.trans (hB2.mono (by simp)))
        have HO := hide' (rowAt_of_own hown)
        clear hown hB1 hB2
        go_wp2_with (go_at_call 22; refine (placeOf_any v' (namesM n) s _ HO.out hle).mono ?_; rintro e w3 ⟨rfl, rfl⟩)
        go_ret
        exact ⟨ret_int HE'.out, HB2.out⟩
      · have HE' : Hid (0 = E) := by have := HE2.out; rwa [if_neg hm] at this
        clear HE2
        go_enter Tryd.func19, Tryd.ntmps19
        go_wp2_with (go_at_call 18; refine (NameOk_any s _ hs).mono ?_; rintro e w' ⟨rfl, q, rfl⟩)
        have hB1 := below_drewN HB.out q
        refine (namesOf_any _ n _ (HN.out.below hB1 (Nat.le_refl _)) hf).mono ?_
        rintro e w2 ⟨v', rfl, hown, hB2⟩
        have HB2 := hide' (hB1.trans (hB2.mono (by simp)))
        have HO := hide' (rowAt_of_own hown)
        clear hown hB1 hB2
        go_wp2_with (go_at_call 22; refine (placeOf_any v' (namesM n) s _ HO.out hle).mono ?_; rintro e w3 ⟨rfl, rfl⟩)
        go_ret
        exact ⟨ret_int HE'.out, HB2.out⟩

/-- The places of two buses, and what is wrong. -/
def twoE (bs : List ByteArray) (x y : ByteArray) : Int := if placeL bs x < 0 then 9 else if placeL bs y < 0 then 9 else if placeL bs x = placeL bs y then 7 else 0

set_option maxRecDepth 100000 in
set_option maxHeartbeats 2000000 in
theorem twoBuses_any (v : Value) (n : NetM) (x y : ByteArray) (w : World) (hn : NetAt w v n) (hf : Fits n) :
    Calls Tryd.prog 20 #[v, .string x, .string y] w fun e w' => ∃ a b : Int, e = .returned (.tuple #[.int .i64 a, .int .i64 b, .int .i64 (twoE n.buses x y)]) ∧ (twoE n.buses x y = 0 → a = placeL n.buses x ∧ b = placeL n.buses y) ∧ Below w.heap.size w w' := by
  obtain ⟨b, l, g, d, t, rfl, h1, h2, h3, h4, h5⟩ := hn
  have hle : n.buses.length ≤ 1000 := by have := hf.1; omega
  have hB0 : Below w.heap.size w (w.alloc (.cells #[.string n.name, b, l, g, d, t] 28)) := (Below.refl _ _).alloc (Nat.le_refl _) _
  have hT := h1.below hB0 (Nat.le_refl _)
  have HT := hide' hT
  have HB := hide' hB0
  clear h1 h2 h3 h4 h5 hT hB0
  go_enter Tryd.func20, Tryd.ntmps20
  go_wp2_with fail
  go_quiet ((first | (go_at_call 22; exact Calls.quiet_of_same (placeOf_any _ _ _ _ HT.out hle))))
  by_cases hx : placeL n.buses x < 0
  · have HE : Hid (twoE n.buses x y = 9) := by show _ = _; unfold twoE; rw [if_pos hx]
    go_wp2
    go_ret3
    exact ⟨0, 0, by rw [HE.out]; rfl, fun h => by rw [HE.out] at h; exact absurd h (by decide), below_drewN HB.out _⟩
  by_cases hy : placeL n.buses y < 0
  · have HE : Hid (twoE n.buses x y = 9) := by show _ = _; unfold twoE; rw [if_neg hx, if_pos hy]
    go_wp2
    go_ret3
    exact ⟨0, 0, by rw [HE.out]; rfl, fun h => by rw [HE.out] at h; exact absurd h (by decide), below_drewN HB.out _⟩
  by_cases hxy : placeL n.buses x = placeL n.buses y
  · have HE : Hid (twoE n.buses x y = 7) := by show _ = _; unfold twoE; rw [if_neg hx, if_neg hy, if_pos hxy]
    have hb : (placeL n.buses x == placeL n.buses y) = true := by simpa using hxy
    clear hxy
    go_wp2
    go_ret3
    exact ⟨0, 0, by rw [HE.out]; rfl, fun h => by rw [HE.out] at h; exact absurd h (by decide), below_drewN HB.out _⟩
  · have HE : Hid (twoE n.buses x y = 0) := by show _ = _; unfold twoE; rw [if_neg hx, if_neg hy, if_neg hxy]
    have hb : (placeL n.buses x == placeL n.buses y) = false := by simpa using hxy
    clear hxy
    go_wp2
    go_ret3
    exact ⟨placeL n.buses x, placeL n.buses y, by rw [HE.out]; rfl, fun _ => ⟨rfl, rfl⟩, below_drewN HB.out _⟩
end Go.Proofs.YtjmadnpcadidhaaDoor
/- Contract: numbers of words within their bounds, in the document's answer. -/
namespace Go.Proofs.YtjmadnpcadidhaaDoor
open Go.RowKit

theorem Tryd.info3 : (Tryd.prog.info? 3).map (fun i => (i.zero, i.size, i.bytes)) = some (some (.int .i64 0), 1, 8) := by kernel_rfl
theorem Tryd.underlying61 : Tryd.prog.underlying 61 = some (.slice 3) := by kernel_rfl
abbrev IntsAt (w : World) (v : Value) (xs : List Int) : Prop := RowAt w v xs.length 1 (xs.map (Value.int .i64))
def numsE : List ByteArray → List Int → List Int → Int
  | x :: xs, lo :: ls, hi :: hs => if numL (bytesOf x) < 0 then 1 else if numL (bytesOf x) < lo ∨ hi < numL (bytesOf x) then 4 else numsE xs ls hs
  | _, _, _ => 0
def NumsAt (ws : List ByteArray) (lo hi : List Int) (k : Nat) : Prop := numsE (ws.drop k) (lo.drop k) (hi.drop k) = numsE ws lo hi
theorem NumsAt.open' {ws : List ByteArray} {lo hi : List Int} {k : Nat} (h : NumsAt ws lo hi k) (h1 : k < ws.length) (h2 : k < lo.length) (h3 : k < hi.length) :
    (if numL (bytesOf ws[k]) < 0 then 1 else if numL (bytesOf ws[k]) < lo[k] ∨ hi[k] < numL (bytesOf ws[k]) then 4 else numsE (ws.drop (k + 1)) (lo.drop (k + 1)) (hi.drop (k + 1))) = numsE ws lo hi := by
  unfold NumsAt at h
  rw [List.drop_eq_getElem_cons h1, List.drop_eq_getElem_cons h2, List.drop_eq_getElem_cons h3, numsE] at h
  exact h
theorem numFold (l : List UInt8) : ∀ n : Int, l.all digU = true → 0 ≤ n → 0 ≤ l.foldl (fun n c => 10 * n + ((c.toNat : Int) - 48)) n ∧ l.foldl (fun n c => 10 * n + ((c.toNat : Int) - 48)) n < (n + 1) * 10 ^ l.length := by
  induction l with
  | nil => intro n _ h; simp only [List.foldl_nil, List.length_nil]; constructor <;> omega
  | cons c r ih =>
    intro n h h0
    rw [List.all_cons, Bool.and_eq_true] at h
    have hd := h.1
    simp only [digU, Bool.and_eq_true, decide_eq_true_eq] at hd
    have ih' := ih (10 * n + ((c.toNat : Int) - 48)) h.2 (by omega)
    rw [List.foldl_cons, List.length_cons]
    refine ⟨ih'.1, Int.lt_of_lt_of_le ih'.2 ?_⟩
    rw [Int.pow_succ, Int.mul_comm (10 ^ r.length) 10, ← Int.mul_assoc]
    apply Int.mul_le_mul_of_nonneg_right
    · omega
    · exact Int.le_of_lt (Int.pow_pos (by decide))
theorem numL_bound (l : List UInt8) : -1 ≤ numL l ∧ numL l < 1000000000 := by
  unfold numL
  split
  · omega
  · split
    · rename_i h1 h2
      have := numFold l 0 h2 (by omega)
      have hp : (10 : Int) ^ l.length ≤ 10 ^ 9 := by
        have : (10 : Nat) ^ l.length ≤ 10 ^ 9 := Nat.pow_le_pow_right (by omega) (by omega)
        exact_mod_cast this
      unfold numGo
      omega
    · omega
theorem row_below {w wr : World} {a : Option Addr} {xs : List Value} (h : ∀ j u, xs[j]? = some u → ∃ b off, a = some ⟨b, off, none⟩ ∧ w.cell? ⟨b, off + j, none⟩ = some u) (hB : Below w.heap.size w wr) :
    ∀ j u, xs[j]? = some u → ∃ b off, a = some ⟨b, off, none⟩ ∧ wr.cell? ⟨b, off + j, none⟩ = some u := fun j u hj => by
  obtain ⟨b, off, rfl, hc⟩ := h j u hj
  exact ⟨b, off, rfl, (hB.cell (p := ⟨b, off + j, none⟩) (World.block_lt_of_cell? w _ hc)).trans hc⟩

set_option maxRecDepth 100000 in
set_option maxHeartbeats 2000000 in
theorem numbersIn_any (v vl vm : Value) (ws : List ByteArray) (lo hi : List Int) (w : World) (hw : TextsAt w v ws) (hlo : IntsAt w vl lo) (hhi : IntsAt w vm hi) (h1 : lo.length = ws.length) (h2 : hi.length = ws.length)
    (hn : ws.length ≤ 10) (hs : ∀ x ∈ ws, x.size ≤ 20000) :
    Calls Tryd.prog 21 #[v, vl, vm] w fun e w' => ∃ u, e = .returned (.tuple #[u, .int .i64 (numsE ws lo hi)]) ∧
      (numsE ws lo hi = 0 → w'.ownsRow w.heap.size 3 1 u ws.length (ws.map (fun x => .int .i64 (numL (bytesOf x))))) ∧ Below w.heap.size w w' := by
  obtain ⟨E, hE⟩ : ∃ E, numsE ws lo hi = E := ⟨_, rfl⟩
  have HE := hide' hE
  rw [hE]
  clear hE
  obtain ⟨-, aw, cw, rfl, hcw⟩ := hw
  obtain ⟨-, al, cl, rfl, hcl⟩ := hlo
  obtain ⟨-, am, cm, rfl, hcm⟩ := hhi
  obtain ⟨i0, hi0, hz0, hz1, hz2⟩ := info_parts Tryd.info3
  have H1 := hide' h1
  have H2 := hide' h2
  clear h1 h2
  go_enter Tryd.func21, Tryd.ntmps21
  go_wp2
  go_loopw [8, 9] (fun u i wr => ∃ k : Nat, k ≤ ws.length ∧ i = .int .i64 k ∧ Hid (NumsAt ws lo hi k) ∧ wr.ownsRow w.heap.size 3 1 u ((ws.take k).map (fun x => Value.int .i64 (numL (bytesOf x)))).length ((ws.take k).map (fun x => .int .i64 (numL (bytesOf x)))) ∧ Below w.heap.size w wr) (fun _ i _ => ws.length - (intOf i).toNat)
  case atStart => exact ⟨0, by omega, rfl, rfl, World.ownsRow_nil _ _ _ _, Below.refl _ _⟩
  case round =>
    obtain ⟨k, hk, rfl, HN, hown, hB⟩ := hrel
    by_cases hlt : k < ws.length
    · have g1 : k < lo.length := by rw [H1.out]; exact hlt
      have g2 : k < hi.length := by rw [H2.out]; exact hlt
      obtain ⟨b1, o1, rfl, hc1⟩ := row_below hcw hB k (.string ws[k]) (by simp [hlt])
      obtain ⟨b2, o2, rfl, hc2⟩ := row_below hcl hB k (.int .i64 lo[k]) (by simp [g1])
      obtain ⟨b3, o3, rfl, hc3⟩ := row_below hcm hB k (.int .i64 hi[k]) (by simp [g2])
      have hop := HN.out.open' hlt g1 g2
      have HE' := hide' HE.out
      rw [HE.out] at hop
      have HOP := hide' hop
      have hsz := hs _ (List.getElem_mem hlt)
      clear hcw hcl hcm HN HE hop hs
      have hbd := numL_bound (bytesOf ws[k])
      have hnum := numberOf_any ws[k]
      have HNUM := hide' hnum
      clear hnum
      by_cases hneg : numL (bytesOf ws[k]) < 0
      · have HP : Hid (1 = E) := by have := HOP.out; rwa [if_pos hneg] at this
        clear HOP
        go_wp2_with (go_at_call 37; refine (HNUM.out _ hsz).mono ?_; rintro e w' ⟨rfl, rfl⟩)
        go_ret2
        exact ⟨_, by rw [← HP.out]; rfl, fun h => by rw [← HP.out] at h; exact absurd h (by decide), hB⟩
      · have HOP2 : Hid ((if numL (bytesOf ws[k]) < lo[k] ∨ hi[k] < numL (bytesOf ws[k]) then 4 else numsE (ws.drop (k + 1)) (lo.drop (k + 1)) (hi.drop (k + 1))) = E) := by have := HOP.out; rwa [if_neg hneg] at this
        clear HOP
        by_cases hlow : numL (bytesOf ws[k]) < lo[k]
        · have HP : Hid (4 = E) := by have := HOP2.out; rwa [if_pos (.inl hlow)] at this
          clear HOP2
          go_wp2_with (go_at_call 37; refine (HNUM.out _ hsz).mono ?_; rintro e w' ⟨rfl, rfl⟩)
          go_ret2
          exact ⟨_, by rw [← HP.out]; rfl, fun h => by rw [← HP.out] at h; exact absurd h (by decide), hB⟩
        by_cases hhigh : hi[k] < numL (bytesOf ws[k])
        · have HP : Hid (4 = E) := by have := HOP2.out; rwa [if_pos (.inr hhigh)] at this
          clear HOP2
          go_wp2_with (go_at_call 37; refine (HNUM.out _ hsz).mono ?_; rintro e w' ⟨rfl, rfl⟩)
          go_ret2
          exact ⟨_, by rw [← HP.out]; rfl, fun h => by rw [← HP.out] at h; exact absurd h (by decide), hB⟩
        have HP : Hid (NumsAt ws lo hi (k + 1)) := by
          have := HOP2.out
          rw [if_neg (by omega)] at this
          show _ = _
          rw [this]; exact HE'.out.symm
        clear HOP2
        go_wp2_with (first | (go_at_call 37; refine (HNUM.out _ hsz).mono ?_; rintro e w' ⟨rfl, hw'⟩; obtain rfl := hw'.symm) | (at_builtin; refine wpList_append_own _ rfl _ _ 61 rfl w.heap.size 3 i0 (.int .i64 0) 1 8 Tryd.underlying61 hi0 hz0 hz1 hz2 rfl (by decide) _ _ _ rfl (hown.alloc _) ⟨_, 0, none⟩ 1 1 [.int .i64 (numL (bytesOf ws[k]))] rfl rfl (cell_one_new _ _ _) (one_cell rfl) (by unfold maxLen; simp; omega) (by simp; omega) (by have := hB.size; simp; omega) ?_; intro v' w2 hown' hgrow _))
        go_roundw
        case rel =>
          refine ⟨k + 1, by omega, by go_num, HP, ?_, below_app hB hown (Nat.le_refl _) hB.size hgrow⟩
          rw [List.take_succ_eq_append_getElem hlt, List.map_append]
          simpa using hown'
        case measure => simp [intOf]; omega
    · have HP : Hid (E = 0 ∧ wr.ownsRow w.heap.size 3 1 u8 ws.length (ws.map (fun x => .int .i64 (numL (bytesOf x))))) := by
        refine ⟨?_, ?_⟩
        · have := HN.out
          unfold NumsAt at this
          rw [HE.out, List.drop_of_length_le (by omega)] at this
          rw [← this]; rfl
        · rw [List.take_of_length_le (by omega)] at hown
          simpa using hown
      clear hcw hcl hcm HN HE hs hown
      go_wp2
      go_ret2
      obtain ⟨rfl, ho⟩ := HP.out
      exact ⟨_, rfl, fun _ => ho, hB⟩
end Go.Proofs.YtjmadnpcadidhaaDoor
