/- Signs as the bits of a number. -/
import Derived.Test.YtcnoipcpifackahXb
import Derived.Test.YtcnoipcpifackahY2
namespace Go.Proofs.Ytcnoipcpifackah
open Go.RowKit Go.Shelf

/-- Signs as bits, the first the lowest. -/
def codeB : List Bool → Nat
  | [] => 0
  | b :: r => (if b then 1 else 0) + 2 * codeB r
theorem code_snoc : ∀ (l : List Bool) (b : Bool), codeB (l ++ [b]) = codeB l + (if b then 2 ^ l.length else 0)
  | [], b => by cases b <;> rfl
  | a :: r, b => by
    show (if a then 1 else 0) + 2 * codeB (r ++ [b]) = (if a then 1 else 0) + 2 * codeB r + (if b then 2 ^ (r.length + 1) else 0)
    rw [code_snoc r b, Nat.pow_succ]
    cases b <;> simp <;> omega
theorem code_lt : ∀ (l : List Bool), codeB l < 2 ^ l.length
  | [] => by decide
  | a :: r => by
    have h := code_lt r
    show (if a then 1 else 0) + 2 * codeB r < 2 ^ (r.length + 1)
    rw [Nat.pow_succ]
    cases a <;> simp <;> omega
theorem code_inj : ∀ {a b : List Bool}, a.length = b.length → codeB a = codeB b → a = b
  | [], [], _, _ => rfl
  | [], _ :: _, h, _ => by simp at h
  | _ :: _, [], h, _ => by simp at h
  | x :: a, y :: b, h, hc => by
    have hc' : (if x then 1 else 0) + 2 * codeB a = (if y then 1 else 0) + 2 * codeB b := hc
    have h1 : x = y := by cases x <;> cases y <;> simp at hc' <;> first | rfl | omega
    subst h1
    rw [code_inj (by simpa using h) (by omega : codeB a = codeB b)]
theorem pow_small {k : Nat} (hk : k ≤ 20) : 2 ^ k ≤ 1048576 := Nat.le_trans (Nat.pow_le_pow_right (by decide) hk) (by decide)
theorem or_pow {c k : Nat} (hc : c < 2 ^ k) (hk : k ≤ 20) : bits BinOp.or IntKind.i64 (c : Int) (wrap64 ((2 : Int) ^ k)) = ((c + 2 ^ k : Nat) : Int) := by
  have hp := pow_small hk
  have e0 : ((2 : Int) ^ k) = ((2 ^ k : Nat) : Int) := (Int.natCast_pow 2 k).symm
  rw [e0]
  obtain ⟨m, hm⟩ : ∃ m, m = 2 ^ k := ⟨_, rfl⟩
  have hor : c ||| m = c + m := by
    have := Nat.two_pow_add_eq_or_of_lt hc 1
    rw [Nat.mul_one, ← hm] at this
    rw [Nat.or_comm, ← this, Nat.add_comm]
  rw [← hm] at hc hp ⊢
  have e1 : wrap64 (m : Int) = (m : Int) := by unfold wrap64; omega
  rw [e1]
  have h1 : (BitVec.ofInt 64 (c : Int) ||| BitVec.ofInt 64 (m : Int)).toNat = c + m := by
    rw [BitVec.toNat_or, BitVec.toNat_ofInt, BitVec.toNat_ofInt]
    have a1 : ((c : Int) % ((2 ^ 64 : Nat) : Int)).toNat = c := by omega
    have a2 : ((m : Int) % ((2 ^ 64 : Nat) : Int)).toNat = m := by omega
    rw [a1, a2, hor]
  have h2 : bits BinOp.or IntKind.i64 (c : Int) (m : Int) = IntKind.i64.wrap ((BitVec.ofInt 64 (c : Int) ||| BitVec.ofInt 64 (m : Int)).toNat : Int) := rfl
  rw [h2, h1]
  exact Go.IntWalk.i64_in _ (by omega)
theorem bool_cellX {w : World} {v : Value} {l : List Bool} {n : Nat} (h : RowAt w v n 1 (l.map Value.bool)) (k : Nat) (hk : k < n) : ∃ b off c, v = .slice (some ⟨b, off, none⟩) n c ∧ w.cell? ⟨b, off + k, none⟩ = some (.bool (l.getD k false)) := by
  obtain ⟨hl, a, c, rfl, h2⟩ := h
  have hk' : k < l.length := by simpa using (show k < (l.map Value.bool).length by rw [hl]; omega)
  obtain ⟨b, off, rfl, h3⟩ := h2 k (.bool (l.getD k false)) (by rw [List.getElem?_map, List.getElem?_eq_getElem hk', List.getD_eq_getElem?_getD, List.getElem?_eq_getElem hk']; rfl)
  exact ⟨b, off, c, rfl, h3⟩
set_option maxRecDepth 100000 in
set_option maxHeartbeats 2000000 in
theorem self_any (b : Bool) (w : World) : Calls Try.prog 38 #[.bool b] w fun e w' => e = .returned (.bool b) ∧ w' = w := by
  go_enter Try.func38, Try.ntmps38
  go_wp2
  go_ret
  exact ⟨rfl, rfl⟩
set_option maxRecDepth 100000 in
set_option maxHeartbeats 2000000 in
theorem bits_any (l : List Bool) (v : Value) (w : World) (hx : RowAt w v l.length 1 (l.map Value.bool)) (hn : l.length ≤ 20) : Calls Try.prog 37 #[v, .func (.func 38) #[] #[]] w fun e w' => e = .returned (.int .i64 ((codeB l : Nat) : Int)) ∧ w' = w := by
  have HX := hide' hx
  obtain ⟨ar, cr, rfl⟩ := rowAt_slice hx
  clear hx
  go_enter Try.func37, Try.ntmps37
  go_wp2_with fail
  go_loopw [5, 10] (fun sv iv wr => ∃ (k : Nat), iv = .int .i64 k ∧ k ≤ l.length ∧ sv = .int .i64 ((codeB (l.take k) : Nat) : Int) ∧ wr = w) (fun _ iv _ => l.length - (intOf iv).toNat)
  case atStart => exact ⟨0, rfl, Nat.zero_le _, rfl, rfl⟩
  case round =>
    obtain ⟨k, rfl, hk, rfl, rfl⟩ := hrel
    by_cases hlt : k < l.length
    · obtain ⟨b1, o1, c1, ex1, hc1⟩ := bool_cellX HX.out k hlt
      cases ex1
      have hcs : codeB (l.take (k + 1)) = codeB (l.take k) + (if l.getD k false then 2 ^ k else 0) := by
        rw [List.take_add_one, List.getElem?_eq_getElem hlt]
        show codeB (l.take k ++ [l[k]]) = _
        rw [code_snoc, List.length_take, Nat.min_eq_left (by omega), List.getD_eq_getElem?_getD, List.getElem?_eq_getElem hlt]
        rfl
      have hcl := code_lt (l.take k)
      rw [List.length_take, Nat.min_eq_left (by omega)] at hcl
      obtain ⟨x, hx⟩ : ∃ x, x = l.getD k false := ⟨_, rfl⟩
      obtain ⟨c, hc⟩ : ∃ c, c = codeB (l.take k) := ⟨_, rfl⟩
      rw [← hx] at hc1 hcs
      rw [← hc] at hcs hcl ⊢
      have HCS := hide' hcs
      clear hx hc hcs
      go_wp2_with fail
      refine (self_any x _).mono ?_
      rintro e zz ⟨rfl, hzz⟩
      rw [hzz]
      clear hzz zz
      cases x with
      | false =>
        go_wp2_with fail
        go_roundw
        case rel => exact ⟨k + 1, by go_num, by omega, by rw [HCS.out]; rfl, trivial⟩
        case measure => simp [intOf]; omega
      | true =>
        have HOR := hide' (or_pow hcl (by omega))
        have HC2 : Hid (codeB (l.take (k + 1)) = c + 2 ^ k) := HCS.out
        go_upto_region 7 with fail
        rw [HOR.out]
        go_wp2_with fail
        go_roundw
        case rel => exact ⟨k + 1, by go_num, by omega, by rw [HC2.out], trivial⟩
        case measure => simp [intOf]; omega
    · have : k = l.length := by omega
      have HE : Hid (codeB (l.take k) = codeB l) := by show _ = _; rw [this, List.take_of_length_le (Nat.le_refl _)]
      go_wp2
      go_ret
      exact ⟨by rw [← HE.out]; rfl, rfl⟩
end Go.Proofs.Ytcnoipcpifackah
