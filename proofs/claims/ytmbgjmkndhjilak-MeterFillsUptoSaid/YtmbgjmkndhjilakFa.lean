/- Whole numbers as rows of digits of four: pure facts. -/
import Derived.Test.YtmbgjmkndhjilakYv
namespace Go.Proofs.Ytmbgjmkndhjilak
open Go.RowKit Go.Shelf

/-- What digits come to, the lowest first. -/
def valN : List Nat → Nat
  | [] => 0
  | d :: r => d + 10000 * valN r
def Dgs (l : List Nat) : Prop := ∀ d ∈ l, d < 10000
/-- Digits, and none that is nought at the end. -/
structure Canon (l : List Nat) : Prop where
  dg : Dgs l
  top : ∀ h : l ≠ [], l.getLast h ≠ 0
theorem val_app (a b : List Nat) : valN (a ++ b) = valN a + 10000 ^ a.length * valN b := by
  induction a with
  | nil => simp [valN]
  | cons d r ih =>
    rw [List.cons_append, valN, valN, ih, List.length_cons, Nat.pow_succ, Nat.mul_add]
    have : 10000 * (10000 ^ r.length * valN b) = 10000 ^ r.length * 10000 * valN b := by rw [Nat.mul_comm (10000 ^ r.length) 10000, Nat.mul_assoc]
    omega
theorem val_lt {l : List Nat} (h : Dgs l) : valN l < 10000 ^ l.length := by
  induction l with
  | nil => simp [valN]
  | cons d r ih =>
    have h1 := ih (fun x hx => h x (List.mem_cons_of_mem _ hx))
    have h2 := h d List.mem_cons_self
    rw [valN, List.length_cons, Nat.pow_succ]
    omega
theorem canon_nil : Canon [] := ⟨fun d h => (by cases h), fun h => absurd rfl h⟩
theorem Dgs.tail {d : Nat} {r : List Nat} (h : Dgs (d :: r)) : Dgs r := fun x hx => h x (List.mem_cons_of_mem _ hx)
theorem Canon.tail {d : Nat} {r : List Nat} (h : Canon (d :: r)) : Canon r := ⟨h.dg.tail, fun hr => by
  have := h.top (List.cons_ne_nil _ _)
  rwa [List.getLast_cons hr] at this⟩
theorem canon_pos {l : List Nat} (h : Canon l) (hl : l ≠ []) : 0 < valN l := by
  induction l with
  | nil => exact absurd rfl hl
  | cons d r ih =>
    rw [valN]
    by_cases hr : r = []
    · subst hr
      have := h.top hl
      simp only [List.getLast_singleton] at this
      omega
    · have := ih h.tail hr
      omega
theorem canon_zero {l : List Nat} (h : Canon l) (hv : valN l = 0) : l = [] := by
  by_cases hl : l = []
  · exact hl
  · have := canon_pos h hl
    omega
theorem val_inj : ∀ {a b : List Nat}, Canon a → Canon b → valN a = valN b → a = b
  | [], b, _, hb, h => (canon_zero hb h.symm).symm
  | d :: r, [], ha, _, h => canon_zero ha h
  | d :: r, e :: s, ha, hb, h => by
    rw [valN, valN] at h
    have h1 := ha.dg d List.mem_cons_self
    have h2 := hb.dg e List.mem_cons_self
    have h3 : d = e := by omega
    have h4 : valN r = valN s := by omega
    rw [h3, val_inj ha.tail hb.tail h4]
theorem canon_ge {l : List Nat} (h : Canon l) (hl : l ≠ []) : 10000 ^ (l.length - 1) ≤ valN l := by
  induction l with
  | nil => exact absurd rfl hl
  | cons d r ih =>
    rw [valN]
    by_cases hr : r = []
    · subst hr
      have := canon_pos h hl
      rw [valN] at this
      simp only [List.length_cons, List.length_nil, Nat.zero_add]
      exact this
    · have h1 := ih h.tail hr
      have h2 : 0 < r.length := List.length_pos_iff.2 hr
      rw [List.length_cons, Nat.add_sub_cancel]
      have h3 : 10000 ^ r.length = 10000 ^ (r.length - 1) * 10000 := by rw [← Nat.pow_succ]; congr 1; omega
      omega
theorem len_lt_val {a b : List Nat} (ha : Dgs a) (hb : Canon b) (h : a.length < b.length) : valN a < valN b := by
  have h1 := val_lt ha
  have h2 := canon_ge hb (by intro e; rw [e] at h; simp at h)
  have h3 : 10000 ^ a.length ≤ 10000 ^ (b.length - 1) := Nat.pow_le_pow_right (by decide) (by omega)
  omega
theorem canon_short {l : List Nat} (h : Canon l) {k : Nat} (hv : valN l < 10000 ^ k) : l.length ≤ k := by
  apply Nat.le_of_not_lt
  intro hk
  have h1 := canon_ge h (by intro e; rw [e] at hk; simp at hk)
  have h3 : 10000 ^ k ≤ 10000 ^ (l.length - 1) := Nat.pow_le_pow_right (by decide) (by omega)
  omega
/-- Where the digits end that are not all nought. -/
def trimN (l : List Nat) : Nat → Nat
  | 0 => 0
  | n + 1 => if l.getD n 0 = 0 then trimN l n else n + 1
theorem trimN_le (l : List Nat) : ∀ n, trimN l n ≤ n
  | 0 => Nat.le_refl _
  | n + 1 => by
    unfold trimN
    split
    · exact Nat.le_trans (trimN_le l n) (Nat.le_succ _)
    · exact Nat.le_refl _
def trimL (l : List Nat) : List Nat := l.take (trimN l l.length)
theorem take_succ_get {l : List Nat} {n : Nat} (h : n < l.length) : l.take (n + 1) = l.take n ++ [l.getD n 0] := by
  rw [List.take_add_one, List.getElem?_eq_getElem h, List.getD_eq_getElem?_getD, List.getElem?_eq_getElem h]
  rfl
theorem trim_val (l : List Nat) : ∀ n, n ≤ l.length → valN (l.take (trimN l n)) = valN (l.take n)
  | 0, _ => rfl
  | n + 1, h => by
    unfold trimN
    split
    · next h0 =>
      rw [trim_val l n (by omega), take_succ_get (by omega), h0, val_app]
      simp [valN]
    · rfl
theorem trim_top (l : List Nat) : ∀ n, n ≤ l.length → ∀ h : l.take (trimN l n) ≠ [], (l.take (trimN l n)).getLast h ≠ 0
  | 0, _, h => absurd rfl h
  | n + 1, hn, h => by
    by_cases h0 : l.getD n 0 = 0
    · have e : trimN l (n + 1) = trimN l n := by rw [trimN, if_pos h0]
      have := trim_top l n (by omega) (by rw [← e]; exact h)
      simpa only [e] using this
    · have e : trimN l (n + 1) = n + 1 := by rw [trimN, if_neg h0]
      have e2 : l.take (trimN l (n + 1)) = l.take n ++ [l.getD n 0] := by rw [e, take_succ_get (by omega)]
      have : (l.take n ++ [l.getD n 0]).getLast (by simp) ≠ 0 := by rw [List.getLast_append_of_ne_nil (by simp) (by simp)]; simpa using h0
      simpa only [e2] using this
theorem trimL_val (l : List Nat) : valN (trimL l) = valN l := by
  unfold trimL
  rw [trim_val l _ (Nat.le_refl _), List.take_of_length_le (Nat.le_refl _)]
theorem trimL_canon {l : List Nat} (h : Dgs l) : Canon (trimL l) := ⟨fun d hd => h d (List.mem_of_mem_take hd), trim_top l _ (Nat.le_refl _)⟩
/-- Two rows of one length, from the top. -/
theorem val_top {l : List Nat} {k : Nat} (h : k < l.length) : valN l = valN (l.take k) + 10000 ^ k * valN (l.drop k) := by
  conv => lhs; rw [← List.take_append_drop k l]
  rw [val_app, List.length_take, Nat.min_eq_left (by omega)]
theorem cmp_at {a b : List Nat} {k : Nat} (ha : Dgs a) (hk : k < a.length) (hl : a.length = b.length) (hd : a.drop (k + 1) = b.drop (k + 1)) (h : a.getD k 0 < b.getD k 0) : valN a < valN b := by
  have ea := val_top hk
  have eb := val_top (l := b) (k := k) (by omega)
  have da : a.drop k = a.getD k 0 :: a.drop (k + 1) := by
    rw [List.drop_eq_getElem_cons hk, List.getD_eq_getElem?_getD, List.getElem?_eq_getElem hk]; rfl
  have hk2 : k < b.length := by omega
  have db : b.drop k = b.getD k 0 :: b.drop (k + 1) := by
    rw [List.drop_eq_getElem_cons hk2, List.getD_eq_getElem?_getD, List.getElem?_eq_getElem hk2]; rfl
  rw [da, valN, hd] at ea
  rw [db, valN] at eb
  have h1 : valN (a.take k) < 10000 ^ k := by
    have := val_lt (l := a.take k) (fun d hd => ha d (List.mem_of_mem_take hd))
    rwa [List.length_take, Nat.min_eq_left (by omega)] at this
  rw [ea, eb]
  have h2 : 10000 ^ k * (a.getD k 0 + 10000 * valN (b.drop (k + 1))) + 10000 ^ k ≤ 10000 ^ k * (b.getD k 0 + 10000 * valN (b.drop (k + 1))) := by
    rw [← Nat.mul_succ]
    exact Nat.mul_le_mul_left _ (by omega)
  omega
end Go.Proofs.Ytmbgjmkndhjilak
