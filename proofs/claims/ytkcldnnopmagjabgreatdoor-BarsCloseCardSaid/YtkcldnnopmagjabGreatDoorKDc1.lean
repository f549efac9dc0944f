/- The document's numbers: a whole number's digits, four by four and one by one. -/
import Derived.Test.YtkcldnnopmagjabGreatDoorKDoc0
import Derived.Lib.ItoaNum
import Derived.Laws.IdiomStrings
import Derived.Test.YtkcldnnopmagjabGreatDoorKSh0
import Derived.Test.YtkcldnnopmagjabGreatDoorKD6
namespace Go.Proofs.YtkcldnnopmagjabGreatDoor.Doc
open Go.RowKit

def d4F : Nat → Nat → List Nat
  | 0, _ => []
  | f + 1, u => if u = 0 then [] else (u % 10000) :: d4F f (u / 10000)
theorem d4F_enough : ∀ (f g u : Nat), u ≤ f → u ≤ g → d4F f u = d4F g u
  | 0, 0, _, _, _ => rfl
  | 0, g + 1, u, h, _ => by
    obtain rfl : u = 0 := by omega
    rw [d4F, d4F, if_pos rfl]
  | f + 1, 0, u, _, h => by
    obtain rfl : u = 0 := by omega
    rw [d4F, d4F, if_pos rfl]
  | f + 1, g + 1, u, h, h' => by
    rw [d4F, d4F]
    by_cases h0 : u = 0
    · rw [if_pos h0, if_pos h0]
    · rw [if_neg h0, if_neg h0, d4F_enough f g (u / 10000) (by omega) (by omega)]
/-- A whole number's digits, four by four, the lowest first. -/
def d4 (u : Nat) : List Nat := d4F u u
theorem d4_zero : d4 0 = [] := rfl
theorem d4_pos {u : Nat} (h : ¬ u = 0) : d4 u = (u % 10000) :: d4 (u / 10000) := by
  obtain ⟨k, rfl⟩ : ∃ k, u = k + 1 := ⟨u - 1, by omega⟩
  unfold d4
  rw [d4F, if_neg h, d4F_enough k ((k + 1) / 10000) ((k + 1) / 10000) (by omega) (Nat.le_refl _)]
theorem d4_get : ∀ (i u : Nat), i < (d4 u).length → (d4 u)[i]? = some (u / 10 ^ (4 * i) % 10000)
  | 0, u, h => by
    by_cases h0 : u = 0
    · subst h0; rw [d4_zero] at h; simp at h
    · rw [d4_pos h0]; simp
  | i + 1, u, h => by
    by_cases h0 : u = 0
    · subst h0; rw [d4_zero] at h; simp at h
    · rw [d4_pos h0] at h ⊢
      rw [List.getElem?_cons_succ, d4_get i (u / 10000) (by simpa using h), Nat.div_div_eq_div_mul]
      rw [show 4 * (i + 1) = 4 + 4 * i by omega, Nat.pow_add]
theorem d4_lt : ∀ (n u : Nat), (d4 u).length = n → u < 10 ^ (4 * n)
  | 0, u, h => by
    by_cases h0 : u = 0
    · subst h0; simp
    · rw [d4_pos h0] at h; simp at h
  | n + 1, u, h => by
    by_cases h0 : u = 0
    · subst h0; exact Nat.pow_pos (by omega)
    · rw [d4_pos h0] at h
      have := d4_lt n (u / 10000) (by simpa using h)
      rw [show 4 * (n + 1) = 4 + 4 * n by omega, Nat.pow_add]
      omega
/-- The m lowest digits, the highest first. -/
def lowD (u : Nat) : Nat → List UInt8
  | 0 => []
  | m + 1 => UInt8.ofNat (48 + u / 10 ^ m % 10) :: lowD u m
theorem lowD_len (u : Nat) : ∀ m, (lowD u m).length = m
  | 0 => rfl
  | m + 1 => by rw [lowD, List.length_cons, lowD_len u m]
theorem lowD_back (u : Nat) : ∀ m, lowD u (m + 1) = lowD (u / 10) m ++ [UInt8.ofNat (48 + u % 10)]
  | 0 => by simp [lowD]
  | m + 1 => by
    rw [lowD, lowD_back u m, lowD, Nat.div_div_eq_div_mul, show (10 : Nat) * 10 ^ m = 10 ^ (m + 1) by rw [Nat.pow_succ, Nat.mul_comm]]
    rfl
theorem lowD_dec : ∀ (m u : Nat), u < 10 ^ (m + 1) → (m = 0 ∨ 10 ^ m ≤ u) → lowD u (m + 1) = Lib.decDigits u
  | 0, u, h, _ => by
    have h : u < 10 := by simpa using h
    rw [Lib.decDigits_one h]
    simp [lowD, Nat.mod_eq_of_lt h]
  | m + 1, u, h, h' => by
    have h2 : 10 ^ (m + 1) ≤ u := by omega
    have h3 : 10 ^ (m + 1) = 10 * 10 ^ m := by rw [Nat.pow_succ, Nat.mul_comm]
    have h4 : 10 ^ (m + 1 + 1) = 10 * 10 ^ (m + 1) := by rw [Nat.pow_succ, Nat.mul_comm]
    have h5 : 0 < 10 ^ m := Nat.pow_pos (by omega)
    rw [lowD_back, lowD_dec m (u / 10) (by omega) (by omega), Lib.decDigits.eq_def u, dif_neg (by omega)]
theorem digit4 (u i k : Nat) (hk : k < 4) : u / 10 ^ (4 * i) % 10000 / 10 ^ k % 10 = u / 10 ^ (4 * i + k) % 10 := by
  rw [Nat.pow_add, ← Nat.div_div_eq_div_mul]
  generalize u / 10 ^ (4 * i) = y
  have : k = 0 ∨ k = 1 ∨ k = 2 ∨ k = 3 := by omega
  rcases this with rfl | rfl | rfl | rfl <;> omega

theorem Tryz.info3 : (Tryz.prog.info? 3).map (fun i => (i.zero, i.size, i.bytes)) = some (some (.int .i64 0), 1, 8) := by kernel_rfl

set_option maxRecDepth 100000 in
set_option maxHeartbeats 800000 in
theorem natOf_any (u : Nat) (hu : u ≤ 100000) (w : World) :
    Calls Tryz.prog 80 #[.int .i64 u] w fun e w' => ∃ v, e = .returned v ∧ w'.ownsRow w.heap.size 3 1 v (d4 u).length ((d4 u).map (fun x : Nat => Value.int .i64 x)) ∧ Below w.heap.size w w' := by
  obtain ⟨i0, hi, hz0, hz1, hz2⟩ := info_parts Tryz.info3
  go_enter Tryz.func80, Tryz.ntmps80
  go_wp2
  go_loopw [0, 3] (fun n v wr => ∃ (m : Nat) (out : List Nat), n = .int .i64 m ∧ out.length + m ≤ u ∧ wr.ownsRow w.heap.size 3 1 v out.length (out.map (fun x : Nat => Value.int .i64 x)) ∧ Hid (d4 u = out ++ d4 m) ∧ Below w.heap.size w wr)
    (fun n _ _ => (intOf n).toNat)
  case atStart => exact ⟨u, [], rfl, by simp, World.ownsRow_nil _ _ _ _, rfl, Below.refl _ _⟩
  case round =>
    obtain ⟨m, out, rfl, hol, hown, HL, hB⟩ := hrel
    by_cases hm : 0 < m
    · have HP : Hid (d4 u = out ++ [m % 10000] ++ d4 (m / 10000)) := by
        have := HL.out
        rw [d4_pos (u := m) (by omega)] at this
        show d4 u = _
        rw [this]; simp
      clear HL
      go_wp2_with (at_builtin; refine wpList_append_own _ rfl _ _ 36 rfl w.heap.size 3 i0 (.int .i64 0) 1 8 Tryz.underlying36 hi hz0 hz1 hz2 rfl (by decide) _ _ _ rfl (hown.alloc _) ⟨wr.heap.size, 0, none⟩ 1 1 [.int .i64 ((m % 10000 : Nat) : Int)] rfl rfl (cell_one_new _ _ _) (one_cell rfl) (by unfold maxLen; omega) (by omega) (by have := hB.size; simp; omega) ?_; intro v' w1 hown' hgrow _)
      go_roundw
      case rel => exact ⟨m / 10000, out ++ [m % 10000], by go_num, by simp; omega, own_snoc hown', HP, below_app hB hown (Nat.le_refl _) hB.size hgrow⟩
      case measure => simp [intOf]; omega
    · have HP : Hid (d4 u = out) := by
        have e : m = 0 := by omega
        have := HL.out
        rw [e, d4_zero, List.append_nil] at this
        exact this
      clear HL
      go_wp2
      go_ret
      exact ⟨_, rfl, by rw [HP.out]; exact hown, hB⟩
end Go.Proofs.YtkcldnnopmagjabGreatDoor.Doc

/- The document's numbers: the text of a whole number. -/
namespace Go.Proofs.YtkcldnnopmagjabGreatDoor.Doc
open Go.RowKit

theorem bytes_cons (c : UInt8) (s : ByteArray) : bytesOf (ByteArray.mk #[c] ++ s) = c :: bytesOf s := by
  simp [bytesOf]
theorem bytes_tail (s : ByteArray) : bytesOf (s.extract 1 s.size) = (bytesOf s).drop 1 := by
  unfold bytesOf
  rw [ByteArray.data_extract, Array.toList_extract, List.extract_eq_take_drop, List.take_of_length_le (by rw [List.length_drop, Array.length_toList]; exact Nat.le_refl _)]

theorem conv_one (wr : World) (z : Nat) : Sem.run Tryz.prog (convert 95 9 (.slice (some ⟨wr.heap.size, 0, none⟩) 1 1)) (wr.alloc (.cells #[.int .u8 (48 + (z : Int) % 10)] 5)) =
    .ok (.string ⟨#[UInt8.ofNat (48 + z % 10)]⟩) (wr.alloc (.cells #[.int .u8 (48 + (z : Int) % 10)] 5)) := by
  have h := run_convert_bytes_back (P := Tryz.prog) (wr.alloc (.cells #[.int .u8 (48 + (z : Int) % 10)] 5)) 95 9 5 ⟨wr.heap.size, 0, none⟩ 1 [UInt8.ofNat (48 + z % 10)] Tryz.underlying95 Tryz.underlying5 Tryz.underlying9 (fun j hj => by
    obtain rfl : j = 0 := by simpa using hj
    have e : ((UInt8.ofNat (48 + z % 10)).toNat : Int) = 48 + (z : Int) % 10 := by
      rw [UInt8.toNat_ofNat']
      omega
    show (wr.alloc _).cell? (Addr.add ⟨wr.heap.size, 0, none⟩ 0) = some (.int .u8 ((UInt8.ofNat (48 + z % 10)).toNat : Int))
    rw [e, add_off]
    simp)
  exact h
def strLen : Value → Nat
  | .string t => t.size
  | _ => 0
theorem head_of {t : ByteArray} {u j : Nat} (hs : 0 < t.size) (h : bytesOf t = lowD u (j + 1)) : (t[0].toNat : Int) = 48 + (u / 10 ^ j % 10 : Nat) := by
  have e : t[0] = UInt8.ofNat (48 + u / 10 ^ j % 10) := by
    have := getElem_bytesOf t 0 hs
    rw [← this]
    simp [h, lowD]
  rw [e, UInt8.toNat_ofNat']
  omega
theorem lower {u j : Nat} (h : u < 10 ^ (j + 1)) (h0 : u / 10 ^ j % 10 = 0) : u < 10 ^ j := by
  have hp : 0 < 10 ^ j := Nat.pow_pos (by omega)
  have : u / 10 ^ j < 10 := by
    rw [Nat.div_lt_iff_lt_mul hp, Nat.mul_comm, ← Nat.pow_succ]
    exact h
  have h2 : u / 10 ^ j = 0 := by
    generalize u / 10 ^ j = y at *
    omega
  rcases Nat.div_eq_zero_iff.1 h2 with h3 | h3
  · omega
  · exact h3
theorem higher {u j : Nat} (h0 : ¬ u / 10 ^ j % 10 = 0) : 10 ^ j ≤ u := by
  rcases Nat.lt_or_ge u (10 ^ j) with h | h
  · rw [Nat.div_eq_of_lt h] at h0
    simp at h0
  · exact h
theorem d4_len : ∀ (n u : Nat), u ≤ n → (d4 u).length ≤ n
  | 0, u, h => by
    obtain rfl : u = 0 := by omega
    rw [d4_zero]; simp
  | n + 1, u, h => by
    by_cases h0 : u = 0
    · subst h0; rw [d4_zero]; simp
    · rw [d4_pos h0]
      have := d4_len n (u / 10000) (by omega)
      simp; omega

set_option maxRecDepth 100000 in
set_option maxHeartbeats 1600000 in
theorem natText_any (u : Nat) (hu : u ≤ 100000) (v : Value) (w : World) (hx : RowAt w v (d4 u).length 1 ((d4 u).map (fun x : Nat => Value.int .i64 x))) :
    Calls Tryz.prog 79 #[v] w fun e w' => e = .returned (.string (textOf (Lib.decDigits u))) ∧ Below w.heap.size w w' := by
  obtain ⟨-, a, cap, rfl, hc⟩ := hx
  by_cases h0 : u = 0
  · subst h0
    have hd : Lib.decDigits 0 = [48] := by rw [Lib.decDigits_one (by omega)]; rfl
    rw [hd]
    rw [d4_zero] at hc ⊢
    clear hc hu hd
    go_enter Tryz.func79, Tryz.ntmps79
    go_wp2
    go_ret
    exact ⟨rfl, Below.refl _ _⟩
  · have hlen : 0 < (d4 u).length := by rw [d4_pos h0]; simp
    have hlen0 : (((d4 u).length : Int) == 0) = false := beq_eq_false_iff_ne.2 (by omega)
    have HD : Hid (u < 10 ^ (4 * (d4 u).length)) := d4_lt _ u rfl
    have HG : Hid (∀ i, i < (d4 u).length → (d4 u)[i]? = some (u / 10 ^ (4 * i) % 10000)) := fun i => d4_get i u
    have hmax : (d4 u).length ≤ 1000 := by
      rw [d4_pos h0]
      have := d4_len 10 (u / 10000) (by omega)
      simp; omega
    obtain ⟨n, hn⟩ : ∃ n, n = (d4 u).length := ⟨_, rfl⟩
    rw [← hn] at hlen hlen0 HD hmax HG ⊢
    clear hn
    go_enter Tryz.func79, Tryz.ntmps79
    go_wp2
    go_loopw [3, 4] (fun s i wr => ∃ (k : Nat) (t : ByteArray), k ≤ n ∧ i = .int .i64 k ∧ s = .string t ∧ t.size = 4 * k ∧ Hid (bytesOf t = lowD u (4 * k)) ∧ Below w.heap.size w wr) (fun _ i _ => n - (intOf i).toNat)
    case atStart => exact ⟨0, ⟨#[]⟩, by omega, rfl, rfl, rfl, rfl, Below.refl _ _⟩
    case round =>
      obtain ⟨k, t, hk, rfl, rfl, ht, HT, hB⟩ := hrel
      by_cases hlt : k < n
      · obtain ⟨b, off, rfl, hck0⟩ := hc k (.int .i64 ((u / 10 ^ (4 * k) % 10000 : Nat) : Int)) (by rw [List.getElem?_map, HG.out k (by omega)]; rfl)
        have hck := (hB.cell (p := ⟨b, off + k, none⟩) (World.block_lt_of_cell? w _ hck0)).trans hck0
        obtain ⟨y, hy⟩ : ∃ y, y = u / 10 ^ (4 * k) % 10000 := ⟨_, rfl⟩
        have hy4 : y < 10000 := by omega
        rw [← hy] at hck
        have HY := hide' hy
        clear hc hck0 hy
        go_wp2_with fail
        go_loopw [3, 5, 6] (fun s x j wr => ∃ (q z : Nat) (t : ByteArray), q ≤ 4 ∧ j = .int .i64 q ∧ x = .int .i64 z ∧ z < 10000 ∧ s = .string t ∧ t.size = 4 * k + q ∧ Hid (z = y / 10 ^ q) ∧ Hid (bytesOf t = lowD u (4 * k + q)) ∧ Below w.heap.size w wr) (fun _ _ j _ => 4 - (intOf j).toNat)
        case atStart => exact ⟨0, y, t, by omega, rfl, rfl, by omega, rfl, ht, (by show y = y / 10 ^ 0; simp), HT, hB⟩
        case round =>
          clear hB ht
          obtain ⟨q, z, t', hq, rfl, rfl, hz, rfl, ht, HZ, HT', hB⟩ := hrel
          by_cases hq4 : q < 4
          · have HP : Hid (bytesOf (ByteArray.mk #[UInt8.ofNat (48 + z % 10)] ++ t') = lowD u (4 * k + q + 1)) := by
              show _ = _
              rw [bytes_cons, lowD, HT'.out, HZ.out, HY.out, digit4 u k q hq4]
            have HZ' : Hid (z / 10 = y / 10 ^ (q + 1)) := by
              show _ = _
              rw [HZ.out, Nat.div_div_eq_div_mul, Nat.pow_succ]
            have hcv := conv_one wr z
            clear HZ HT' HT
            go_wp2
            go_roundw
            case rel => exact ⟨q + 1, z / 10, ByteArray.mk #[UInt8.ofNat (48 + z % 10)] ++ t', by omega, by go_num, by go_num, by omega, by simp, by rw [ByteArray.size_append, ht]; show 1 + _ = _; omega, HZ', HP, hB.alloc hB.size _⟩
            case measure => simp [intOf]; omega
          · have HP : Hid (bytesOf t' = lowD u (4 * (k + 1))) := by
              have : 4 * k + q = 4 * (k + 1) := by omega
              rw [← this]; exact HT'.out
            clear HZ HT' HT
            go_wp2
            go_roundw
            case rel => exact ⟨k + 1, t', by omega, by go_num, rfl, by omega, HP, hB⟩
            case measure => simp [intOf]; omega
      · have hkn : k = n := by omega
        subst hkn
        clear hc HG
        go_wp2_with fail
        go_loopw [3] (fun s wr => ∃ (j : Nat) (t : ByteArray), s = .string t ∧ t.size = j + 1 ∧ j ≤ 4000 ∧ Hid (u < 10 ^ (j + 1)) ∧ Hid (bytesOf t = lowD u (j + 1)) ∧ Below w.heap.size w wr) (fun s _ => strLen s)
        case atStart => exact ⟨4 * k - 1, t, rfl, by omega, by omega, (by rw [show 4 * k - 1 + 1 = 4 * k by omega]; exact HD), (by rw [show 4 * k - 1 + 1 = 4 * k by omega]; exact HT), hB⟩
        case round =>
          clear hB HT ht
          obtain ⟨j, t', rfl, ht, hj, HU, HT, hB⟩ := hrel
          have hd := head_of (by omega) HT.out
          by_cases hgo : 1 ≤ j ∧ u / 10 ^ j % 10 = 0
          · obtain ⟨hj1, hz⟩ := hgo
            rw [hz] at hd
            have hd' : ((t'[0].toNat : Int) == 48) = true := by rw [hd]; rfl
            have HU' : Hid (u < 10 ^ (j - 1 + 1)) := by rw [show j - 1 + 1 = j by omega]; exact lower HU.out hz
            have HT' : Hid (bytesOf (t'.extract 1 t'.size) = lowD u (j - 1 + 1)) := by
              show _ = _
              rw [bytes_tail, HT.out, show j - 1 + 1 = j by omega]
              rfl
            clear HU HT hd hz
            go_wp2
            go_roundw
            case rel => exact ⟨j - 1, t'.extract 1 t'.size, by rw [ht], by simp; omega, by omega, HU', HT', hB⟩
            case measure => simp [strLen]; omega
          · have HP : Hid (t' = textOf (Lib.decDigits u)) := by
              show _ = _
              rw [← lowD_dec j u HU.out (by
                by_cases h1 : 1 ≤ j
                · exact .inr (higher fun h => hgo ⟨h1, h⟩)
                · exact .inl (by omega)), ← HT.out, textOf_bytesOf]
            by_cases h1 : 1 ≤ j
            · have hd' : ((t'[0].toNat : Int) == 48) = false := by
                rw [hd]
                have : ¬ u / 10 ^ j % 10 = 0 := fun h => hgo ⟨h1, h⟩
                exact beq_eq_false_iff_ne.2 (by omega)
              clear HU HT hd hgo
              go_wp2
              go_ret
              exact ⟨congrArg (fun x => Ending.returned (.string x)) HP.out, hB⟩
            · clear HU HT hd hgo
              go_wp2
              go_ret
              exact ⟨congrArg (fun x => Ending.returned (.string x)) HP.out, hB⟩
end Go.Proofs.YtkcldnnopmagjabGreatDoor.Doc

/- The document's numbers: a whole number, and its text. -/
namespace Go.Proofs.YtkcldnnopmagjabGreatDoor.Doc
open Go.RowKit

theorem cells3 {w : World} {p t : Nat} {v0 v1 v2 : Value} (h : w.heap[p]? = some (.cells #[v0, v1, v2] t (0, 0))) : w.cell? ⟨p, 0, none⟩ = some v0 ∧ w.cell? ⟨p, 1, none⟩ = some v1 ∧ w.cell? ⟨p, 2, none⟩ = some v2 ∧ ∀ j, w.frozen? ⟨p, j, none⟩ = false := by
  refine ⟨?_, ?_, ?_, fun j => by simp [World.frozen?, h]⟩ <;> (simp only [World.cell?, h]; rfl)

set_option maxRecDepth 100000 in
set_option maxHeartbeats 1600000 in
theorem Whole_any (u : Nat) (hu : u ≤ 100000) (w : World) :
    Calls Tryz.prog 61 #[.int .i64 u] w fun e w' => ∃ v g, e = .returned (.agg #[.bool false, v, .slice (some ⟨g, 0, none⟩) 1 1]) ∧ w'.ownsRow w.heap.size 3 1 v (d4 u).length ((d4 u).map (fun x : Nat => Value.int .i64 x)) ∧
      w'.cell? ⟨g, 0, none⟩ = some (.int .i64 1) ∧ Below w.heap.size w w' := by
  have hlt : ¬ (u : Int) < 0 := by omega
  have HN := hide' (fun o => natOf_any u hu (w.alloc o))
  clear hu
  go_enter Tryz.func61, Tryz.ntmps61
  go_wp2_with fail
  refine (HN.out _).mono ?_
  rintro e w1 ⟨v, rfl, ho, hb⟩
  obtain ⟨a, cap, rfl⟩ := own_slice ho
  have hs1 := hb.size
  rw [World.size_alloc] at hs1
  have hB1 : Below w.heap.size w w1 := ((Below.refl _ w).alloc (Nat.le_refl _) _).trans (hb.mono (by simp))
  have hK0 := (hb.block w.heap.size (by simp)).trans (World.alloc_heap_new w _)
  have hK := (Below.heap_alloc w1 (.cells #[.int .i64 1] 3) w.heap.size (by omega)).trans hK0
  obtain ⟨k0, k1, k2, kf⟩ := cells3 hK
  obtain ⟨w2, hw2⟩ : ∃ w2, w2 = (((w1.alloc (.cells #[.int .i64 1] 3)).setCell ⟨w.heap.size, 0, none⟩ (.bool false)).setCell ⟨w.heap.size, 1, none⟩ (.slice a (d4 u).length cap)).setCell ⟨w.heap.size, 2, none⟩ (.slice (some ⟨w1.heap.size, 0, none⟩) 1 1) := ⟨_, rfl⟩
  have hother : ∀ k, k ≠ w.heap.size → w2.heap[k]? = (w1.alloc (.cells #[.int .i64 1] 3)).heap[k]? := fun k hk => by
    rw [hw2]
    exact (Below.heap_setCell _ _ _ k hk).trans ((Below.heap_setCell _ _ _ k hk).trans (Below.heap_setCell _ _ _ k hk))
  have hbox : w2.heap[w.heap.size]? = some (.cells #[.bool false, .slice a (d4 u).length cap, .slice (some ⟨w1.heap.size, 0, none⟩) 1 1] 113 (0, 0)) := by
    rw [hw2]
    exact set_any (set_any (set_any hK 0 _) 1 _) 2 _
  have hB2 : Below w.heap.size w w2 := by
    rw [hw2]
    exact (((hB1.alloc (by omega) _).setCell (p := ⟨w.heap.size, 0, none⟩) (Nat.le_refl _) _).setCell (p := ⟨w.heap.size, 1, none⟩) (Nat.le_refl _) _).setCell (p := ⟨w.heap.size, 2, none⟩) (Nat.le_refl _) _
  have hown : w2.ownsRow w.heap.size 3 1 (.slice a (d4 u).length cap) (d4 u).length ((d4 u).map (fun x : Nat => Value.int .i64 x)) :=
    own_base (own_block (ho.alloc (.cells #[.int .i64 1] 3)) hK (by decide) fun k _ hk => hother k hk) (by simp)
  have hone : w2.cell? ⟨w1.heap.size, 0, none⟩ = some (.int .i64 1) := by
    have h1 : w2.heap[w1.heap.size]? = some (.cells #[.int .i64 1] 3 (0, 0)) := (hother _ (by omega)).trans (World.alloc_heap_new w1 _)
    simp only [World.cell?, h1]; rfl
  obtain ⟨g0, g1, g2, -⟩ := cells3 hbox
  have HW := hide' hw2
  have HR := hide' (And.intro hown (And.intro hone hB2))
  clear hown hone hB2 hbox hother hw2 hK hK0 ho hb hB1 hs1
  go_wp2
  rw [← HW.out]
  refine bodyPost_ret (v := .agg #[.bool false, .slice a (d4 u).length cap, .slice (some ⟨w1.heap.size, 0, none⟩) 1 1]) (by simp [results, Tryz.results61, go_sem, g0, g1, g2]) rfl ?_
  exact ⟨_, _, rfl, HR.out⟩

theorem rowAt_slice {w : World} {v : Value} {n sz : Nat} {xs : List Value} (h : RowAt w v n sz xs) : ∃ a cap, v = .slice a n cap := by
  obtain ⟨-, a, cap, rfl, -⟩ := h
  exact ⟨a, cap, rfl⟩

set_option maxRecDepth 100000 in
set_option maxHeartbeats 1600000 in
theorem QText_any (u : Nat) (hu : u ≤ 100000) (v : Value) (g : Nat) (w : World) (hx : RowAt w v (d4 u).length 1 ((d4 u).map (fun x : Nat => Value.int .i64 x))) (hg : w.cell? ⟨g, 0, none⟩ = some (.int .i64 1)) :
    Calls Tryz.prog 60 #[.agg #[.bool false, v, .slice (some ⟨g, 0, none⟩) 1 1]] w fun e w' => e = .returned (.string (textOf (Lib.decDigits u))) ∧ Below w.heap.size w w' := by
  obtain ⟨a, cap, rfl⟩ := rowAt_slice hx
  obtain ⟨W, hW⟩ : ∃ W, W = w.alloc (.cells #[.bool false, .slice a (d4 u).length cap, .slice (some ⟨g, 0, none⟩) 1 1] 113) := ⟨_, rfl⟩
  have hB : Below w.heap.size w W := by rw [hW]; exact (Below.refl _ w).alloc (Nat.le_refl _) _
  have hsz : W.heap.size = w.heap.size + 1 := by rw [hW]; simp
  have hK : W.heap[w.heap.size]? = some (.cells #[.bool false, .slice a (d4 u).length cap, .slice (some ⟨g, 0, none⟩) 1 1] 113 (0, 0)) := by rw [hW]; exact World.alloc_heap_new w _
  have hgl := World.block_lt_of_cell? w _ hg
  have hg1 : W.cell? ⟨g, 0, none⟩ = some (.int .i64 1) := (hB.cell (p := ⟨g, 0, none⟩) hgl).trans hg
  have HT := hide' (natText_any u hu _ W (RowAt.below hx hB (Nat.le_refl _)))
  obtain ⟨k0, k1, k2, -⟩ := cells3 hK
  have HW := hide' hW
  have HB := hide' hB
  have HS := hide' hsz
  have HK := hide' hK
  have HG := hide' hg1
  have HL := hide' hgl
  clear hx hg hW hB hK hg1 hgl hsz
  go_enter Tryz.func60, Tryz.ntmps60
  go_wp2_with fail
  rw [← HW.out]
  refine HT.out.mono ?_
  rintro e w1 ⟨rfl, hb⟩
  have hs := HS.out
  have hs1 := hb.size
  have hK1 := (hb.block w.heap.size (by omega)).trans HK.out
  obtain ⟨j0, j1, j2, -⟩ := cells3 hK1
  have hg2 : w1.cell? ⟨g, 0, none⟩ = some (.int .i64 1) := (hb.cell (p := ⟨g, 0, none⟩) (by have h : g < w.heap.size := HL.out; show g < _; omega)).trans HG.out
  have HR := hide' (HB.out.trans (hb.mono (by omega)))
  clear hb hK1 hs hs1 HK HG HL HS HT HB
  go_wp2
  go_ret
  exact ⟨rfl, HR.out⟩
theorem decB_nat (u : Nat) : decB (u : Int) = textOf (Lib.decDigits u) := by
  unfold decB Lib.itoa
  rw [if_neg (by omega)]
  rfl

set_option maxRecDepth 100000 in
set_option maxHeartbeats 1600000 in
theorem Dec_any (n : Int) (h0 : 0 ≤ n) (hn : n ≤ 100000) (w : World) : Calls Tryz.prog 36 #[.int .i64 n] w fun e w' => e = .returned (.string (decB n)) ∧ Below w.heap.size w w' := by
  obtain ⟨u, rfl⟩ := Int.eq_ofNat_of_zero_le h0
  rw [decB_nat]
  have hu : u ≤ 100000 := by omega
  have HW := hide' (Whole_any u hu w)
  have HU := hide' hu
  clear h0 hn hu
  go_enter Tryz.func36, Tryz.ntmps36
  go_wp2_with fail
  refine HW.out.mono ?_
  rintro e w1 ⟨v, g, rfl, ho, hc, hb⟩
  have HQ := hide' (QText_any u HU.out v g w1 (rowAt_of_own ho) hc)
  have HB := hide' hb
  clear ho hc hb
  go_wp2_with fail
  refine HQ.out.mono ?_
  rintro e w2 ⟨rfl, hb2⟩
  have HR := hide' (HB.out.trans (hb2.mono HB.out.size))
  clear hb2
  go_wp2
  go_ret
  exact ⟨rfl, HR.out⟩
end Go.Proofs.YtkcldnnopmagjabGreatDoor.Doc
