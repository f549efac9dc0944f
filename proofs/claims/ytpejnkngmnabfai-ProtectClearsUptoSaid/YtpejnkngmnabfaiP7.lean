/- How many breakers there are one behind the other, in the document's answer. -/
import Derived.Test.YtpejnkngmnabfaiP5
namespace Go.Proofs.Ytpejnkngmnabfai
open Go.RowKit Go.Shelf

/-- So many steps on from j. -/
def up (bs : List Int) : Nat → Nat → Option Nat
  | 0, j => some j
  | d + 1, j => if 0 ≤ bs.getD j (-1) then up bs d (bs.getD j (-1)).toNat else none
theorem up_add (bs : List Int) : ∀ (d e j : Nat), up bs (d + e) j = (up bs d j).bind (up bs e)
  | 0, e, j => by rw [Nat.zero_add]; rfl
  | d + 1, e, j => by
    rw [show d + 1 + e = (d + e) + 1 by omega, up, up]
    split
    · exact up_add bs d e _
    · rfl
theorem up_one {bs : List Int} {j : Nat} : up bs 1 j = if 0 ≤ bs.getD j (-1) then some (bs.getD j (-1)).toNat else none := rfl
theorem up_le {bs : List Int} (ha : Ahead bs) : ∀ (d j i : Nat), j < bs.length → up bs d j = some i → i + d ≤ j
  | 0, j, i, _, h => by injection h with h; omega
  | d + 1, j, i, hj, h => by
    rw [up] at h
    have h1 := ha j hj
    split at h
    · have := up_le ha d _ i (by omega) h
      omega
    · cases h
/-- n is how many there are one behind the other, behind k. -/
structure Deep (bs : List Int) (k n : Nat) : Prop where
  has : n ≠ 0 → ∃ j, j < bs.length ∧ up bs n j = some k
  most : ∀ j d, j < bs.length → up bs d j = some k → d ≤ n
theorem Deep.next {bs : List Int} {k c n m : Nat} (hk : Deep bs k n) (hc : Deep bs c m) (h : bs.getD c (-1) = (k : Int)) (hcl : c < bs.length) : m + 1 ≤ n := by
  have h1 : up bs 1 c = some k := by rw [up_one, h, if_pos (by omega), Int.toNat_natCast]
  by_cases hm : m = 0
  · subst hm; exact hk.most c 1 hcl h1
  · obtain ⟨j, hj, hu⟩ := hc.has hm
    refine hk.most j (m + 1) hj ?_
    rw [up_add, hu]; exact h1
theorem deep_timed {bs : List Int} (ha : Ahead bs) {base step : Int} (hs : 0 ≤ step) {T : List Int} (hl : T.length = bs.length) (h : ∀ k, k < bs.length → ∃ n : Nat, Deep bs k n ∧ T.getD k 0 = base + step * (n : Int)) : Timed bs base step 0 T := by
  refine ⟨hl, fun k hk => ?_, fun k hk => ?_, fun c k _ hc hck => ?_, fun k hk => ?_⟩
  · obtain ⟨n, _, e⟩ := h k hk
    have := Int.mul_nonneg hs (Int.natCast_nonneg n)
    omega
  · obtain ⟨n, hd, e⟩ := h k hk
    have : (n : Int) ≤ ((bs.length - 1 - k : Nat) : Int) := by
      by_cases hn : n = 0
      · subst hn; omega
      · obtain ⟨j, hj, hu⟩ := hd.has hn
        have := up_le ha n j k hj hu
        omega
    have := Int.mul_le_mul_of_nonneg_left this hs
    omega
  · obtain ⟨m, hm, e⟩ := h c hc
    have hkl : k < bs.length := by have := (ha c hc).2; omega
    obtain ⟨n, hn, e'⟩ := h k hkl
    have h1 := hn.next hm hck hc
    have h2 : step * ((m : Int) + 1) ≤ step * (n : Int) := Int.mul_le_mul_of_nonneg_left (by omega) hs
    rw [Int.mul_add, Int.mul_one] at h2
    omega
  · obtain ⟨n, hn, e⟩ := h k hk
    by_cases h0 : n = 0
    · subst h0; exact .inl (by rw [e]; simp)
    · obtain ⟨d, rfl⟩ : ∃ d, n = d + 1 := ⟨n - 1, by omega⟩
      obtain ⟨j, hj, hu⟩ := hn.has h0
      rw [up_add] at hu
      cases hc : up bs d j with
      | none => rw [hc] at hu; cases hu
      | some c =>
        rw [hc] at hu
        have hcl : c < bs.length := by have := up_le ha d j c hj hc; omega
        have hu' : up bs 1 c = some k := hu
        rw [up_one] at hu'
        split at hu'
        · rename_i hb
          injection hu' with hu'
          have hbk : bs.getD c (-1) = (k : Int) := by omega
          obtain ⟨m, hm, e'⟩ := h c hcl
          have h1 := hn.next hm hbk hcl
          have h2 := hm.most j d hj hc
          have hmd : m = d := by omega
          subst hmd
          refine .inr ⟨c, Nat.zero_le _, hcl, hbk, ?_⟩
          rw [e, e', Int.natCast_add, Int.mul_add]
          omega
        · cases hu'
/-- What has been seen of row j up to its d-th step. -/
structure Seen (bs : List Int) (k j n : Nat) : Prop where
  has : n ≠ 0 → ∃ j', j' < bs.length ∧ up bs n j' = some k
  most : ∀ j' d, j' < j → up bs d j' = some k → d ≤ n
/-- Where one is on the way: at i, or past the end. -/
def AtI (bs : List Int) (j d : Nat) (i : Int) : Prop := (∃ m : Nat, i = (m : Int) ∧ up bs d j = some m) ∨ (i = -1 ∧ up bs d j = none)
theorem AtI.on {bs : List Int} (ha : Ahead bs) {j d m : Nat} (hj : j < bs.length) (h : up bs d j = some m) : AtI bs j (d + 1) (bs.getD m (-1)) := by
  have hm : m < bs.length := by have := up_le ha d j m hj h; omega
  have h1 := ha m hm
  unfold AtI
  rw [up_add, h]
  show _ ∨ (_ ∧ up bs 1 m = none)
  by_cases hb : 0 ≤ bs.getD m (-1)
  · refine .inl ⟨(bs.getD m (-1)).toNat, by omega, ?_⟩
    show up bs 1 m = _
    rw [up_one, if_pos hb]
  · exact .inr ⟨by omega, by rw [up_one, if_neg hb]⟩
theorem Seen.next {bs : List Int} (ha : Ahead bs) {k j n d : Nat} {i : Int} (h : Seen bs k j n) (hj : j < bs.length) (hd : ∀ d', d' ≤ d → up bs d' j = some k → d' ≤ n) (hi : AtI bs j d i) (hik : i ≤ (k : Int)) : Seen bs k (j + 1) n := by
  refine ⟨h.has, fun j' d' hj' hu => ?_⟩
  by_cases e : j' = j
  · subst e
    by_cases hle : d' ≤ d
    · exact hd d' hle hu
    · exfalso
      obtain ⟨e, rfl⟩ : ∃ e, d' = d + (e + 1) := ⟨d' - d - 1, by omega⟩
      rw [up_add] at hu
      rcases hi with ⟨m, hm, hum⟩ | ⟨_, hum⟩
      · rw [hum] at hu
        have hml : m < bs.length := by have := up_le ha d j' m hj hum; omega
        have := up_le ha (e + 1) m k hml hu
        omega
      · rw [hum] at hu; cases hu
  · exact h.most j' d' (by omega) hu
theorem Seen.step {bs : List Int} (ha : Ahead bs) {k j n n2 d m : Nat} (hj : j < bs.length) (h : Seen bs k j n ∧ ∀ d', d' ≤ d → up bs d' j = some k → d' ≤ n) (hu : up bs d j = some m) (h1 : n2 = n ∨ (n2 = d + 1 ∧ bs.getD m (-1) = (k : Int))) (h2 : n ≤ n2) (h3 : bs.getD m (-1) = (k : Int) → d + 1 ≤ n2) : Seen bs k j n2 ∧ ∀ d', d' ≤ d + 1 → up bs d' j = some k → d' ≤ n2 := by
  have hon := AtI.on ha hj hu
  refine ⟨⟨fun h0 => ?_, fun j' d' hj' hu' => Nat.le_trans (h.1.most j' d' hj' hu') h2⟩, fun d' hd' hu' => ?_⟩
  · rcases h1 with rfl | ⟨rfl, hb⟩
    · exact h.1.has h0
    · refine ⟨j, hj, ?_⟩
      rcases hon with ⟨m2, e, hu2⟩ | ⟨e, _⟩
      · rw [hu2]; congr 1; omega
      · omega
  · by_cases e : d' ≤ d
    · exact Nat.le_trans (h.2 d' e hu') h2
    · obtain rfl : d' = d + 1 := by omega
      refine h3 ?_
      rcases hon with ⟨m2, e, hu2⟩ | ⟨_, hu2⟩
      · rw [hu2] at hu'; injection hu' with hu'; omega
      · rw [hu2] at hu'; cases hu'
theorem Seen.deep {bs : List Int} {k n : Nat} (h : Seen bs k bs.length n) : Deep bs k n := ⟨h.has, h.most⟩
theorem Seen.start {bs : List Int} (ha : Ahead bs) {k : Nat} (hk : k < bs.length) : Seen bs k (k + 1) 0 := ⟨fun h => absurd rfl h, fun j d hj hu => by have := up_le ha d j k (by omega) hu; omega⟩
set_option maxRecDepth 100000 in
set_option maxHeartbeats 2000000 in
theorem deepest_any (bs : List Int) (ha : Ahead bs) (hn : bs.length ≤ 1000) (k : Nat) (hk : k < bs.length) (v : Value) (w : World) (hx : RowAt w v bs.length 1 (ints bs)) :
    Calls Try.prog 22 #[v, .int .i64 k] w fun e w' => (∃ n : Nat, e = .returned (.int .i64 n) ∧ Deep bs k n) ∧ w' = w := by
  have HG := hide' hx
  have HA := hide' ha
  obtain ⟨ag, cg, rfl⟩ := rowAt_slice hx
  clear hx ha
  have HST := hide' (Seen.start HA.out hk)
  go_enter Try.func22, Try.ntmps22
  go_wp2_with fail
  go_loopw [5, 6] (fun nv jv wr => ∃ (n j : Nat), nv = .int .i64 n ∧ jv = .int .i64 j ∧ k < j ∧ j ≤ bs.length ∧ n ≤ bs.length ∧ Hid (Seen bs k j n) ∧ wr = w) (fun _ jv _ => bs.length - (intOf jv).toNat)
  case atStart => exact ⟨0, k + 1, rfl, by go_num, by omega, by omega, Nat.zero_le _, HST, rfl⟩
  case round =>
    obtain ⟨n, j, rfl, rfl, hkj, hj, hnl, HS, hwr⟩ := hrel
    subst hwr
    by_cases hlt : j < bs.length
    · have HIN : Hid (AtI bs j 0 (j : Int) ∧ ∀ d', d' ≤ 0 → up bs d' j = some k → d' ≤ n) := ⟨.inl ⟨j, rfl, rfl⟩, fun d' h _ => by omega⟩
      go_wp2_with fail
      go_loopw [5, 7, 8] (fun nv dv iv wx => ∃ (n' d : Nat) (i : Int), nv = .int .i64 n' ∧ dv = .int .i64 d ∧ iv = .int .i64 i ∧ -1 ≤ i ∧ i + d ≤ (j : Int) ∧ n' ≤ bs.length ∧ Hid (AtI bs j d i) ∧ Hid (Seen bs k j n' ∧ ∀ d', d' ≤ d → up bs d' j = some k → d' ≤ n') ∧ wx = wr) (fun _ _ iv _ => (intOf iv + 1).toNat)
      case atStart => exact ⟨n, 0, j, rfl, rfl, rfl, by omega, by omega, hnl, HIN.out.1, ⟨HS.out, HIN.out.2⟩, rfl⟩
      case round =>
        clear HS HIN
        obtain ⟨n', d, i, rfl, rfl, rfl, hi1, hid, hnl', HAT, HSE, hwx⟩ := hrel
        subst hwx
        by_cases hik : i ≤ (k : Int)
        · have HN := hide' (HSE.out.1.next HA.out hlt HSE.out.2 HAT.out hik)
          go_wp2
          go_roundw
          case rel => exact ⟨n', j + 1, rfl, by go_num, by omega, by omega, hnl', HN, trivial⟩
          case measure => simp [intOf]; omega
        · obtain ⟨m, rfl, hum⟩ : ∃ m : Nat, i = (m : Int) ∧ up bs d j = some m := by
            rcases HAT.out with h | ⟨h, _⟩
            · exact h
            · omega
          have hml : m < bs.length := by omega
          obtain ⟨bt, ot, ct', ex, hct⟩ := ints_cell HG.out m hml
          cases ex
          have hah := HA.out m hml
          have HON := hide' (AtI.on HA.out hlt hum)
          have HSS : Hid (∀ n2, (n2 = n' ∨ (n2 = d + 1 ∧ bs.getD m (-1) = (k : Int))) → n' ≤ n2 → (bs.getD m (-1) = (k : Int) → d + 1 ≤ n2) → Seen bs k j n2 ∧ ∀ d', d' ≤ d + 1 → up bs d' j = some k → d' ≤ n2) := fun n2 h1 h2 h3 => Seen.step HA.out hlt HSE.out hum h1 h2 h3
          rw [get_same hml] at hah HON HSS
          obtain ⟨x, hx⟩ : ∃ x, x = bs.getD m 0 := ⟨_, rfl⟩
          rw [← hx] at hct hah HON HSS
          have hwd : IntKind.i64.wrap ((d : Int) + 1) = (d : Int) + 1 := Go.IntWalk.i64_in _ (by omega)
          clear hx HSE HAT hum
          by_cases hxk : x = (k : Int)
          · subst hxk
            by_cases hdn : n' < d + 1
            · have HN := hide' (HSS.out (d + 1) (.inr ⟨rfl, rfl⟩) (by omega) (fun _ => Nat.le_refl _))
              go_wp2
              go_roundw
              case rel => exact ⟨d + 1, d + 1, (k : Int), by go_num, by go_num, rfl, by omega, by omega, by omega, HON, HN, trivial⟩
              case measure => simp [intOf]; omega
            · have HN := hide' (HSS.out n' (.inl rfl) (Nat.le_refl _) (fun _ => by omega))
              go_wp2
              go_roundw
              case rel => exact ⟨n', d + 1, (k : Int), rfl, by go_num, rfl, by omega, by omega, hnl', HON, HN, trivial⟩
              case measure => simp [intOf]; omega
          · have HN := hide' (HSS.out n' (.inl rfl) (Nat.le_refl _) (fun h => absurd h hxk))
            have hbq : (x == (k : Int)) = false := by simp [hxk]
            go_wp2
            go_roundw
            case rel => exact ⟨n', d + 1, x, rfl, by go_num, rfl, by omega, by omega, hnl', HON, HN, trivial⟩
            case measure => simp [intOf]; omega
    · have HD : Hid (Deep bs k n) := by have := HS.out; rw [show j = bs.length by omega] at this; exact this.deep
      go_wp2
      go_ret
      exact ⟨⟨n, rfl, HD.out⟩, rfl⟩
end Go.Proofs.Ytpejnkngmnabfai
