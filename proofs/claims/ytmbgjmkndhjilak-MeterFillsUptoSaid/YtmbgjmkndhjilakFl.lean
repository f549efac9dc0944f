/- Numbers as rows of digits: the greatest that divides both. -/
import Derived.Test.YtmbgjmkndhjilakFk
namespace Go.Proofs.Ytmbgjmkndhjilak
open Go.RowKit Go.Shelf

theorem natDiv_num {a b : Nat} {u v : Value} {w : World} (hu : Num w u a) (hv : Num w v b) (ha : Small a) (hb0 : 0 < b) (hb : Small (b * 10000)) : Calls Try.prog 83 #[u, v] w (DivR a b w) := by
  obtain ⟨l, h1, rfl, h3, h4⟩ := hu.short ha
  exact natDiv_row l h1.dg b hb0 hb u v w h3 hv h4
/-- What a row in memory comes to. -/
def rdRow (w : World) : Value → List Nat
  | .slice (some a) n _ => (List.range n).map fun j => match w.cell? ⟨a.block, a.off + j, none⟩ with
    | some (.int _ x) => x.toNat
    | _ => 0
  | _ => []
def rdVal (w : World) (v : Value) : Nat := valN (rdRow w v)
theorem Num.rd {w : World} {v : Value} {n : Nat} (h : Num w v n) : rdVal w v = n := by
  obtain ⟨l, h1, h2, h3⟩ := h
  unfold rdVal
  rw [← h2]
  congr 1
  by_cases hl : l = []
  · subst hl
    obtain ⟨a, c, rfl⟩ := rowAt_slice h3
    cases a <;> rfl
  · have hp : 0 < l.length := List.length_pos_iff.2 hl
    obtain ⟨b, off, c, rfl, _⟩ := dg_cell h3 0 hp
    unfold rdRow
    apply List.ext_getElem
    · simp
    · intro j hj1 hj2
      rw [List.getElem_map, List.getElem_range]
      obtain ⟨b', off', c', e, hc⟩ := dg_cell h3 j hj2
      cases e
      simp only [hc]
      rw [List.getD_eq_getElem?_getD, List.getElem?_eq_getElem hj2]
      simp
set_option maxRecDepth 100000 in
set_option maxHeartbeats 4000000 in
theorem natGcd_num {a b M : Nat} {u v : Value} {w : World} (hu : Num w u a) (hv : Num w v b) (ha : a ≤ M) (hb : b ≤ M) (hM : Small (M * 10000)) : Calls Try.prog 84 #[u, v] w (NumR (Nat.gcd a b) w) := by
  have HU := hide' hu
  have HV := hide' hv
  obtain ⟨ua, uk, uc, rfl⟩ := hu.slice
  obtain ⟨va, vk, vc, rfl⟩ := hv.slice
  have HM := hide' hM
  clear hu hv hM
  go_enter Try.func84, Try.ntmps84
  go_wp2_with fail
  go_loopw [0, 1] (fun uv vv wr => ∃ (x y uk vk uc vc : Nat) (ua va : Option Addr), uv = .slice ua uk uc ∧ vv = .slice va vk vc ∧ x ≤ M ∧ y ≤ M ∧ Hid (Nat.gcd x y = Nat.gcd a b) ∧ Hid (Num wr (.slice ua uk uc) x ∧ Num wr (.slice va vk vc) y ∧ Below w.heap.size w wr)) (fun _ vv wr => rdVal wr vv)
  case atStart => exact ⟨a, b, _, _, _, _, _, _, rfl, rfl, ha, hb, rfl, HU.out, HV.out, Below.refl _ w⟩
  case round =>
    clear HU HV
    obtain ⟨x, y, uk, vk, uc, vc, ua, va, rfl, rfl, hx, hy, HG, HN⟩ := hrel
    have hlen := HN.out.2.1.len
    by_cases h0 : y = 0
    · have hk0 : vk = 0 := hlen.2 h0
      subst hk0
      have HGX : Hid (x = Nat.gcd a b) := by show _ = _; rw [← HG.out, h0, Nat.gcd_zero_right]
      have HNX := hide' HN.out
      rw [HGX.out] at HNX
      clear hlen HG HN HGX
      go_wp2_with fail
      go_ret
      exact ⟨_, rfl, HNX.out.1, HNX.out.2.2⟩
    · have hk0 : (0 : Int) < (vk : Int) := by
        have : vk ≠ 0 := fun q => h0 (hlen.1 q)
        omega
      have hyp : 0 < y := by omega
      have HDV := hide' (natDiv_num HN.out.1 HN.out.2.1 (HM.out.le (by omega)) hyp (HM.out.le (Nat.mul_le_mul_right _ hy)))
      clear hlen
      go_wp2_with fail
      refine HDV.out.mono ?_
      rintro e z ⟨qv, rv, rfl, _, hr, hbz⟩
      obtain ⟨ra, rk, rc, rfl⟩ := hr.slice
      have hmod : x % y < y := Nat.mod_lt _ hyp
      have HNX : Hid (Num z (.slice va vk vc) y ∧ Num z (.slice ra rk rc) (x % y) ∧ Below w.heap.size w z) := ⟨HN.out.2.1.below hbz (Nat.le_refl _), hr, HN.out.2.2.trans (hbz.mono HN.out.2.2.size)⟩
      have HGX : Hid (Nat.gcd y (x % y) = Nat.gcd a b) := by show _ = _; rw [← HG.out, Nat.gcd_comm x y, Nat.gcd_rec y x, Nat.gcd_comm]
      have HMS : Hid (rdVal z (.slice ra rk rc) < rdVal wr (.slice va vk vc)) := by show _ < _; rw [hr.rd, HN.out.2.1.rd]; exact hmod
      clear hr hbz HDV HN HG
      go_wp2_with fail
      go_roundw
      case rel => exact ⟨y, x % y, _, _, _, _, _, _, rfl, rfl, by omega, by omega, HGX.out, HNX.out⟩
      case measure => exact HMS.out
end Go.Proofs.Ytmbgjmkndhjilak
