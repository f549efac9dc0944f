/- A row, from the last one on: the library's Backward. -/
import Derived.Test.YtpejnkngmnabfaiP1
import Derived.Test.YtpejnkngmnabfaiP2
namespace Go.Proofs.Ytpejnkngmnabfai
open Go.RowKit Go.Shelf
attribute [local go_sem] Oper.semAt_some wide_fn wide_depth

abbrev Ix (n : Nat) : Type := { k : Nat // k < n }
def ixV (bs : List Int) (x : Ix bs.length) : Array Value := #[.int .i64 (x.1 : Int), .int .i64 (bs.getD x.1 0)]
theorem Backward_any (v : Value) (a : Option Addr) (n c : Nat) (hv : v = .slice a n c) (w : World) :
    Calls Try.prog 28 #[v] w fun e w' => e = .returned (.func (.func 34) #[] #[.pointer (some ⟨w.heap.size, 0, none⟩)]) ∧ w' = w.alloc (.cells #[v] 22) := by
  subst hv
  have hmf : ∀ fn first cap (w : World), (Instr.makeFunc fn first cap).run Try.prog w = .ok (.func fn first cap) w := fun _ _ _ _ => rfl
  go_enter Try.func28, Try.ntmps28
  go_wp2
  go_ret
  exact ⟨rfl, rfl⟩
theorem back_next {n k : Nat} (hk : k < n) : ((List.range n).drop k).reverse = ((List.range n).drop (k + 1)).reverse ++ [k] := by
  rw [List.drop_eq_getElem_cons (by simpa using hk), List.reverse_cons, List.getElem_range]
set_option maxRecDepth 100000 in
set_option maxHeartbeats 2000000 in
theorem Backward1_stops (bs : List Int) (hlen : bs.length ≤ 1000) (a : Option Addr) (cap : Nat) (bb : Nat) (ks : List Nat) (hbb : bb ∈ ks) (hbl : ∀ b o, a = some ⟨b, o, none⟩ → 0 < bs.length → b ∈ ks) (w0 : World) (hks : ∀ k ∈ ks, k < w0.heap.size)
    (hu : w0.cell? ⟨bb, 0, none⟩ = some (.slice a bs.length cap)) (hr : RowAt w0 (.slice a bs.length cap) bs.length 1 (ints bs)) :
    SeqStopsK Fence.wide 2 Try.prog 34 #[.pointer (some ⟨bb, 0, none⟩)] (ixV bs) (KeptB ks) (fun xs => xs.map (·.1) = (List.range bs.length).reverse) (fun _ => True) bs.length w0 := by
  intro l J Jx W hW hJ hJx hY h0
  have HW0 : Hid (KeptB ks w0 W) := KeptB.below hW hks
  have hg1 : W.cell? ⟨bb, 0, none⟩ = some (.slice a bs.length cap) := (HW0.out.cell hbb).trans hu
  have HU := hide' hu
  have HR := hide' hr
  clear hW hu hr hJ hJx
  refine callsIn_of_wp Try.func34 rfl trivial ?_ rfl
  simp only [Try.ntmps34, List.size_toArray, List.length_cons, List.length_nil, Nat.reduceAdd, Nat.reduceSub, Array.replicate_succ, Array.replicate_zero, List.push_toArray, List.append_toArray, List.nil_append, List.cons_append]
  have hwn : IntKind.i64.wrap ((bs.length : Int) - 1) = (bs.length : Int) - 1 := Go.IntWalk.i64_in _ (by omega)
  gi_wp2
  gi_loopw [3] (fun i wr => ∃ (k : Nat) (pre : List (Ix bs.length)), i = .int .i64 ((k : Int) - 1) ∧ k ≤ bs.length ∧ pre.length = bs.length - k ∧ Hid (pre.map (·.1) = ((List.range bs.length).drop k).reverse) ∧ Hid (J pre wr) ∧ Hid (KeptB ks w0 wr)) (fun i _ => (intOf i + 1).toNat)
  case atStart => exact ⟨bs.length, [], by first | rfl | rw [hwn], Nat.le_refl _, by simp, (by show _ = _; simp), h0, HW0⟩
  case round =>
    clear HW0 hg1 h0 hwn
    obtain ⟨k, pre, rfl, hk, hpl, HP, HJp, HK⟩ := hrel
    by_cases hk0 : k = 0
    · subst hk0
      gi_wp2
      go_end0
      exact ⟨⟨_, rfl⟩, .inl ⟨pre, by rw [HP.out]; rfl, HJp.out⟩⟩
    · obtain ⟨j, rfl⟩ : ∃ j, k = j + 1 := ⟨k - 1, by omega⟩
      have hj : j < bs.length := by omega
      rw [show ((j + 1 : Nat) : Int) - 1 = (j : Int) by omega]
      obtain ⟨b, off, c', ex, hce⟩ := ints_cell HR.out j hj
      cases ex
      have hbm := hbl b off rfl (by omega)
      have e0 : wr.cell? ⟨b, off + j, none⟩ = some (.int .i64 (bs.getD j 0)) := (HK.out.cell hbm).trans hce
      have hub : wr.cell? ⟨bb, 0, none⟩ = some (.slice (some ⟨b, off, none⟩) bs.length cap) := (HK.out.cell hbb).trans HU.out
      obtain ⟨fn, tmps, assign, body, hy, hR⟩ := hY pre ⟨j, hj⟩ wr HJp.out (by omega)
      have HR2 := hide' hR
      have HN : Hid ((pre ++ [(⟨j, hj⟩ : Ix bs.length)]).map (·.1) = ((List.range bs.length).drop j).reverse) := by
        show _ = _
        rw [List.map_append, HP.out, back_next hj]; rfl
      have hwj : IntKind.i64.wrap ((j : Int) - 1) = (j : Int) - 1 := Go.IntWalk.i64_in _ (by omega)
      clear hR hce hbm
      dsimp only [ixV] at hy
      obtain ⟨x, hx⟩ : ∃ x, x = bs.getD j 0 := ⟨_, rfl⟩
      rw [← hx] at hy e0
      clear hx
      gi_wp2
      refine HR2.out.mono ?_
      rintro e W3 (⟨rfl, hJ3, hk3⟩ | ⟨rfl, hJx3⟩)
      · have HJ3 := hide' hJ3
        have HK3 := hide' (HK.out.trans hk3)
        clear hJ3 hk3
        gi_wp2
        go_roundw
        case rel => exact ⟨j, _, by first | rfl | rw [hwj], by omega, by simp; omega, HN, HJ3, HK3⟩
        case measure => simp [intOf]
      · have HJ3 := hide' hJx3
        clear hJx3
        gi_wp2
        refine bodyPost_ret (results_none rfl _ _ _) rfl ?_
        exact ⟨⟨_, rfl⟩, .inr ⟨_, trivial, HJ3.out⟩⟩
end Go.Proofs.Ytpejnkngmnabfai
