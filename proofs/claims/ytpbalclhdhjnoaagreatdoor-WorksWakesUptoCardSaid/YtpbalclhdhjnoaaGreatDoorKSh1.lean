/- Plain facts: the text of a good network is short enough, and read it is the network. -/
import Derived.Test.YtpbalclhdhjnoaaGreatDoorKSh0
namespace Go.Proofs.YtpbalclhdhjnoaaGreatDoor
open Go.RowKit

def Wdy (x : ByteArray) : Prop := wordy (bytesOf x) ∧ x.size ≤ 32
theorem wordy_dec {l : List UInt8} (h : (!l.isEmpty && l.all (fun c => !blankU c && c != 10 && c != 35)) = true) : wordy l := by
  simp only [Bool.and_eq_true, Bool.not_eq_true', List.isEmpty_eq_false_iff] at h
  refine ⟨h.1, fun c hc => ?_⟩
  have := List.all_eq_true.1 h.2 c hc
  simp at this
  exact ⟨this.1.1, this.1.2, this.2⟩
theorem wd_k : Wdy kNet ∧ Wdy kBus ∧ Wdy kLine ∧ Wdy kTie ∧ Wdy kOpen ∧ Wdy kClosed := by
  refine ⟨⟨wordy_dec (by decide +kernel), by decide⟩, ⟨wordy_dec (by decide +kernel), by decide⟩, ⟨wordy_dec (by decide +kernel), by decide⟩, ⟨wordy_dec (by decide +kernel), by decide⟩, ⟨wordy_dec (by decide +kernel), by decide⟩, ⟨wordy_dec (by decide +kernel), by decide⟩⟩
theorem join_len : ∀ (ws : List (List UInt8)), (∀ x ∈ ws, x.length ≤ 32) → (joinW ws).length ≤ ws.length * 33
  | [], _ => by simp [joinW]
  | [x], h => by
    rw [joinW_one]
    have := h x (by simp)
    simp
    omega
  | x :: y :: r, h => by
    have := join_len (y :: r) (fun z hz => h z (by simp [hz]))
    have h1 := h x (by simp)
    rw [joinW_cons]
    simp only [List.length_append, List.length_cons] at this ⊢
    omega
theorem text_len {c : Nat} : ∀ (tl : List (List ByteArray)), (∀ ws ∈ tl, (lineT ws).length + 1 ≤ c) → (textT tl).length ≤ tl.length * c
  | [], _ => by simp [textT]
  | ws :: r, h => by
    have := text_len r (fun x hx => h x (by simp [hx]))
    have h1 := h ws (by simp)
    have e : textT (ws :: r) = lineT ws ++ [10] ++ textT r := by simp [textT]
    rw [e]
    simp only [List.length_append, List.length_cons, List.length_nil]
    rw [Nat.succ_mul]
    omega
end Go.Proofs.YtpbalclhdhjnoaaGreatDoor
