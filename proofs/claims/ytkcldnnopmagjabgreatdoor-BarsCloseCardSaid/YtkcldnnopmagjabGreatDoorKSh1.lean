/- Plain facts: the text of a good network is short enough, and read it is the network. -/
import Derived.Test.YtkcldnnopmagjabGreatDoorKSh0
namespace Go.Proofs.YtkcldnnopmagjabGreatDoor
open Go.RowKit

def Wdy (x : ByteArray) : Prop := wordy (bytesOf x) ∧ x.size ≤ 32
theorem wordy_dec {l : List UInt8} (h : (!l.isEmpty && l.all (fun c => !blankU c && c != 10 && c != 35)) = true) : wordy l := by
  simp only [Bool.and_eq_true, Bool.not_eq_true', List.isEmpty_eq_false_iff] at h
  refine ⟨h.1, fun c hc => ?_⟩
  have := List.all_eq_true.1 h.2 c hc
  simp at this
  exact ⟨this.1.1, this.1.2, this.2⟩
theorem wd_k : Wdy kNet ∧ Wdy kBus ∧ Wdy kLine ∧ Wdy kTie ∧ Wdy kOpen ∧ Wdy kClosed := by
  refine ⟨⟨wordy_dec (by decide +kernel), by decide⟩, ⟨wordy_dec (by decide +kernel), by decide⟩, ⟨wordy_dec (by decide +kernel), by decide⟩, ⟨wordy_dec (by decide +kernel), by decide⟩, ⟨wordy_dec (by decide +kernel), by decide⟩, ⟨wordy_dec (by decide +kernel), by decide⟩⟩
theorem size_bytesOf (x : ByteArray) : (bytesOf x).length = x.size := by
  have := size_textOf (bytesOf x)
  rw [textOf_bytesOf] at this
  exact this.symm
theorem GoodM.name_wd {N : NetM} (h : GoodM N) {x : ByteArray} (hx : x ∈ N.name :: namesM N) : Wdy x := h.wordy x hx
theorem GoodM.bus_wd {N : NetM} (h : GoodM N) {i : Int} (h0 : 0 ≤ i) (h1 : i < N.buses.length) : Wdy (busAt N i) := by
  obtain ⟨u, rfl⟩ := Int.eq_ofNat_of_zero_le h0
  have hu : u < N.buses.length := by omega
  have e : busAt N (u : Int) = N.buses[u] := by
    unfold busAt
    rw [Int.toNat_natCast, List.getD_eq_getElem?_getD, List.getElem?_eq_getElem hu]
    rfl
  rw [e]
  exact h.name_wd (by simp [namesM])
theorem dec_wd {v : Int} (h0 : 0 ≤ v) (h1 : v < 100) : Wdy (decB v) := by
  obtain ⟨_, h2, h3⟩ := decB_small h0 h1
  rw [size_bytesOf] at h3
  exact ⟨h2, by omega⟩
theorem told_words {N : NetM} (h : GoodM N) : ∀ ws ∈ toldN N, ws.length ≤ 6 ∧ ∀ x ∈ ws, Wdy x := by
  obtain ⟨kn, kb, kl, kt, ko, kc⟩ := wd_k
  intro ws hws
  unfold toldN at hws
  simp only [List.cons_append, List.mem_cons, List.mem_append, List.mem_map] at hws
  rcases hws with rfl | (⟨b, hb, rfl⟩ | ⟨b, hb, rfl⟩) | ⟨b, hb, rfl⟩
  · refine ⟨by simp, fun x hx => ?_⟩
    simp only [List.mem_cons, List.not_mem_nil, or_false] at hx
    rcases hx with rfl | rfl
    · exact kn
    · exact h.name_wd (by simp)
  · refine ⟨by simp, fun x hx => ?_⟩
    simp only [List.mem_cons, List.not_mem_nil, or_false] at hx
    rcases hx with rfl | rfl
    · exact kb
    · exact h.name_wd (by simp [namesM, hb])
  · refine ⟨by simp [wordsLine], fun x hx => ?_⟩
    obtain ⟨c1, c2, c3, c4, c5, c6, c7, c8, c9⟩ := h.lines b hb
    simp only [wordsLine, List.mem_cons, List.not_mem_nil, or_false] at hx
    rcases hx with rfl | rfl | rfl | rfl | rfl | rfl
    · exact kl
    · refine h.name_wd ?_
      simp only [namesM, List.mem_cons, List.mem_append, List.mem_map]
      exact .inr (.inl (.inl (.inl (.inr ⟨b, hb, rfl⟩))))
    · exact h.bus_wd c1 c2
    · exact h.bus_wd c3 c4
    · exact dec_wd (by omega) c7
    · exact dec_wd c8 c9
  · refine ⟨by simp [wordsTie], fun x hx => ?_⟩
    obtain ⟨c1, c2, c3, c4, c5⟩ := h.ties b hb
    simp only [wordsTie, List.mem_cons, List.not_mem_nil, or_false] at hx
    rcases hx with rfl | rfl | rfl | rfl | rfl
    · exact kt
    · refine h.name_wd ?_
      simp only [namesM, List.mem_cons, List.mem_append, List.mem_map]
      exact .inr (.inr ⟨b, hb, rfl⟩)
    · exact h.bus_wd c1 c2
    · exact h.bus_wd c3 c4
    · cases b.closed
      · exact ko
      · exact kc
theorem join_len : ∀ (ws : List (List UInt8)), (∀ x ∈ ws, x.length ≤ 32) → (joinW ws).length ≤ ws.length * 33
  | [], _ => by simp [joinW]
  | [x], h => by
    rw [joinW_one]
    have := h x (by simp)
    simp
    omega
  | x :: y :: r, h => by
    have := join_len (y :: r) (fun z hz => h z (by simp [hz]))
    have h1 := h x (by simp)
    rw [joinW_cons]
    simp only [List.length_append, List.length_cons] at this ⊢
    omega
theorem text_len {c : Nat} : ∀ (tl : List (List ByteArray)), (∀ ws ∈ tl, (lineT ws).length + 1 ≤ c) → (textT tl).length ≤ tl.length * c
  | [], _ => by simp [textT]
  | ws :: r, h => by
    have := text_len r (fun x hx => h x (by simp [hx]))
    have h1 := h ws (by simp)
    have e : textT (ws :: r) = lineT ws ++ [10] ++ textT r := by simp [textT]
    rw [e]
    simp only [List.length_append, List.length_cons, List.length_nil]
    rw [Nat.succ_mul]
    omega
theorem told_len {N : NetM} (h : GoodM N) : (textT (toldN N)).length ≤ 20000 := by
  have h1 : (textT (toldN N)).length ≤ (toldN N).length * 199 := by
    refine text_len _ (fun ws hws => ?_)
    obtain ⟨h2, h3⟩ := told_words h ws hws
    have h4 := join_len (ws.map bytesOf) (fun x hx => by obtain ⟨y, hy, rfl⟩ := List.mem_map.1 hx; rw [size_bytesOf]; exact (h3 y hy).2)
    have h5 : (lineT ws).length ≤ ws.length * 33 := by simpa [lineT] using h4
    omega
  have h2 : (toldN N).length = 1 + N.buses.length + N.lines.length + N.ties.length := by
    simp [toldN]
    omega
  obtain ⟨f1, f2, f3⟩ := h.fits
  omega
theorem good_names {N : NetM} (h : GoodM N) : namesM N = N.buses ++ N.lines.map LineM.name ++ N.ties.map TieM.name := by
  simp [namesM, h.gens, h.loads]
theorem good_steps {N : NetM} (h : GoodM N) : StepsOk emptyNet false (toldN N) N := by
  obtain ⟨f1, f2, f3⟩ := h.fits
  have hn := h.names
  have hd := h.nodup
  rw [good_names h] at hn hd
  have hd1 : (N.buses ++ N.lines.map LineM.name).Nodup := (List.nodup_append.1 hd).1
  have hd0 : N.buses.Nodup := (List.nodup_append.1 hd1).1
  have e0 : (⟨N.name, N.buses, N.lines, [], [], N.ties⟩ : NetM) = N := by
    have := h.gens
    have := h.loads
    cases N
    simp_all
  have s1 := steps_buses N.name N.buses [] (fun x hx => hn x (by simp [hx])) (by simpa using hd0) (by simpa using f1)
  have s2 := steps_lines N hd0 N.lines [] (fun x hx => hn _ (by
    simp only [List.mem_append, List.mem_map]
    exact .inl (.inr ⟨x, hx, rfl⟩))) (by simpa using hd1) (by simpa using f2) h.lines
  have s3 := steps_ties N hd0 N.ties [] (fun x hx => hn _ (by
    simp only [List.mem_append, List.mem_map]
    exact .inr ⟨x, hx, rfl⟩)) (by simpa using hd) (by simpa using f3) h.ties
  rw [List.nil_append] at s1 s2 s3
  rw [e0] at s3
  have s12 := StepsOk.app _ _ _ _ _ _ (StepsOk.app _ _ _ _ _ _ s1 s2) s3
  have hstep : stepE emptyNet [kNet, N.name] = 0 := by
    rw [stepE, if_pos rfl]
    unfold netE
    rw [h.nm]
    rfl
  have hnext : stepN emptyNet [kNet, N.name] = ⟨N.name, [], [], [], [], []⟩ := by
    rw [stepN, if_pos rfl]
    rfl
  unfold toldN
  refine ⟨rfl, by decide, hstep, ?_⟩
  rw [hnext]
  exact s12
theorem good_read {N : NetM} (h : GoodM N) : readNetM (textOf (textT (toldN N))) = ((0, 0), N) :=
  read_text (toldN N) N (fun ws hws x hx => ((told_words h ws hws).2 x hx).1) (good_steps h) (told_len h)
end Go.Proofs.YtkcldnnopmagjabGreatDoor
