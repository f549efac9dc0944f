/- The document's reckoning of the steps in which parts get dark. -/
import Derived.Test.YtpejnkngmnabfaiQ6
import Derived.Test.YtpejnkngmnabfaiP9
namespace Go.Proofs.Ytpejnkngmnabfai
open Go.RowKit Go.Shelf

/-- What the document has found: in step s, after k breakers. -/
structure Wh (n : Nat) (cs : List CutM) (st : List Bool) (lv : List Nat) (s k last : Nat) (wn : List Nat) : Prop where
  len : wn.length = n
  val : ∀ p, wn.getD p 0 = 0 ∨ wn.getD p 0 = lv.getD p 0
  old : ∀ p, p < n → lv.getD p 0 ≤ s → wn.getD p 0 = lv.getD p 0
  le : ∀ p, wn.getD p 0 ≤ s + 1
  met : ∀ j, j < k → j < cs.length → st.getD j false = true → (lv.getD (cs.getD j (0, 0)).1 0 = s → 0 < wn.getD (cs.getD j (0, 0)).2 0) ∧ (lv.getD (cs.getD j (0, 0)).2 0 = s → 0 < wn.getD (cs.getD j (0, 0)).1 0)
  has : ∃ p, p < n ∧ wn.getD p 0 = last
  top : ∀ p, wn.getD p 0 ≤ last
theorem nset_getD {T : List Nat} {b k x : Nat} (hb : b < T.length) : (T.set b x).getD k 0 = if k = b then x else T.getD k 0 := by
  rw [List.getD_eq_getElem?_getD, List.getElem?_set]
  split
  · rename_i h; subst h; simp
  · rename_i h; rw [if_neg (fun e => h e.symm)]; rw [List.getD_eq_getElem?_getD]
/-- One part more gets dark. -/
theorem Wh.put {n s k last x : Nat} {cs : List CutM} {st : List Bool} {lv wn : List Nat} (h : Wh n cs st lv s k last wn) (hx : x < n) (h0 : wn.getD x 0 = 0) (hl : lv.getD x 0 = s + 1) : Wh n cs st lv s k (s + 1) (wn.set x (s + 1)) := by
  have hg : ∀ p, (wn.set x (s + 1)).getD p 0 = if p = x then s + 1 else wn.getD p 0 := fun p => nset_getD (by rw [h.len]; exact hx)
  have hmono : ∀ p, 0 < wn.getD p 0 → 0 < (wn.set x (s + 1)).getD p 0 := fun p e => by rw [hg]; split <;> omega
  refine ⟨by rw [List.length_set]; exact h.len, fun p => ?_, fun p hp hle => ?_, fun p => ?_, fun j hj hjc hs => ⟨fun e => hmono _ ((h.met j hj hjc hs).1 e), fun e => hmono _ ((h.met j hj hjc hs).2 e)⟩, ⟨x, hx, by rw [hg, if_pos rfl]⟩, fun p => ?_⟩
  · rw [hg]; split
    · rename_i e; subst e; exact .inr hl.symm
    · exact h.val p
  · rw [hg]; split
    · rename_i e; subst e; omega
    · exact h.old p hp hle
  · rw [hg]; split
    · omega
    · exact h.le p
  · rw [hg]; split
    · omega
    · exact h.le p
theorem Wh.is {n s k last p : Nat} {cs : List CutM} {st : List Bool} {lv wn : List Nat} (h : Wh n cs st lv s k last wn) (hs : 1 ≤ s) (hp : p < n) : wn.getD p 0 = s ↔ lv.getD p 0 = s := by
  have h1 := h.val p
  have h2 := h.old p hp
  constructor
  · intro e; omega
  · intro e; rw [h2 (by omega)]; exact e
/-- One breaker more has been seen. -/
theorem Wh.seen {n s k last : Nat} {cs : List CutM} {st : List Bool} {lv wn : List Nat} (h : Wh n cs st lv s k last wn) (hm : k < cs.length → st.getD k false = true → (lv.getD (cs.getD k (0, 0)).1 0 = s → 0 < wn.getD (cs.getD k (0, 0)).2 0) ∧ (lv.getD (cs.getD k (0, 0)).2 0 = s → 0 < wn.getD (cs.getD k (0, 0)).1 0)) : Wh n cs st lv s (k + 1) last wn := by
  refine ⟨h.len, h.val, h.old, h.le, fun j hj hjc hs => ?_, h.has, h.top⟩
  by_cases e : j = k
  · subst e; exact hm hjc hs
  · exact h.met j (by omega) hjc hs
/-- Where the one side got dark in this step and the other isn't yet, it gets dark in the next one. -/
theorem lev_next {n f L s k : Nat} {cs : List CutM} {st : List Bool} {lv wn : List Nat} {last k0 : Nat} (hL : Lev n f cs st L L lv) (hp : Placed n cs) (hs : 1 ≤ s) (h : Wh n cs st lv s k0 last wn) (hk : k < cs.length) (hst : st.getD k false = true) :
    (wn.getD (cs.getD k (0, 0)).1 0 = s → wn.getD (cs.getD k (0, 0)).2 0 = 0 → lv.getD (cs.getD k (0, 0)).2 0 = s + 1) ∧ (wn.getD (cs.getD k (0, 0)).2 0 = s → wn.getD (cs.getD k (0, 0)).1 0 = 0 → lv.getD (cs.getD k (0, 0)).1 0 = s + 1) := by
  obtain ⟨ha, hb, _⟩ := hp k hk
  constructor
  · intro e1 e2
    have e3 := (h.is hs ha).1 e1
    have h1 := (hL.on k hk hst s (by omega) (by rw [← e3]; exact hL.le _)).1 e3
    have h2 := h.old _ hb
    omega
  · intro e1 e2
    have e3 := (h.is hs hb).1 e1
    have h1 := (hL.on k hk hst s (by omega) (by rw [← e3]; exact hL.le _)).2 e3
    have h2 := h.old _ ha
    omega
theorem Wh.round {n f L s last : Nat} {cs : List CutM} {st : List Bool} {lv wn : List Nat} (hL : Lev n f cs st L L lv) (hs : 1 ≤ s) (h : Wh n cs st lv s cs.length last wn) : Wh n cs st lv (s + 1) 0 last wn := by
  refine ⟨h.len, h.val, fun p hp hle => ?_, fun p => by have := h.le p; omega, fun j hj => by omega, h.has, h.top⟩
  by_cases e : lv.getD p 0 ≤ s
  · exact h.old p hp e
  · obtain ⟨k, hk, hst, hc⟩ := hL.fro p hp (by omega)
    have hv := h.val p
    rcases hc with ⟨c1, c2⟩ | ⟨c1, c2⟩
    · have := (h.met k hk hk hst).2 (by omega)
      rw [c1] at this
      omega
    · have := (h.met k hk hk hst).1 (by omega)
      rw [c1] at this
      omega
theorem Wh.start {n f L : Nat} {cs : List CutM} {st : List Bool} {lv : List Nat} (hL : Lev n f cs st L L lv) (hf : f < n) : Wh n cs st lv 1 0 1 ((List.replicate n 0).set f 1) := by
  have hg : ∀ p, ((List.replicate n 0).set f 1).getD p 0 = if p = f then 1 else 0 := fun p => by
    rw [nset_getD (by simpa using hf)]
    congr 1
    rw [List.getD_eq_getElem?_getD, List.getElem?_replicate]
    split <;> rfl
  have h1 := (hL.one f hf).2 rfl
  refine ⟨by simp, fun p => ?_, fun p hp hle => ?_, fun p => ?_, fun j hj => by omega, ⟨f, hf, by rw [hg, if_pos rfl]⟩, fun p => ?_⟩
  · rw [hg]; split
    · rename_i e; subst e; exact .inr h1.symm
    · exact .inl rfl
  · rw [hg]; split
    · rename_i e; subst e; exact h1.symm
    · rename_i e
      have := hL.one p hp
      have h2 : lv.getD p 0 ≠ 1 := fun e2 => e (this.1 e2)
      omega
  · rw [hg]; split <;> omega
  · rw [hg]; split <;> omega
/-- In the end all is found, and the last step is the last one. -/
theorem Wh.all {n f L s last : Nat} {cs : List CutM} {st : List Bool} {lv wn : List Nat} (hL : Lev n f cs st L L lv) (h : Wh n cs st lv s 0 last wn) (hs : n ≤ s) : wn = lv ∧ last = L := by
  have hsm := hL.small
  have he : wn = lv := by
    refine List.ext_getElem (by rw [h.len, hL.len]) fun p h1 h2 => ?_
    have := h.old p (by rw [← h.len]; exact h1) (by have := hL.le p; omega)
    rw [List.getD_eq_getElem?_getD, List.getD_eq_getElem?_getD, List.getElem?_eq_getElem h1, List.getElem?_eq_getElem h2] at this
    exact this
  subst he
  obtain ⟨p, _, hp⟩ := h.has
  obtain ⟨q, _, hq⟩ := hL.has
  have h1 := h.top q
  have h2 := hL.le p
  exact ⟨rfl, by omega⟩
end Go.Proofs.Ytpejnkngmnabfai
