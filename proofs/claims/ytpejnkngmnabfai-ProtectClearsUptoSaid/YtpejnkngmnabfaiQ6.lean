/- The least set that gets dark; how often each breaker opens. -/
import Derived.Test.YtpejnkngmnabfaiQ5
namespace Go.Proofs.Ytpejnkngmnabfai
open Go.RowKit Go.Shelf

/-- A set on its way to the least one: after r rounds, and k breakers more. -/
structure Clo (n : Nat) (cs : List CutM) (st : List Bool) (lv : List Nat) (r k : Nat) (ls : List Bool) : Prop where
  len : ls.length = n
  sub : ∀ p, ls.getD p false = true → 0 < lv.getD p 0
  sup : ∀ p, p < n → 0 < lv.getD p 0 → lv.getD p 0 ≤ r + 1 → ls.getD p false = true
  met : ∀ j, j < k → j < cs.length → st.getD j false = true → ((0 < lv.getD (cs.getD j (0, 0)).1 0 ∧ lv.getD (cs.getD j (0, 0)).1 0 ≤ r + 1) ∨ (0 < lv.getD (cs.getD j (0, 0)).2 0 ∧ lv.getD (cs.getD j (0, 0)).2 0 ≤ r + 1)) → ls.getD (cs.getD j (0, 0)).1 false = true ∧ ls.getD (cs.getD j (0, 0)).2 false = true
theorem bset_getD {T : List Bool} {b k : Nat} (hb : b < T.length) : (T.set b true).getD k false = if k = b then true else T.getD k false := by
  rw [List.getD_eq_getElem?_getD, List.getElem?_set]
  split
  · rename_i h; subst h; simp
  · rename_i h; rw [if_neg (fun e => h e.symm)]; rw [List.getD_eq_getElem?_getD]
theorem Clo.skip {n r k f L : Nat} {cs : List CutM} {st : List Bool} {lv : List Nat} {ls : List Bool} (_hL : Lev n f cs st L L lv) (hp : Placed n cs) (h : Clo n cs st lv r k ls) (hk : k < cs.length) (hno : st.getD k false = true → ls.getD (cs.getD k (0, 0)).1 false = false ∧ ls.getD (cs.getD k (0, 0)).2 false = false) : Clo n cs st lv r (k + 1) ls := by
  refine ⟨h.len, h.sub, h.sup, fun j hj hjc hs hc => ?_⟩
  by_cases e : j = k
  · subst e
    exfalso
    obtain ⟨n1, n2⟩ := hno hs
    rcases hc with ⟨c1, c2⟩ | ⟨c1, c2⟩
    · rw [h.sup _ (hp j hjc).1 c1 c2] at n1; cases n1
    · rw [h.sup _ (hp j hjc).2.1 c1 c2] at n2; cases n2
  · exact h.met j (by omega) hjc hs hc
theorem Clo.meet {n r k f L : Nat} {cs : List CutM} {st : List Bool} {lv : List Nat} {ls : List Bool} (hL : Lev n f cs st L L lv) (hp : Placed n cs) (h : Clo n cs st lv r k ls) (hk : k < cs.length) (hs : st.getD k false = true) (hc : ls.getD (cs.getD k (0, 0)).1 false = true ∨ ls.getD (cs.getD k (0, 0)).2 false = true) : Clo n cs st lv r (k + 1) ((ls.set (cs.getD k (0, 0)).1 true).set (cs.getD k (0, 0)).2 true) := by
  obtain ⟨ha, hb, _⟩ := hp k hk
  have hg : ∀ p, ((ls.set (cs.getD k (0, 0)).1 true).set (cs.getD k (0, 0)).2 true).getD p false = if p = (cs.getD k (0, 0)).2 then true else if p = (cs.getD k (0, 0)).1 then true else ls.getD p false := fun p => by
    rw [bset_getD (by rw [List.length_set, h.len]; exact hb), bset_getD (by rw [h.len]; exact ha)]
  have hmono : ∀ p, ls.getD p false = true → ((ls.set (cs.getD k (0, 0)).1 true).set (cs.getD k (0, 0)).2 true).getD p false = true := fun p e => by
    rw [hg, e]; split
    · rfl
    · split <;> rfl
  have hon := hL.on k hk hs
  have hpos : 0 < lv.getD (cs.getD k (0, 0)).1 0 ∧ 0 < lv.getD (cs.getD k (0, 0)).2 0 := by
    rcases hc with e | e
    · have h1 := h.sub _ e
      exact ⟨h1, ((hon _ h1 (hL.le _)).1 rfl).1⟩
    · have h1 := h.sub _ e
      exact ⟨((hon _ h1 (hL.le _)).2 rfl).1, h1⟩
  refine ⟨by rw [List.length_set, List.length_set]; exact h.len, fun p e => ?_, fun p hpn h0 h1 => hmono p (h.sup p hpn h0 h1), fun j hj hjc hsj hcj => ?_⟩
  · rw [hg] at e
    by_cases e1 : p = (cs.getD k (0, 0)).2
    · rw [e1]; exact hpos.2
    · by_cases e2 : p = (cs.getD k (0, 0)).1
      · rw [e2]; exact hpos.1
      · rw [if_neg e1, if_neg e2] at e; exact h.sub p e
  · by_cases e : j = k
    · subst e
      exact ⟨by rw [hg]; split; rfl; rw [if_pos rfl], by rw [hg, if_pos rfl]⟩
    · have := h.met j (by omega) hjc hsj hcj
      exact ⟨hmono _ this.1, hmono _ this.2⟩
theorem Clo.round {n r f L : Nat} {cs : List CutM} {st : List Bool} {lv : List Nat} {ls : List Bool} (hL : Lev n f cs st L L lv) (h : Clo n cs st lv r cs.length ls) : Clo n cs st lv (r + 1) 0 ls := by
  refine ⟨h.len, h.sub, fun p hp h0 h1 => ?_, fun j hj => by omega⟩
  by_cases e : lv.getD p 0 ≤ r + 1
  · exact h.sup p hp h0 e
  · obtain ⟨k, hk, hs, hc⟩ := hL.fro p hp (by omega)
    rcases hc with ⟨c1, c2⟩ | ⟨c1, c2⟩
    · have := (h.met k hk hk hs (.inr ⟨by omega, by omega⟩)).1
      rw [c1] at this; exact this
    · have := (h.met k hk hk hs (.inl ⟨by omega, by omega⟩)).2
      rw [c1] at this; exact this
theorem Clo.start {n f L : Nat} {cs : List CutM} {st : List Bool} {lv : List Nat} (hL : Lev n f cs st L L lv) (hf : f < n) : Clo n cs st lv 0 0 ((List.replicate n false).set f true) := by
  have hg : ∀ p, ((List.replicate n false).set f true).getD p false = if p = f then true else false := fun p => by
    rw [bset_getD (by simpa using hf)]
    congr 1
    rw [List.getD_eq_getElem?_getD, List.getElem?_replicate]
    split <;> rfl
  have h1 := (hL.one f hf).2 rfl
  refine ⟨by simp, fun p e => ?_, fun p hp h0 h2 => ?_, fun j hj => by omega⟩
  · rw [hg] at e
    split at e
    · rename_i e2; subst e2; omega
    · cases e
  · rw [hg, if_pos ((hL.one p hp).1 (by omega))]
/-- After as many rounds as there are parts it is just what is dark. -/
theorem Clo.all {n f L : Nat} {cs : List CutM} {st : List Bool} {lv : List Nat} {ls : List Bool} (hL : Lev n f cs st L L lv) (h : Clo n cs st lv n 0 ls) : ls = dkL n lv := by
  refine bools_ext h.len (by simp [dkL]) fun p hp => ?_
  rw [dk_get hp]
  by_cases e : 0 < lv.getD p 0
  · rw [decide_eq_true e]
    exact h.sup p hp e (by have := hL.le p; have := hL.small; omega)
  · rw [decide_eq_false e, ← Bool.not_eq_true]
    exact fun e2 => e (h.sub p e2)
/-- How often breaker k has opened: in the first i steps, and by j more of the next one. -/
def cntZ (lv : List Nat) (cs : List CutM) (st : List Bool) (i j k : Nat) : Int := (if 0 < mkk lv cs k ∧ mkk lv cs k ≤ i ∧ st.getD k false = false then 1 else 0) + (if k ∈ (opN lv cs st (i + 1) cs.length).take j then 1 else 0)
def cntL (lv : List Nat) (cs : List CutM) (st : List Bool) (i j : Nat) : List Int := (List.range cs.length).map (cntZ lv cs st i j)
theorem op_mem {lv : List Nat} {cs : List CutM} {st : List Bool} {i k : Nat} : k ∈ opN lv cs st i cs.length ↔ k < cs.length ∧ st.getD k false = false ∧ mkk lv cs k = i := by
  unfold opN
  rw [List.mem_filter, List.mem_range, Bool.and_eq_true, decide_eq_true_iff, Bool.not_eq_true']
theorem op_nodup (lv : List Nat) (cs : List CutM) (st : List Bool) (i j : Nat) : (opN lv cs st i j).Nodup := (List.filter_sublist (l := List.range j)).nodup List.nodup_range
theorem cnt_start (lv : List Nat) (cs : List CutM) (st : List Bool) : cntL lv cs st 0 0 = List.replicate cs.length 0 := by
  rw [show List.replicate cs.length (0 : Int) = (List.range cs.length).map fun _ => 0 by simp [List.map_const']]
  refine rmap_ext fun k _ => ?_
  unfold cntZ
  rw [if_neg (by omega), if_neg (by simp)]; rfl
theorem cnt_next (lv : List Nat) (cs : List CutM) (st : List Bool) (i : Nat) {j : Nat} (hj : (opN lv cs st (i + 1) cs.length).length ≤ j) : cntL lv cs st i j = cntL lv cs st (i + 1) 0 := rmap_ext fun k hk => by
  unfold cntZ
  rw [List.take_of_length_le hj, List.take_zero, if_neg (c := k ∈ []) (by simp)]
  by_cases h1 : st.getD k false = false
  · by_cases h2 : mkk lv cs k = i + 1
    · rw [if_neg (by omega), if_pos (op_mem.2 ⟨hk, h1, h2⟩), if_pos ⟨by omega, by omega, h1⟩]; rfl
    · rw [if_neg (c := k ∈ _) (fun h => h2 (op_mem.1 h).2.2)]
      by_cases h3 : 0 < mkk lv cs k ∧ mkk lv cs k ≤ i
      · rw [if_pos ⟨h3.1, h3.2, h1⟩, if_pos ⟨h3.1, by omega, h1⟩]
      · rw [if_neg (fun h => h3 ⟨h.1, h.2.1⟩), if_neg (fun h => h3 ⟨h.1, by omega⟩)]
  · rw [if_neg (fun h => h1 h.2.2), if_neg (fun h => h1 (op_mem.1 h).2.1), if_neg (fun h => h1 h.2.2)]
theorem cnt_step {lv : List Nat} {cs : List CutM} {st : List Bool} {i j : Nat} (hj : j < (opN lv cs st (i + 1) cs.length).length) : cntL lv cs st i (j + 1) = (cntL lv cs st i j).set ((opN lv cs st (i + 1) cs.length)[j]) (cntZ lv cs st i j ((opN lv cs st (i + 1) cs.length)[j]) + 1) := by
  unfold cntL
  rw [rmap_set]
  have hnd := (List.take_sublist (j + 1) (opN lv cs st (i + 1) cs.length)).nodup (op_nodup lv cs st (i + 1) cs.length)
  have htk : (opN lv cs st (i + 1) cs.length).take (j + 1) = (opN lv cs st (i + 1) cs.length).take j ++ [(opN lv cs st (i + 1) cs.length)[j]] := by rw [List.take_add_one, List.getElem?_eq_getElem hj]; rfl
  rw [htk, List.nodup_append] at hnd
  have hno : (opN lv cs st (i + 1) cs.length)[j] ∉ (opN lv cs st (i + 1) cs.length).take j := fun hm => hnd.2.2 _ hm _ (by simp) rfl
  refine rmap_ext fun k _ => ?_
  by_cases e : k = (opN lv cs st (i + 1) cs.length)[j]
  · rw [if_pos e, ← e]
    rw [← e] at htk hno
    unfold cntZ
    rw [htk, if_pos (c := k ∈ _ ++ [k]) (by simp), if_neg (c := k ∈ List.take j _) hno]
    omega
  · rw [if_neg e]
    unfold cntZ
    rw [htk]
    congr 1
    by_cases h : k ∈ (opN lv cs st (i + 1) cs.length).take j
    · rw [if_pos h, if_pos (List.mem_append_left _ h)]
    · rw [if_neg h, if_neg (by rw [List.mem_append, List.mem_singleton]; exact fun h2 => h2.elim h e)]
theorem cnt_small (lv : List Nat) (cs : List CutM) (st : List Bool) (i j k : Nat) : 0 ≤ cntZ lv cs st i j k ∧ cntZ lv cs st i j k ≤ 2 := by
  unfold cntZ
  constructor <;> split <;> split <;> omega
/-- Each one that is at what is dark and isn't stuck has opened once, and no other one. -/
theorem cnt_end {n f L : Nat} {cs : List CutM} {st : List Bool} {lv : List Nat} (hL : Lev n f cs st L L lv) (k : Nat) : cntZ lv cs st L 0 k = if st.getD k false = false ∧ (0 < lv.getD (cs.getD k (0, 0)).1 0 ∨ 0 < lv.getD (cs.getD k (0, 0)).2 0) then 1 else 0 := by
  unfold cntZ
  rw [List.take_zero, if_neg (c := k ∈ []) (by simp), Int.add_zero]
  have h1 := mk_le hL k
  have h2 := mk_zero (lv := lv) (cs := cs) (k := k)
  congr 1
  simp only [eq_iff_iff]
  constructor
  · rintro ⟨h3, _, h4⟩
    exact ⟨h4, by omega⟩
  · rintro ⟨h3, h4⟩
    refine ⟨?_, h1, h3⟩
    have : mkk lv cs k ≠ 0 := fun e => by have := h2.1 e; omega
    omega
end Go.Proofs.Ytpejnkngmnabfai
