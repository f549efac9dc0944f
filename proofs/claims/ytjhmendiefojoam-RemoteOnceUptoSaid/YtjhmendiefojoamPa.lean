/- What is so of both ends of a line, whatever happens (pure). -/
import Derived.Test.YtjhmendiefojoamO1
namespace Go.Proofs.Ytjhmendiefojoam
open Go.RowKit Go.Shelf

/-- A message that tells of a command that was given. -/
def OkM (ak : List MsM) (x : MsM) : Prop := (x.kind = 1 ∨ x.kind = 3) ∧ ∃ (k : Nat) (c : MsM), x.no = k ∧ ak[k]? = some c ∧ c.pt = x.pt ∧ c.wt = x.wt
theorem OkM.more {ak : List MsM} {x : MsM} (h : OkM ak x) (y : MsM) : OkM (ak ++ [y]) x := by
  obtain ⟨h1, k, c, h2, h3, h4⟩ := h
  exact ⟨h1, k, c, h2, by rw [List.getElem?_append_left (List.getElem?_eq_some_iff.1 h3).1]; exact h3, h4⟩
theorem May.rest {M : MaM} (h : M.May) : M.rest.May := ⟨h.pat, h.lim, h.no, .inl rfl⟩
theorem May.giveUp {M : MaM} (h : M.May) : M.giveUp.May := ⟨h.pat, h.lim, h.no, .inl rfl⟩
theorem May.busy {M : MaM} (h : M.May) (hp : M.ph ≠ 0) : M.Busy := by
  rcases h.st with h | h
  · exact absurd (by rw [h]; rfl) hp
  · exact h
theorem May.enter {M : MaM} (h : M.May) (hb : M.Busy) {p : Int} (hp : p = 1 ∨ p = 3) : (M.enter p).May := ⟨h.pat, h.lim, h.no, .inr ⟨hp, hb.now, hb.pt, ⟨Int.le_refl 0, by have := h.pat.1; show (0 : Int) ≤ M.pat - 1; omega⟩, ⟨Int.le_refl 1, by have := h.lim.1; show (1 : Int) ≤ M.lim; omega⟩, hb.gave⟩⟩
theorem May.wait {M : MaM} (h : M.May) (hb : M.Busy) (ht : M.timer + 1 < M.pat) : M.wait.May := ⟨h.pat, h.lim, h.no, .inr ⟨hb.ph, hb.now, hb.pt, ⟨by have := hb.timer.1; show (0 : Int) ≤ M.timer + 1; omega, by show M.timer + 1 ≤ M.pat - 1; omega⟩, hb.tries, hb.gave⟩⟩
theorem May.again {M : MaM} (h : M.May) (hb : M.Busy) (ht : M.tries ≠ M.lim) : M.again.May := ⟨h.pat, h.lim, h.no, .inr ⟨hb.ph, hb.now, hb.pt, ⟨Int.le_refl 0, by have := h.pat.1; show (0 : Int) ≤ M.pat - 1; omega⟩, ⟨by have := hb.tries.1; show (1 : Int) ≤ M.tries + 1; omega, by have := hb.tries.2; show M.tries + 1 ≤ M.lim; omega⟩, hb.gave⟩⟩
/-- What a master becomes, but for its command: what stays. -/
structure Stays (M N : MaM) : Prop where
  no : N.no = M.no
  pat : N.pat = M.pat
  lim : N.lim = M.lim
  bz : N.ph ≠ 0 → M.ph ≠ 0 ∧ N.now = M.now ∧ N.pt = M.pt ∧ N.want = M.want
theorem Stays.refl (M : MaM) : Stays M M := ⟨rfl, rfl, rfl, fun h => ⟨h, rfl, rfl, rfl⟩⟩
theorem heard_may {M : MaM} (h : M.May) (a : MsM) : (heardM M a).May ∧ Stays M (heardM M a) := by
  unfold heardM
  by_cases hc : M.ph = 0 ∨ a.no ≠ M.now
  · rw [if_pos hc]
    exact ⟨h, Stays.refl M⟩
  · have hp : M.ph ≠ 0 := fun e => hc (.inl e)
    have hb := May.busy h hp
    rw [if_neg hc]
    split
    · split
      · exact ⟨May.enter h hb (.inr rfl), rfl, rfl, rfl, fun _ => ⟨hp, rfl, rfl, rfl⟩⟩
      · exact ⟨h, Stays.refl M⟩
    · split
      · exact ⟨May.rest h, rfl, rfl, rfl, fun e => absurd rfl e⟩
      · split
        · exact ⟨May.enter h hb (.inl rfl), rfl, rfl, rfl, fun _ => ⟨hp, rfl, rfl, rfl⟩⟩
        · exact ⟨May.giveUp h, rfl, rfl, rfl, fun e => absurd rfl e⟩
theorem wait_may {M : MaM} (h : M.May) : (waitM M).May ∧ Stays M (waitM M) := by
  unfold waitM
  by_cases hp : M.ph = 0
  · rw [if_pos hp]
    exact ⟨h, Stays.refl M⟩
  · have hb := May.busy h hp
    rw [if_neg hp]
    split
    · next ht => exact ⟨May.wait h hb ht, rfl, rfl, rfl, fun _ => ⟨hp, rfl, rfl, rfl⟩⟩
    · split
      · exact ⟨May.giveUp h, rfl, rfl, rfl, fun e => absurd rfl e⟩
      · next ht => exact ⟨May.again h hb ht, rfl, rfl, rfl, fun _ => ⟨hp, rfl, rfl, rfl⟩⟩
/-- What is sent tells of the command under way. -/
theorem msg_ok {ak : List MsM} {M : MaM} (hb : M.ph ≠ 0 → ∃ (k : Nat) (c : MsM), M.now = k ∧ ak[k]? = some c ∧ c.pt = M.pt ∧ c.wt = M.want) (hp : M.ph = 1 ∨ M.ph = 3) : OkM ak M.msg := ⟨hp, hb (by omega)⟩
theorem heard_out {M : MaM} (_h : M.May) (a : MsM) {ak : List MsM} (hb : M.ph ≠ 0 → ∃ (k : Nat) (c : MsM), M.now = k ∧ ak[k]? = some c ∧ c.pt = M.pt ∧ c.wt = M.want) : ∀ x ∈ heardL M a, OkM ak x := fun x hx => by
  unfold heardL at hx
  by_cases hc : M.ph = 0 ∨ a.no ≠ M.now
  · rw [if_pos hc] at hx
    cases hx
  · have hp : M.ph ≠ 0 := fun e => hc (.inl e)
    rw [if_neg hc] at hx
    have go : ∀ p : Int, p = 1 ∨ p = 3 → OkM ak (M.enter p).msg := fun p hq => ⟨hq, hb hp⟩
    split at hx
    · split at hx
      · rw [List.mem_singleton.1 hx]; exact go 3 (.inr rfl)
      · cases hx
    · split at hx
      · cases hx
      · split at hx
        · rw [List.mem_singleton.1 hx]; exact go 1 (.inl rfl)
        · cases hx
theorem wait_out {M : MaM} (h : M.May) {ak : List MsM} (hb : M.ph ≠ 0 → ∃ (k : Nat) (c : MsM), M.now = k ∧ ak[k]? = some c ∧ c.pt = M.pt ∧ c.wt = M.want) : ∀ x ∈ waitL M, OkM ak x := fun x hx => by
  unfold waitL at hx
  by_cases hp : M.ph = 0
  · rw [if_pos hp] at hx
    cases hx
  · rw [if_neg hp] at hx
    split at hx
    · cases hx
    · split at hx
      · cases hx
      · rw [List.mem_singleton.1 hx]
        exact ⟨(May.busy h hp).ph, hb hp⟩
theorem heard_one (M : MaM) (a : MsM) : (heardL M a).length ≤ 1 := by
  unfold heardL
  repeat' split
  all_goals simp
theorem wait_one (M : MaM) : (waitL M).length ≤ 1 := by
  unfold waitL
  repeat' split
  all_goals simp
section
variable {pat lim P : Int} {T : Nat} {W : Wl}
theorem Inv.sent (h : Inv pat lim P T W) {M : MaM} {o : List MsM} (hm : M.May) (hs : Stays W.m M) (ho : ∀ x ∈ o, OkM W.asked x) : Inv pat lim P T (W.sent M o) := by
  refine ⟨hm, ⟨hs.pat.trans h.mp.1, hs.lim.trans h.mp.2⟩, hs.no.trans h.no, h.nT, h.l4, h.sm, h.sp, h.ak, fun x hx => ?_, fun x hx => ?_, h.up, fun hp => ?_, h.la, h.ar, h.ac⟩
  · rcases List.mem_append.1 hx with hx | hx
    · exact h.dn x hx
    · exact ho x hx
  · rcases List.mem_append.1 hx with hx | hx
    · exact h.od x hx
    · exact ho x hx
  · obtain ⟨h1, h2, h3, h4⟩ := hs.bz hp
    obtain ⟨k, c, q1, q2, q3, q4⟩ := h.bz h1
    exact ⟨k, c, h2.trans q1, q2, q3.trans h3.symm, q4.trans h4.symm⟩
theorem Inv.less (h : Inv pat lim P T W) {d : List MsM} (hd : ∀ x ∈ d, x ∈ W.down ∨ x ∈ W.old) : Inv pat lim P T (W.down1 d) := ⟨h.may, h.mp, h.no, h.nT, h.l4, h.sm, h.sp, h.ak, fun x hx => (hd x hx).elim (h.dn x) (h.od x), h.od, h.up, h.bz, h.la, h.ar, h.ac⟩
theorem Inv.less' (h : Inv pat lim P T W) {d : List MsM} (hd : ∀ x ∈ d, x ∈ W.up) : Inv pat lim P T (W.up1 d) := ⟨h.may, h.mp, h.no, h.nT, h.l4, h.sm, h.sp, h.ak, h.dn, h.od, fun x hx => h.up x (hd x hx), h.bz, h.la, h.ar, h.ac⟩
theorem Inv.mono (h : Inv pat lim P T W) {T' : Nat} (ht : T ≤ T') : Inv pat lim P T' W := ⟨h.may, h.mp, h.no, Nat.le_trans h.nT ht, h.l4, h.sm, h.sp, h.ak, h.dn, h.od, h.up, h.bz, h.la, h.ar, h.ac⟩
theorem pickedI_bd {n : Int} {f : Nat} (hf : 0 < f) : 0 ≤ pickedI n f ∧ pickedI n f < f := by
  unfold pickedI
  have hnn : 0 ≤ (if n < 0 then -(n + 1) else n) := by split <;> omega
  rw [Int.tmod_eq_emod_of_nonneg hnn]
  exact ⟨Int.emod_nonneg _ (by omega), Int.emod_lt_of_pos _ (by omega)⟩
theorem Inv.ask (h : Inv pat lim P T W) (t : TuM) (hT : T ≤ 1000) : Inv pat lim P (T + 1) (askW W t) := by
  unfold askW
  by_cases hc : (t.ask.tmod 2 = 1 ∨ t.ask.tmod 2 = -1) ∧ W.m.ph = 0
  · rw [if_pos hc]
    have hb := pickedI_bd (n := t.ask.tdiv 2) (f := 4) (by decide)
    obtain ⟨p, hp⟩ : ∃ p, p = pickedI (t.ask.tdiv 2) 4 := ⟨_, rfl⟩
    have hb' : 0 ≤ p ∧ p < 4 := by rw [hp]; exact hb
    rw [← hp]
    have hn := h.nT
    have hno := h.no
    have hnew : (W.asked ++ [⟨0, W.asked.length, p, t.want⟩])[W.asked.length]? = some ⟨0, W.asked.length, p, t.want⟩ := by
      rw [List.getElem?_append_right (Nat.le_refl _), Nat.sub_self]
      rfl
    have hself : OkM (W.asked ++ [⟨0, W.asked.length, p, t.want⟩]) (askM W.m p t.want).msg := ⟨.inl rfl, W.asked.length, _, hno, hnew, rfl, rfl⟩
    refine ⟨⟨h.may.pat, h.may.lim, ⟨by show 0 ≤ W.m.no + 1; omega, by show W.m.no + 1 ≤ _; omega⟩, .inr ⟨.inl rfl, by show W.m.no = W.m.no + 1 - 1; omega, ⟨hb'.1, by show p ≤ 15; omega⟩, ⟨Int.le_refl 0, by have := h.may.pat.1; show (0 : Int) ≤ W.m.pat - 1; omega⟩, ⟨Int.le_refl 1, h.may.lim.1⟩, rfl⟩⟩, h.mp, ?_, ?_, h.l4, h.sm, h.sp, ?_, ?_, ?_, h.up, ?_, ?_, ?_, h.ac⟩
    · show W.m.no + 1 = ((W.asked ++ [_]).length : Int)
      rw [List.length_append]
      show W.m.no + 1 = ((W.asked.length + 1 : Nat) : Int)
      omega
    · show (W.asked ++ [_]).length ≤ T + 1
      rw [List.length_append]
      show W.asked.length + 1 ≤ T + 1
      omega
    · intro k c hk
      have hk' : (W.asked ++ [⟨0, W.asked.length, p, t.want⟩])[k]? = some c := hk
      by_cases hl : k < W.asked.length
      · rw [List.getElem?_append_left hl] at hk'
        exact h.ak k c hk'
      · rw [List.getElem?_append_right (by omega)] at hk'
        have hlt := (List.getElem?_eq_some_iff.1 hk').1
        simp at hlt
        have e : k = W.asked.length := by omega
        subst e
        rw [Nat.sub_self] at hk'
        simp at hk'
        subst hk'
        exact ⟨rfl, hb'.1, by show p ≤ 3; omega⟩
    · intro x hx
      rcases List.mem_append.1 hx with hx | hx
      · exact OkM.more (h.dn x hx) _
      · rw [List.mem_singleton.1 hx]; exact hself
    · intro x hx
      rcases List.mem_append.1 hx with hx | hx
      · exact OkM.more (h.od x hx) _
      · rw [List.mem_singleton.1 hx]; exact hself
    · intro _
      exact ⟨W.asked.length, _, hno, hnew, rfl, rfl⟩
    · have := h.la
      show W.s.last < ((W.asked ++ [_]).length : Int)
      rw [List.length_append]
      show W.s.last < ((W.asked.length + 1 : Nat) : Int)
      omega
    · intro hne
      obtain ⟨k, c, q1, q2, q3⟩ := h.ar hne
      exact ⟨k, c, q1, by show (W.asked ++ [_])[k]? = _; rw [List.getElem?_append_left (List.getElem?_eq_some_iff.1 q2).1]; exact q2, q3⟩
  · rw [if_neg hc]
    exact h.mono (by omega)
theorem Inv.again (h : Inv pat lim P T W) (t : TuM) : Inv pat lim P T (againW W t) := by
  unfold againW
  by_cases hc : 0 < W.old.length ∧ t.again.tmod 3 = 1
  · rw [if_pos hc]
    refine h.less fun x hx => ?_
    rcases List.mem_append.1 hx with hx | hx
    · exact .inl hx
    · refine .inr ?_
      rw [List.mem_singleton.1 hx]
      have hb := pickedI_bd (n := t.again.tdiv 3) hc.1
      rw [List.getD_eq_getElem?_getD, List.getElem?_eq_getElem (by omega)]
      exact List.getElem_mem _
  · rw [if_neg hc]
    exact h
theorem mayS_iff {n : Nat} {S : StM} : mayS n S = true ↔ n ≤ 16 ∧ (1 ≤ S.pat ∧ S.pat ≤ 1000) ∧ (-1 ≤ S.last ∧ S.last ≤ 1000000000) ∧ ((S.armed = -1 ∧ S.point = 0 ∧ S.want = false ∧ S.left = 0) ∨ ((S.last + 1 ≤ S.armed ∧ S.armed ≤ 1000000000) ∧ (0 ≤ S.point ∧ S.point ≤ n - 1) ∧ (1 ≤ S.left ∧ S.left ≤ S.pat))) := by
  unfold mayS
  simp only [Bool.and_eq_true, Bool.or_eq_true, decide_eq_true_eq]
  constructor
  · rintro ⟨⟨⟨h0, h1⟩, h2⟩, h3⟩
    refine ⟨h0, h1, h2, ?_⟩
    rcases h3 with h3 | ⟨⟨h3, h4⟩, h5⟩
    · exact .inl h3
    · exact .inr ⟨h3, h4, h5⟩
  · rintro ⟨h0, h1, h2, h3⟩
    refine ⟨⟨⟨h0, h1⟩, h2⟩, ?_⟩
    rcases h3 with h3 | ⟨h3, h4, h5⟩
    · exact .inl h3
    · exact .inr ⟨⟨h3, h4⟩, h5⟩
theorem Inv.tickS (h : Inv pat lim P T W) : Inv pat lim P T W.tickS := by
  have hm := mayS_iff.1 h.sm
  obtain ⟨S, hS⟩ : ∃ S, S = Ytjhmendiefojoam.tickS W.s := ⟨_, rfl⟩
  have key : mayS 4 S = true ∧ S.pat = W.s.pat ∧ S.last = W.s.last ∧ (S.armed ≠ -1 → S.armed = W.s.armed ∧ S.point = W.s.point ∧ S.want = W.s.want) := by
    rw [hS]
    unfold Ytjhmendiefojoam.tickS
    split
    · exact ⟨h.sm, rfl, rfl, fun _ => ⟨rfl, rfl, rfl⟩⟩
    · next ha =>
      split
      · exact ⟨mayS_iff.2 ⟨hm.1, hm.2.1, hm.2.2.1, .inl ⟨rfl, rfl, rfl, rfl⟩⟩, rfl, rfl, fun e => absurd rfl e⟩
      · next hl =>
        refine ⟨mayS_iff.2 ⟨hm.1, hm.2.1, hm.2.2.1, .inr ?_⟩, rfl, rfl, fun _ => ⟨rfl, rfl, rfl⟩⟩
        rcases hm.2.2.2 with q | ⟨q1, q2, q3⟩
        · exact absurd q.1 ha
        · exact ⟨q1, q2, by show 1 ≤ W.s.left - 1 ∧ W.s.left - 1 ≤ W.s.pat; omega⟩
  obtain ⟨k1, k2, k3, k4⟩ := key
  unfold Wl.tickS
  rw [← hS]
  refine ⟨h.may, h.mp, h.no, h.nT, h.l4, k1, k2.trans h.sp, h.ak, h.dn, h.od, h.up, h.bz, ?_, ?_, ?_⟩
  · show S.last < _
    rw [k3]
    exact h.la
  · intro hne
    obtain ⟨q1, q2, q3⟩ := k4 hne
    have ha : W.s.armed ≠ -1 := by rw [← q1]; exact hne
    obtain ⟨k, c, r1, r2, r3, r4⟩ := h.ar ha
    exact ⟨k, c, q1.trans r1, r2, r3.trans q2.symm, r4.trans q3.symm⟩
  · show (W.acted = [] ∧ S.last = -1) ∨ (∃ a, W.acted = a ++ [S.last] ∧ 0 ≤ S.last)
    rw [k3]
    exact h.ac
/-- What comes of a message that is heard: nothing is carried out, or just what it tells. -/
theorem hear_cases (l : List Bool) (S : StM) (x : MsM) (_hk : x.kind = 1 ∨ x.kind = 3) (hl : l.length = 4) (hm : mayS 4 S = true) (hn : 0 ≤ x.no ∧ x.no ≤ 1000000000) :
    mayS 4 (hearS l S x).2.1 = true ∧ (hearS l S x).2.1.pat = S.pat ∧ (hearS l S x).1.length = 4 ∧ ((hearS l S x).2.2 = 0 ∨ (hearS l S x).2.2 = 2 ∨ (hearS l S x).2.2 = 4 ∨ (hearS l S x).2.2 = 5) ∧
    (((hearS l S x).1 = l ∧ (hearS l S x).2.1.last = S.last ∧ ((hearS l S x).2.1 = S ∨ ((hearS l S x).2.1.armed = x.no ∧ (hearS l S x).2.1.point = x.pt ∧ (hearS l S x).2.1.want = x.wt))) ∨
     ((hearS l S x).1 = l.set x.pt.toNat x.wt ∧ (0 ≤ x.pt ∧ x.pt < 4) ∧ S.last < x.no ∧ x.no = S.armed ∧ x.pt = S.point ∧ x.wt = S.want ∧ (hearS l S x).2.1 = ⟨x.no, -1, 0, false, 0, S.pat⟩)) := by
  have h := mayS_iff.1 hm
  unfold hearS
  by_cases hk1 : x.kind = 1
  · rw [if_pos hk1]
    split
    · exact ⟨hm, rfl, hl, by simp, .inl ⟨rfl, rfl, .inl rfl⟩⟩
    · split
      · exact ⟨hm, rfl, hl, by simp, .inl ⟨rfl, rfl, .inl rfl⟩⟩
      · split
        · exact ⟨hm, rfl, hl, by simp, .inl ⟨rfl, rfl, .inl rfl⟩⟩
        · next h1 h2 h3 =>
          have h3' : 0 ≤ x.pt ∧ x.pt ≤ (l.length : Int) - 1 := Classical.byContradiction h3
          refine ⟨mayS_iff.2 ⟨h.1, h.2.1, h.2.2.1, .inr ⟨?_, ?_, ?_⟩⟩, rfl, hl, by simp, .inl ⟨rfl, rfl, .inr ⟨rfl, rfl, rfl⟩⟩⟩
          · show S.last + 1 ≤ x.no ∧ x.no ≤ 1000000000
            omega
          · show 0 ≤ x.pt ∧ x.pt ≤ ((4 : Nat) : Int) - 1
            rw [hl] at h3'
            exact h3'
          · have := h.2.1
            show 1 ≤ S.pat ∧ S.pat ≤ S.pat
            omega
  · rw [if_neg hk1]
    split
    · exact ⟨hm, rfl, hl, by simp, .inl ⟨rfl, rfl, .inl rfl⟩⟩
    · split
      · exact ⟨hm, rfl, hl, by simp, .inl ⟨rfl, rfl, .inl rfl⟩⟩
      · split
        · exact ⟨hm, rfl, hl, by simp, .inl ⟨rfl, rfl, .inl rfl⟩⟩
        · next h1 h2 h3 =>
          have q1 : x.no = S.armed := Classical.byContradiction fun h => h3 (.inl h)
          have q2 : x.pt = S.point := Classical.byContradiction fun h => h3 (.inr (.inl h))
          have q3 : x.wt = S.want := Classical.byContradiction fun h => h3 (.inr (.inr h))
          have hb : 0 ≤ x.pt ∧ x.pt < 4 := by
            rcases h.2.2.2 with q | q
            · omega
            · omega
          refine ⟨mayS_iff.2 ⟨h.1, h.2.1, ⟨by show -1 ≤ x.no; omega, hn.2⟩, .inl ⟨rfl, rfl, rfl, rfl⟩⟩, rfl, by rw [List.length_set]; exact hl, by simp, .inr ⟨rfl, hb, by omega, q1, q2, q3, rfl⟩⟩
theorem reply_kind {x y : MsM} {r : Int} (hr : r = 0 ∨ r = 2 ∨ r = 4 ∨ r = 5) (h : y ∈ replyL x r) : y.kind = 2 ∨ y.kind = 4 ∨ y.kind = 5 := by
  unfold replyL at h
  split at h
  · cases h
  · rw [List.mem_singleton.1 h]
    show r = 2 ∨ r = 4 ∨ r = 5
    omega
theorem Inv.hear (h : Inv pat lim P T W) (hT : T ≤ 1000) {x : MsM} (hx : OkM W.asked x) : Inv pat lim P T (W.hear x) := by
  obtain ⟨hk, k, c, e1, e2, e3, e4⟩ := hx
  have hlt := (List.getElem?_eq_some_iff.1 e2).1
  have hn := h.nT
  obtain ⟨c1, c2, c3, c4, c5⟩ := hear_cases W.l W.s x hk h.l4 h.sm (by omega)
  unfold Wl.hear
  obtain ⟨l1, hl1⟩ : ∃ q, q = (hearS W.l W.s x).1 := ⟨_, rfl⟩
  obtain ⟨S, hS⟩ : ∃ q, q = (hearS W.l W.s x).2.1 := ⟨_, rfl⟩
  obtain ⟨r, hr⟩ : ∃ q, q = (hearS W.l W.s x).2.2 := ⟨_, rfl⟩
  rw [← hl1, ← hS, ← hr]
  rw [← hl1, ← hS] at c5
  rw [← hS] at c1 c2
  rw [← hl1] at c3
  rw [← hr] at c4
  refine ⟨h.may, h.mp, h.no, h.nT, c3, c1, c2.trans h.sp, h.ak, h.dn, h.od, ?_, h.bz, ?_, ?_, ?_⟩
  · intro y hy
    rcases List.mem_append.1 hy with hy | hy
    · exact h.up y hy
    · exact reply_kind c4 hy
  · show S.last < (W.asked.length : Int)
    rcases c5 with ⟨_, q, _⟩ | ⟨_, _, _, _, _, _, q⟩
    · rw [q]; exact h.la
    · rw [q]
      show x.no < _
      omega
  · intro hne
    have hne' : S.armed ≠ -1 := hne
    rcases c5 with ⟨_, _, q | ⟨q1, q2, q3⟩⟩ | ⟨_, _, _, _, _, _, q⟩
    · rw [q] at hne'
      obtain ⟨k', c', r1, r2, r3, r4⟩ := h.ar hne'
      exact ⟨k', c', by show S.armed = _; rw [q]; exact r1, r2, by show c'.pt = S.point; rw [q]; exact r3, by show c'.wt = S.want; rw [q]; exact r4⟩
    · exact ⟨k, c, q1.trans e1, e2, e3.trans q2.symm, e4.trans q3.symm⟩
    · rw [q] at hne'
      exact absurd rfl hne'
  · show ((if S.last ≠ W.s.last then W.acted ++ [S.last] else W.acted) = [] ∧ S.last = -1) ∨ (∃ a, (if S.last ≠ W.s.last then W.acted ++ [S.last] else W.acted) = a ++ [S.last] ∧ 0 ≤ S.last)
    rcases c5 with ⟨_, q, _⟩ | ⟨_, _, hl, _, _, _, q⟩
    · rw [if_neg (fun h => h q), q]
      exact h.ac
    · have hne : S.last ≠ W.s.last := by rw [q]; show x.no ≠ _; omega
      rw [if_pos hne]
      exact .inr ⟨W.acted, rfl, by rw [q]; show 0 ≤ x.no; omega⟩
theorem pickK_lt {n : Nat} {mix : Int} (hn : 0 < n) : pickK n mix < n := by
  unfold pickK
  split
  · have := pickedI_bd (n := mix.tdiv 3) hn
    omega
  · exact hn
theorem getD_msg {l : List MsM} {k : Nat} (h : k < l.length) : l.getD k noMsg ∈ l := by
  rw [List.getD_eq_getElem?_getD, List.getElem?_eq_getElem h]
  exact List.getElem_mem h
theorem Inv.downW (hT : T ≤ 1000) (come mix lose : Int) : ∀ (f i : Nat) {W : Wl}, f = W.down.length → Inv pat lim P T W → Inv pat lim P T (downW come mix lose f i W)
  | 0, _, _, _, h => h
  | f + 1, i, W, hf, h => by
    unfold Ytjhmendiefojoam.downW
    split
    · have hk := pickK_lt (n := W.down.length) (mix := wrap64 (mix + i)) (by omega)
      have hx := getD_msg hk
      obtain ⟨k, hkk⟩ : ∃ k, k = pickK W.down.length (wrap64 (mix + i)) := ⟨_, rfl⟩
      rw [← hkk] at hk hx ⊢
      have h1 : Inv pat lim P T (W.down1 (W.down.eraseIdx k)) := h.less fun y hy => .inl (List.mem_of_mem_eraseIdx hy)
      have hl1 : f = (W.down.eraseIdx k).length := by rw [List.length_eraseIdx_of_lt hk]; omega
      split
      · exact Inv.downW hT come mix lose f (i + 1) hl1 h1
      · exact Inv.downW hT come mix lose f (i + 1) hl1 (h1.hear hT (h.dn _ hx))
    · exact h
theorem Inv.upW (come mix : Int) (deaf : Bool) : ∀ (f i : Nat) {W : Wl}, f = W.up.length → Inv pat lim P T W → Inv pat lim P T (upW come mix deaf f i W)
  | 0, _, _, _, h => h
  | f + 1, i, W, hf, h => by
    unfold Ytjhmendiefojoam.upW
    split
    · have hk := pickK_lt (n := W.up.length) (mix := wrap64 (mix.tdiv 7 + i)) (by omega)
      obtain ⟨k, hkk⟩ : ∃ k, k = pickK W.up.length (wrap64 (mix.tdiv 7 + i)) := ⟨_, rfl⟩
      rw [← hkk] at hk ⊢
      have h1 : Inv pat lim P T (W.up1 (W.up.eraseIdx k)) := h.less' fun y hy => List.mem_of_mem_eraseIdx hy
      have hl1 : f = (W.up.eraseIdx k).length := by rw [List.length_eraseIdx_of_lt hk]; omega
      split
      · exact Inv.upW come mix deaf f (i + 1) hl1 h1
      · have hm := heard_may h.may (W.up.getD k noMsg)
        exact Inv.upW come mix deaf f (i + 1) hl1 (h1.sent hm.1 hm.2 (heard_out h.may _ h.bz))
    · exact h
theorem Inv.tick (h : Inv pat lim P T W) (t : TuM) (hT : T < 1000) : Inv pat lim P (T + 1) (tickW W t) := by
  have h1 := (h.ask t (by omega)).again t
  have h2 : Inv pat lim P (T + 1) (tickDn W t) := Inv.downW (by omega) _ _ _ _ 0 rfl h1
  have h3 : Inv pat lim P (T + 1) (tickUp (tickDn W t).tickS t) := Inv.upW _ _ _ _ 0 rfl h2.tickS
  have hm := wait_may h3.may
  exact h3.sent hm.1 hm.2 (wait_out h3.may h3.bz)
end
end Go.Proofs.Ytjhmendiefojoam
