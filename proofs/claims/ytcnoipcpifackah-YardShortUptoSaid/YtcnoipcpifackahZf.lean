/- What a move that is let through keeps: nothing live is earthed, and no Blade wakes or kills what is drawn. -/
import Derived.Test.YtcnoipcpifackahZ8
import Derived.Test.YtcnoipcpifackahZc
namespace Go.Proofs.Ytcnoipcpifackah
open Go.RowKit Go.Shelf

/-- Less that is joined: what is together there is together here. -/
theorem finer {n : Nat} {ds' ds : List DevM} (he' : Ends n ds') (he : Ends n ds) (hsub : ∀ d ∈ ds', d.joins = true → (grpL n ds).getD d.a.toNat 0 = (grpL n ds).getD d.b.toNat 0) {p q : Nat} (hp : p < n) (hq : q < n) (h : (grpL n ds').getD p 0 = (grpL n ds').getD q 0) : (grpL n ds).getD p 0 = (grpL n ds).getD q 0 := by
  have _ := he
  have h1 := grpL_only he' (fun x => (grpL n ds).getD x 0 = (grpL n ds).getD q 0) (fun d hd hj => by rw [hsub d hd hj]) hp hq h
  exact h1.2 rfl
/-- A device of the turned yard is one of the yard, or the turned one. -/
theorem turn_mem {y : YardM} {k : Nat} (hk : k < y.devs.length) {d : DevM} (hd : d ∈ (y.turn k).devs) : d ∈ y.devs ∨ d = (y.dev k).turn := by
  obtain ⟨i, hi, rfl⟩ := List.mem_iff_getElem.1 hd
  have hi' : i < y.devs.length := by simpa [YardM.turn] using hi
  simp only [YardM.turn, List.getElem_modify]
  split
  · rename_i e
    subst e
    refine .inr ?_
    have h1 := (dev_get hk).1
    rw [List.getElem?_eq_getElem hk] at h1
    injection h1 with h1
    rw [h1]
  · exact .inl (List.getElem_mem _)
theorem live_iff {y : YardM} {p : Nat} (hp : p < y.n) : y.live.getD p false = true ↔ ∃ q ∈ y.fed, y.grp.getD q.toNat 0 = y.grp.getD p 0 := withL_iff hp
theorem earthed_iff {y : YardM} {p : Nat} (hp : p < y.n) : y.earthed.getD p false = true ↔ ∃ q ∈ earthsL y.devs, y.grp.getD q.toNat 0 = y.grp.getD p 0 := withL_iff hp
theorem sound_iff {y : YardM} : soundB y = true ↔ ∀ p, p < y.n → ¬ (y.live.getD p false = true ∧ y.earthed.getD p false = true) := by
  unfold soundB
  rw [List.all_eq_true]
  constructor
  · intro h p hp ⟨h1, h2⟩
    have := h p (List.mem_range.2 hp)
    rw [h1, h2] at this
    cases this
  · intro h p hp
    have := h p (List.mem_range.1 hp)
    cases h1 : y.live.getD p false <;> cases h2 : y.earthed.getD p false <;> simp_all
theorem earth_mem {ds : List DevM} {x : Int} : x ∈ earthsL ds ↔ ∃ d ∈ ds, d.shut = true ∧ d.kind = 3 ∧ d.a = x := by
  unfold earthsL
  rw [List.mem_map]
  constructor
  · rintro ⟨d, hd, rfl⟩
    rw [List.mem_filter, Bool.and_eq_true, beq_iff_eq] at hd
    exact ⟨d, hd.1, hd.2.1, hd.2.2, rfl⟩
  · rintro ⟨d, hd, h1, h2, rfl⟩
    exact ⟨d, by rw [List.mem_filter, Bool.and_eq_true, beq_iff_eq]; exact ⟨hd, h1, h2⟩, rfl⟩
theorem joins_open {d : DevM} (h : d.shut = true) : d.turn.joins = false := by unfold DevM.joins DevM.turn; rw [h]; rfl
theorem joins_earth {d : DevM} (h : d.kind = 3) : d.turn.joins = false ∧ d.joins = false := by unfold DevM.joins DevM.turn; rw [h]; simp
/-- Where the turned device joins nothing, the turned yard joins less. -/
theorem turn_finer {y : YardM} (hm : MayY y) {k : Nat} (hk : k < y.devs.length) (hj : (y.dev k).turn.joins = false) {p q : Nat} (hp : p < y.n) (hq : q < y.n) (h : (y.turn k).grp.getD p 0 = (y.turn k).grp.getD q 0) : y.grp.getD p 0 = y.grp.getD q 0 := by
  refine finer (hm.turn k).ends hm.ends (fun d hd hjd => ?_) hp hq h
  rcases turn_mem hk hd with h1 | h1
  · exact grpL_joins hm.ends h1 hjd
  · rw [h1, hj] at hjd; cases hjd
theorem fed_in {y : YardM} (hm : MayY y) {q : Int} (hq : q ∈ y.fed) : q.toNat < y.n := by
  have := hm.f.at hq
  have := hm.n_le
  omega
theorem drawn_in {y : YardM} (hm : MayY y) {q : Int} (hq : q ∈ y.drawn) : q.toNat < y.n := by
  have := hm.w.at hq
  have := hm.n_le
  omega
theorem earths_in {y : YardM} (hm : MayY y) {q : Int} (hq : q ∈ earthsL y.devs) : q.toNat < y.n := by
  have := hm.earths hq
  have := hm.n_le
  omega
/-- A move that is let through leaves nothing live that is earthed. -/
theorem turn_sound {y : YardM} (hm : MayY y) (hs : soundB y = true) {k : Nat} (hk : k < y.devs.length) (he : moveErr y k = 0) : soundB (y.turn k) = true := by
  have hsi := sound_iff.1 hs
  by_cases hsh : (y.dev k).shut = true
  · have hj := joins_open hsh
    rw [sound_iff]
    rintro p hp ⟨h1, h2⟩
    have hp' : p < y.n := hp
    obtain ⟨q, hq, e⟩ := (live_iff hp).1 h1
    obtain ⟨r, hr, e2⟩ := (earthed_iff hp).1 h2
    have hr' : r ∈ earthsL y.devs := by
      obtain ⟨d, hd, g1, g2, g3⟩ := earth_mem.1 hr
      rcases turn_mem hk hd with h3 | h3
      · exact earth_mem.2 ⟨d, h3, g1, g2, g3⟩
      · rw [h3] at g1; unfold DevM.turn at g1; rw [hsh] at g1; cases g1
    exact hsi p hp' ⟨(live_iff hp').2 ⟨q, hq, turn_finer hm hk hj (fed_in hm hq) hp' e⟩, (earthed_iff hp').2 ⟨r, hr', turn_finer hm hk hj (earths_in hm hr') hp' e2⟩⟩
  · rw [Bool.not_eq_true] at hsh
    obtain ⟨h1, h2, h3⟩ := move_err hm hk
    by_cases hk3 : (y.dev k).kind = 3
    · have hj := (joins_earth hk3).1
      have hlive : y.live.getD (y.dev k).a.toNat false = false := by
        cases hl : y.live.getD (y.dev k).a.toNat false with
        | false => rfl
        | true => rw [(h2 hsh hk3).1 hl] at he; cases he
      rw [sound_iff]
      rintro p hp ⟨g1, g2⟩
      have hp' : p < y.n := hp
      obtain ⟨q, hq, e⟩ := (live_iff hp).1 g1
      obtain ⟨r, hr, e2⟩ := (earthed_iff hp).1 g2
      have hlp : y.live.getD p false = true := (live_iff hp').2 ⟨q, hq, turn_finer hm hk hj (fed_in hm hq) hp' e⟩
      obtain ⟨d, hd, d1, d2, d3⟩ := earth_mem.1 hr
      have hrn : r.toNat < y.n := earths_in (hm.turn k) hr
      have e3 := turn_finer hm hk hj hrn hp' e2
      rcases turn_mem hk hd with h4 | h4
      · exact hsi p hp' ⟨hlp, (earthed_iff hp').2 ⟨r, earth_mem.2 ⟨d, h4, d1, d2, d3⟩, e3⟩⟩
      · have hra : r = (y.dev k).a := by rw [← d3, h4]; rfl
        obtain ⟨q2, hq2, e4⟩ := (live_iff hp').1 hlp
        have : y.live.getD (y.dev k).a.toNat false = true := (live_iff (by rw [← hra]; exact hrn)).2 ⟨q2, hq2, by rw [← hra, e4, e3]⟩
        rw [hlive] at this; cases this
    · have hl : (y.dev k).kind = 2 → loadB y k = false := fun h => by
        cases hb : loadB y k with
        | false => rfl
        | true => rw [move_err2 h hb] at he; cases he
      cases hb : soundB (y.turn k) with
      | true => rfl
      | false => rw [(h3 hsh hk3 hl).1 hb] at he; cases he
/-- Closing a Blade that bears nothing: what is drawn is live if it was. -/
theorem blade_close {o : YardM} (hm : MayY o) {k : Nat} (hk : k < o.devs.length) (hk2 : (o.dev k).kind = 2) (hsh : (o.dev k).shut = false) (hl : loadB o k = false) {d : Int} (hd : d ∈ o.drawn) : (o.turn k).live.getD d.toNat false = o.live.getD d.toNat false := by
  have hdn := drawn_in hm hd
  obtain ⟨A, hA, hAn⟩ := dev_a hm hk
  obtain ⟨B, hB, hBn⟩ := dev_b hm hk (by rw [hk2]; decide)
  have hop : o.opened k = o := by unfold YardM.opened; rw [hsh]; rfl
  unfold loadB at hl
  rw [hop, hA, hB, Int.toNat_natCast, Int.toNat_natCast] at hl
  -- what is together in the opened yard is so in the closed one
  have hback : ∀ {p q : Nat}, p < o.n → q < o.n → o.grp.getD p 0 = o.grp.getD q 0 → (o.turn k).grp.getD p 0 = (o.turn k).grp.getD q 0 := fun {p q} hp hq h => by
    refine finer hm.ends (hm.turn k).ends (fun e he hj => ?_) hp hq h
    refine grpL_joins (hm.turn k).ends (d := e) ?_ hj
    obtain ⟨i, hi, rfl⟩ := List.mem_iff_getElem.1 he
    have hik : i ≠ k := fun e2 => by
      subst e2
      have h1 := (dev_get hk).1
      rw [List.getElem?_eq_getElem hk] at h1
      injection h1 with h1
      unfold DevM.joins at hj
      rw [h1, hsh] at hj; cases hj
    have hi2 : i < (o.turn k).devs.length := by rw [turn_len]; exact hi
    have : (o.turn k).devs[i] = o.devs[i] := by simp only [YardM.turn, List.getElem_modify]; rw [if_neg (fun e => hik e.symm)]
    rw [← this]
    exact List.getElem_mem hi2
  -- whatever holds alike of both ends, and of what is together, holds alike of what the closed yard has together
  have hfront : ∀ (T : Nat → Prop), (∀ p q, p < o.n → q < o.n → o.grp.getD p 0 = o.grp.getD q 0 → (T p ↔ T q)) → (T A ↔ T B) → ∀ {p q : Nat}, p < o.n → q < o.n → (o.turn k).grp.getD p 0 = (o.turn k).grp.getD q 0 → (T p ↔ T q) := fun T hT hAB {p q} hp hq h => by
    refine grpL_only (hm.turn k).ends T (fun e he hj => ?_) hp hq h
    rcases turn_mem hk he with h1 | h1
    · have h2 := hm.ends e h1 hj
      exact hT _ _ h2.1 h2.2 (grpL_joins hm.ends h1 hj)
    · have e1 : e.a.toNat = A := by rw [h1]; show (o.dev k).a.toNat = A; rw [hA, Int.toNat_natCast]
      have e2 : e.b.toNat = B := by rw [h1]; show (o.dev k).b.toNat = B; rw [hB, Int.toNat_natCast]
      rw [e1, e2]; exact hAB
  have hlv : ∀ p q, p < o.n → q < o.n → o.grp.getD p 0 = o.grp.getD q 0 → (o.live.getD p false = true ↔ o.live.getD q false = true) := fun p q hp hq e => by
    rw [live_iff hp, live_iff hq, e]
  have hld : ∀ {p : Nat}, p < o.n → (o.load.getD p false = true ↔ ∃ q ∈ o.drawn, o.grp.getD q.toNat 0 = o.grp.getD p 0) := fun hp => withL_iff hp
  rw [Bool.eq_iff_iff]
  constructor
  · intro h
    obtain ⟨q, hq, e⟩ := (live_iff (y := o.turn k) hdn).1 h
    have hqn := fed_in hm hq
    have hql : o.live.getD q.toNat false = true := (live_iff hqn).2 ⟨q, hq, rfl⟩
    -- a live end and a dead one: the dead one's group isn't drawn from
    have side : ∀ X Y : Nat, X < o.n → Y < o.n → ((o.live.getD A false = true ∨ o.grp.getD A 0 = o.grp.getD Y 0) ↔ (o.live.getD B false = true ∨ o.grp.getD B 0 = o.grp.getD Y 0)) → o.load.getD Y false = false → o.live.getD d.toNat false = true := fun X Y hX hY hAB hno => by
      have _ := hX
      have h1 := (hfront (fun p => o.live.getD p false = true ∨ o.grp.getD p 0 = o.grp.getD Y 0) (fun p q hp hq e => by rw [hlv p q hp hq e, e]) hAB hqn hdn e).1 (.inl hql)
      rcases h1 with h1 | h1
      · exact h1
      · exfalso
        have h2 := (hld hY).2 ⟨d, hd, h1⟩
        rw [hno] at h2; cases h2
    cases hla : o.live.getD A false <;> cases hlb : o.live.getD B false
    · exact (hfront (fun p => o.live.getD p false = true) hlv (by rw [hla, hlb]) hqn hdn e).1 hql
    · refine side B A hBn hAn (by rw [hlb]; simp) ?_
      have hne : (o.grp.getD A 0 == o.grp.getD B 0) = false := by
        rw [beq_eq_false_iff_ne]
        intro e2
        have := (hlv A B hAn hBn e2).2 hlb
        rw [hla] at this; cases this
      rw [hne] at hl
      unfold ontoB at hl
      rw [hla, hlb] at hl
      simpa using hl
    · refine side A B hAn hBn (by rw [hla]; simp) ?_
      have hne : (o.grp.getD A 0 == o.grp.getD B 0) = false := by
        rw [beq_eq_false_iff_ne]
        intro e2
        have := (hlv A B hAn hBn e2).1 hla
        rw [hlb] at this; cases this
      rw [hne] at hl
      unfold ontoB at hl
      rw [hla, hlb] at hl
      simpa using hl
    · exact (hfront (fun p => o.live.getD p false = true) hlv (by rw [hla, hlb]) hqn hdn e).1 hql
  · intro h
    obtain ⟨q, hq, e⟩ := (live_iff hdn).1 h
    exact (live_iff (y := o.turn k) hdn).2 ⟨q, hq, hback (fed_in hm hq) hdn e⟩
theorem turn_dev {y : YardM} {k : Nat} (hk : k < y.devs.length) : (y.turn k).dev k = (y.dev k).turn := by
  unfold YardM.dev YardM.turn
  rw [List.getElem?_modify_eq, List.getElem?_eq_getElem hk]; rfl
theorem turn_turn (y : YardM) (k : Nat) : (y.turn k).turn k = y := by
  obtain ⟨p, f, w, ds⟩ := y
  unfold YardM.turn
  congr 1
  refine List.ext_getElem (by simp) fun i h1 h2 => ?_
  simp only [List.getElem_modify]
  split
  · unfold DevM.turn; simp
  · rfl
/-- No Blade that is let through wakes or kills what is drawn. -/
theorem blade_same {y : YardM} (hm : MayY y) {k : Nat} (hk : k < y.devs.length) (hk2 : (y.dev k).kind = 2) (hl : loadB y k = false) {d : Int} (hd : d ∈ y.drawn) : (y.turn k).live.getD d.toNat false = y.live.getD d.toNat false := by
  cases hsh : (y.dev k).shut with
  | false => exact blade_close hm hk hk2 hsh hl hd
  | true =>
    have e1 := turn_dev hk
    have h1 : ((y.turn k).dev k).shut = false := by rw [e1]; unfold DevM.turn; rw [hsh]; rfl
    have h2 : ((y.turn k).dev k).kind = 2 := by rw [e1]; exact hk2
    have ho1 : (y.turn k).opened k = y.turn k := by unfold YardM.opened; rw [h1]; rfl
    have ho2 : y.opened k = y.turn k := by unfold YardM.opened; rw [hsh]; rfl
    have h3 : loadB (y.turn k) k = false := by
      unfold loadB at hl ⊢
      rw [ho1, e1]
      rw [ho2] at hl
      exact hl
    have h4 := blade_close (hm.turn k) (by rw [turn_len]; exact hk) h2 h1 h3 (d := d) hd
    rw [turn_turn] at h4
    exact h4.symm
end Go.Proofs.Ytcnoipcpifackah
