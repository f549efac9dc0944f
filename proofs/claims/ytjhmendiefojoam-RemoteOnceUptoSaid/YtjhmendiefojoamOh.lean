/- The station hears, whatever it is that was sent. -/
import Derived.Test.YtjhmendiefojoamOg
import Derived.Test.YtjhmendiefojoamPb
namespace Go.Proofs.Ytjhmendiefojoam
open Go.RowKit Go.Shelf

theorem hear_any {pat lim P : Int} {T : Nat} (W : Wl) (B K : Nat) (pv dv uv ov av cv : Value) (x : MsM) (w : World) (hW : WAt w B K W pv dv uv ov av cv) (h : Inv pat lim P T W) (hT : T ≤ 1000) (hx : OkM W.asked x) (hup : W.up.length ≤ 1000000) (hac : W.acted.length ≤ 1000000) : Calls Try.prog 40 #[.pointer (some ⟨K, 0, none⟩), .agg x.cells] w fun e w' => e = .returned (.bool true) ∧ (∃ pv' uv' cv', WAt w' B K (W.hear x) pv' dv uv' ov av cv') ∧ Bl B w w' := by
  obtain ⟨hk, k, c, e1, e2, e3, e4⟩ := id hx
  have hlt := (List.getElem?_eq_some_iff.1 e2).1
  have hn := h.nT
  obtain ⟨pa, pc, hpe⟩ := own_slice hW.pts
  rw [h.l4] at hpe
  subst hpe
  have hpts := hW.pts
  rw [h.l4] at hpts
  have hH : ∀ w', Below w.heap.size w w' → Calls Try.prog 52 #[.agg (W.s.cells (.slice pa 4 pc)), .agg x.cells] w' (HearO (hearS W.l W.s x).1 (hearS W.l W.s x).2.1 (replyL x (hearS W.l W.s x).2.2) 0 w') := fun w' hb => Hear_ok W.s x W.l 4 pc pa w' (rowAt_of_own (own_below hpts hb (Nat.le_refl _))) h.l4 (by decide) h.sm hk (by omega)
  obtain ⟨c1, c2, c3, c4, c5⟩ := hear_cases W.l W.s x hk h.l4 h.sm (by omega)
  have hrs : (replyL x (hearS W.l W.s x).2.2).length ≤ 1 := by unfold replyL; split <;> simp
  by_cases hl : (hearS W.l W.s x).2.1.last = W.s.last
  · have hll : (hearS W.l W.s x).1 = W.l := by
      rcases c5 with ⟨q, _⟩ | ⟨_, _, q1, _, _, _, q⟩
      · exact q
      · rw [q] at hl
        have : x.no = W.s.last := hl
        omega
    refine (hear_same W B K pa pc dv uv ov av cv x w hW h.l4 _ _ _ hH c3 hrs hup (by omega) hl hll h.la).mono ?_
    rintro e w' ⟨q1, ⟨pv', uv', q2⟩, q3⟩
    refine ⟨q1, ⟨pv', uv', cv, ?_⟩, q3⟩
    unfold Wl.hear
    rw [if_neg (fun q => q hl)]
    exact q2
  · rcases c5 with ⟨_, q, _⟩ | ⟨q0, qb, q1, q2, q3, q4, q⟩
    · exact absurd q hl
    · have hlast : (hearS W.l W.s x).2.1.last = x.no := by rw [q]
      refine (hear_act W B K pa pc dv uv ov av cv x w hW h.l4 _ _ _ hH c3 hrs hup (by omega) hl (by rw [hlast]; omega) (by rw [hlast]; omega) ?_ ?_ hac).mono ?_
      · intro i hi c' hc'
        rw [hlast, e1, Int.toNat_natCast, e2] at hc'
        cases hc'
        rw [q0]
        refine ⟨fun hp => ?_, fun hp => ?_⟩
        · have hpi : x.pt.toNat = i := by omega
          rw [hpi, List.getD_eq_getElem?_getD, List.getElem?_set, if_pos rfl, if_pos (by rw [h.l4]; exact hi)]
          exact e4.symm
        · have hpi : x.pt.toNat ≠ i := by omega
          rw [List.getD_eq_getElem?_getD, List.getElem?_set, if_neg hpi, ← List.getD_eq_getElem?_getD]
      · rcases h.ac with ⟨q5, _⟩ | ⟨a, q5, _⟩
        · exact .inl q5
        · exact .inr ⟨a, _, q5, by rw [hlast]; exact q1⟩
      · rintro e w' ⟨r1, ⟨pv', uv', cv', r2⟩, r3⟩
        refine ⟨r1, ⟨pv', uv', cv', ?_⟩, r3⟩
        unfold Wl.hear
        rw [if_pos hl]
        exact r2
/-- How much there is, on the way and behind. -/
structure Sz (T : Nat) (W : Wl) : Prop where
  a : W.down.length + W.up.length ≤ 3 * T
  o : W.old.length ≤ 1000 * T
  c : W.acted.length ≤ 1000 * T
theorem reply_one (x : MsM) (r : Int) : (replyL x r).length ≤ 1 := by unfold replyL; split <;> simp
theorem hear_sz (W : Wl) (x : MsM) : (W.hear x).down = W.down ∧ (W.hear x).up.length ≤ W.up.length + 1 ∧ (W.hear x).old = W.old ∧ (W.hear x).acted.length ≤ W.acted.length + 1 := by
  unfold Wl.hear
  refine ⟨rfl, ?_, rfl, ?_⟩
  · show (W.up ++ _).length ≤ _
    rw [List.length_append]
    have := reply_one x (hearS W.l W.s x).2.2
    omega
  · show (if _ then _ else _ : List Int).length ≤ _
    split
    · rw [List.length_append]
      exact Nat.le_refl _
    · omega
theorem downW_sz (come mix lose : Int) : ∀ (f i : Nat) {W : Wl}, f = W.down.length → (downW come mix lose f i W).down.length + (downW come mix lose f i W).up.length ≤ W.down.length + W.up.length ∧ (downW come mix lose f i W).acted.length + (downW come mix lose f i W).down.length ≤ W.acted.length + W.down.length ∧ (downW come mix lose f i W).old = W.old
  | 0, _, W, _ => ⟨Nat.le_refl _, Nat.le_refl _, rfl⟩
  | f + 1, i, W, hf => by
    unfold Ytjhmendiefojoam.downW
    split
    · have hk := pickK_lt (n := W.down.length) (mix := wrap64 (mix + i)) (by omega)
      obtain ⟨k, hkk⟩ : ∃ k, k = pickK W.down.length (wrap64 (mix + i)) := ⟨_, rfl⟩
      rw [← hkk] at hk ⊢
      have hl1 : (W.down.eraseIdx k).length = W.down.length - 1 := List.length_eraseIdx_of_lt hk
      split
      · obtain ⟨h1, h2, h3⟩ := downW_sz come mix lose f (i + 1) (W := W.down1 (W.down.eraseIdx k)) (by show f = (W.down.eraseIdx k).length; omega)
        have e1 : (W.down1 (W.down.eraseIdx k)).down = W.down.eraseIdx k := rfl
        have e2 : (W.down1 (W.down.eraseIdx k)).up = W.up := rfl
        have e3 : (W.down1 (W.down.eraseIdx k)).acted = W.acted := rfl
        rw [e1, e2] at h1
        rw [e1, e3] at h2
        exact ⟨by omega, by omega, h3⟩
      · obtain ⟨s1, s2, s3, s4⟩ := hear_sz (W.down1 (W.down.eraseIdx k)) (W.down.getD k noMsg)
        have e1 : (W.down1 (W.down.eraseIdx k)).down = W.down.eraseIdx k := rfl
        have e2 : (W.down1 (W.down.eraseIdx k)).up = W.up := rfl
        have e3 : (W.down1 (W.down.eraseIdx k)).acted = W.acted := rfl
        obtain ⟨h1, h2, h3⟩ := downW_sz come mix lose f (i + 1) (W := (W.down1 (W.down.eraseIdx k)).hear (W.down.getD k noMsg)) (by rw [s1, e1]; omega)
        rw [s1, e1] at h1 h2
        rw [e2] at s2
        rw [e3] at s4
        exact ⟨by omega, by omega, h3.trans s3⟩
    · exact ⟨Nat.le_refl _, Nat.le_refl _, rfl⟩
theorem upW_sz (come mix : Int) (deaf : Bool) : ∀ (f i : Nat) {W : Wl}, f = W.up.length → (upW come mix deaf f i W).down.length + (upW come mix deaf f i W).up.length ≤ W.down.length + W.up.length ∧ (upW come mix deaf f i W).old.length + (upW come mix deaf f i W).up.length ≤ W.old.length + W.up.length ∧ (upW come mix deaf f i W).acted = W.acted
  | 0, _, W, _ => ⟨Nat.le_refl _, Nat.le_refl _, rfl⟩
  | f + 1, i, W, hf => by
    unfold Ytjhmendiefojoam.upW
    split
    · have hk := pickK_lt (n := W.up.length) (mix := wrap64 (mix.tdiv 7 + i)) (by omega)
      obtain ⟨k, hkk⟩ : ∃ k, k = pickK W.up.length (wrap64 (mix.tdiv 7 + i)) := ⟨_, rfl⟩
      rw [← hkk] at hk ⊢
      have hl1 : (W.up.eraseIdx k).length = W.up.length - 1 := List.length_eraseIdx_of_lt hk
      split
      · obtain ⟨h1, h2, h3⟩ := upW_sz come mix deaf f (i + 1) (W := W.up1 (W.up.eraseIdx k)) (by show f = (W.up.eraseIdx k).length; omega)
        have e1 : (W.up1 (W.up.eraseIdx k)).up = W.up.eraseIdx k := rfl
        have e2 : (W.up1 (W.up.eraseIdx k)).down = W.down := rfl
        have e3 : (W.up1 (W.up.eraseIdx k)).old = W.old := rfl
        rw [e1, e2] at h1
        rw [e1, e3] at h2
        exact ⟨by omega, by omega, h3⟩
      · have ho := heard_one W.m (W.up.getD k noMsg)
        obtain ⟨h1, h2, h3⟩ := upW_sz come mix deaf f (i + 1) (W := (W.up1 (W.up.eraseIdx k)).sent (heardM W.m (W.up.getD k noMsg)) (heardL W.m (W.up.getD k noMsg))) (by show f = (W.up.eraseIdx k).length; omega)
        have e1 : ((W.up1 (W.up.eraseIdx k)).sent (heardM W.m (W.up.getD k noMsg)) (heardL W.m (W.up.getD k noMsg))).up = W.up.eraseIdx k := rfl
        have e2 : ((W.up1 (W.up.eraseIdx k)).sent (heardM W.m (W.up.getD k noMsg)) (heardL W.m (W.up.getD k noMsg))).down = W.down ++ heardL W.m (W.up.getD k noMsg) := rfl
        have e3 : ((W.up1 (W.up.eraseIdx k)).sent (heardM W.m (W.up.getD k noMsg)) (heardL W.m (W.up.getD k noMsg))).old = W.old ++ heardL W.m (W.up.getD k noMsg) := rfl
        rw [e1, e2, List.length_append] at h1
        rw [e1, e3, List.length_append] at h2
        exact ⟨by omega, by omega, h3⟩
    · exact ⟨Nat.le_refl _, Nat.le_refl _, rfl⟩
/-- How much there is behind what is asked. -/
theorem ask_sz {T : Nat} {W : Wl} (h : Sz T W) (t : TuM) : (againW (askW W t) t).down.length + (againW (askW W t) t).up.length ≤ 3 * T + 2 ∧ (againW (askW W t) t).old.length ≤ 1000 * T + 1 ∧ (againW (askW W t) t).acted.length ≤ 1000 * T := by
  have ha := h.a
  have ho := h.o
  have hc := h.c
  have h1 : (askW W t).down.length + (askW W t).up.length ≤ 3 * T + 1 ∧ (askW W t).old.length ≤ 1000 * T + 1 ∧ (askW W t).acted.length ≤ 1000 * T := by
    unfold askW
    split
    · refine ⟨?_, ?_, hc⟩
      · show (W.down ++ [_]).length + W.up.length ≤ _
        rw [List.length_append]
        show W.down.length + 1 + W.up.length ≤ _
        omega
      · show (W.old ++ [_]).length ≤ _
        rw [List.length_append]
        show W.old.length + 1 ≤ _
        omega
    · exact ⟨by omega, by omega, hc⟩
  unfold againW
  split
  · refine ⟨?_, h1.2.1, h1.2.2⟩
    show ((askW W t).down ++ [_]).length + (askW W t).up.length ≤ _
    rw [List.length_append]
    show (askW W t).down.length + 1 + (askW W t).up.length ≤ _
    omega
  · exact ⟨by omega, h1.2.1, h1.2.2⟩
theorem Sz.tick {T : Nat} {W : Wl} (h : Sz T W) (hT : T ≤ 300) (t : TuM) : Sz (T + 1) (tickW W t) := by
  obtain ⟨a1, a2, a3⟩ := ask_sz h t
  obtain ⟨d1, d2, d3⟩ := downW_sz t.come t.mix t.lose _ 0 (W := againW (askW W t) t) rfl
  obtain ⟨u1, u2, u3⟩ := upW_sz t.come t.mix t.deaf _ 0 (W := (tickDn W t).tickS) rfl
  have e1 : (tickDn W t).tickS.down = (tickDn W t).down := rfl
  have e2 : (tickDn W t).tickS.up = (tickDn W t).up := rfl
  have e3 : (tickDn W t).tickS.old = (tickDn W t).old := rfl
  have e4 : (tickDn W t).tickS.acted = (tickDn W t).acted := rfl
  rw [e1, e2] at u1
  rw [e2, e3] at u2
  rw [e4] at u3
  have hw := wait_one (tickUp (tickDn W t).tickS t).m
  have d3' : (tickDn W t).old.length = (againW (askW W t) t).old.length := by show (downW _ _ _ _ _ _).old.length = _; rw [d3]
  have d1' : (tickDn W t).down.length + (tickDn W t).up.length ≤ (againW (askW W t) t).down.length + (againW (askW W t) t).up.length := d1
  have d2' : (tickDn W t).acted.length + (tickDn W t).down.length ≤ (againW (askW W t) t).acted.length + (againW (askW W t) t).down.length := d2
  have u1' : (tickUp (tickDn W t).tickS t).down.length + (tickUp (tickDn W t).tickS t).up.length ≤ (tickDn W t).down.length + (tickDn W t).up.length := u1
  have u2' : (tickUp (tickDn W t).tickS t).old.length + (tickUp (tickDn W t).tickS t).up.length ≤ (tickDn W t).old.length + (tickDn W t).up.length := u2
  have u3' : (tickUp (tickDn W t).tickS t).acted = (tickDn W t).acted := u3
  refine ⟨?_, ?_, ?_⟩
  · show ((tickUp (tickDn W t).tickS t).down ++ waitL _).length + (tickUp (tickDn W t).tickS t).up.length ≤ _
    rw [List.length_append]
    omega
  · show ((tickUp (tickDn W t).tickS t).old ++ waitL _).length ≤ _
    rw [List.length_append]
    omega
  · show (tickUp (tickDn W t).tickS t).acted.length ≤ _
    rw [u3']
    omega
end Go.Proofs.Ytjhmendiefojoam
