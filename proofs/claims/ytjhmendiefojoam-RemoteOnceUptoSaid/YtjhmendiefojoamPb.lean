/- When nothing is lost any more (pure). -/
import Derived.Test.YtjhmendiefojoamPa
namespace Go.Proofs.Ytjhmendiefojoam
open Go.RowKit Go.Shelf

def qturn (i : Nat) (W : Wl) : TuM := if W.m.ph = 0 ∧ i < 10 then ⟨3, true, 9, 0, 0, 0, false⟩ else ⟨0, false, 9, 0, 0, 0, false⟩
theorem dn0 {W : Wl} (h : W.down = []) : downW 9 0 0 W.down.length 0 W = W := by rw [h]; rfl
theorem dn1 {W : Wl} {x : MsM} (h : W.down = [x]) : downW 9 0 0 W.down.length 0 W = (W.down1 []).hear x := by
  rw [show W.down.length = 0 + 1 by rw [h]; rfl]
  unfold Ytjhmendiefojoam.downW
  rw [if_pos (by decide), show lostB 0 0 = false by decide, h]
  have hp : pickK [x].length (wrap64 (0 + ((0 : Nat) : Int))) = 0 := by unfold pickK; rw [if_neg (by simp)]
  rw [hp]
  rfl
theorem up0 {W : Wl} (h : W.up = []) : upW 9 0 false W.up.length 0 W = W := by rw [h]; rfl
theorem up1 {W : Wl} {x : MsM} (h : W.up = [x]) : upW 9 0 false W.up.length 0 W = (W.up1 []).sent (heardM W.m x) (heardL W.m x) := by
  rw [show W.up.length = 0 + 1 by rw [h]; rfl]
  unfold Ytjhmendiefojoam.upW
  rw [if_pos (by decide), h]
  have hp : pickK [x].length (wrap64 ((0 : Int).tdiv 7 + ((0 : Nat) : Int))) = 0 := by unfold pickK; rw [if_neg (by simp)]
  rw [hp]
  rfl
/-- A tick behind what is asked: what was heard down there goes up. -/
def qt (W : Wl) : Wl := (tickUp W.tickS ⟨0, false, 9, 0, 0, 0, false⟩).sent (waitM (tickUp W.tickS ⟨0, false, 9, 0, 0, 0, false⟩).m) (waitL (tickUp W.tickS ⟨0, false, 9, 0, 0, 0, false⟩).m)
theorem qt0 {W : Wl} (h : W.up = []) : qt W = W.tickS.sent (waitM W.m) (waitL W.m) := by
  have e : tickUp W.tickS ⟨0, false, 9, 0, 0, 0, false⟩ = W.tickS := up0 (W := W.tickS) h
  unfold qt
  rw [e]
  rfl
theorem qt1 {W : Wl} {x : MsM} (h : W.up = [x]) : qt W = ((W.tickS.up1 []).sent (heardM W.m x) (heardL W.m x)).sent (waitM (heardM W.m x)) (waitL (heardM W.m x)) := by
  have e : tickUp W.tickS ⟨0, false, 9, 0, 0, 0, false⟩ = (W.tickS.up1 []).sent (heardM W.m x) (heardL W.m x) := up1 (W := W.tickS) h
  unfold qt
  rw [e]
  rfl
theorem q_rest {W : Wl} {i : Nat} (h : ¬ (W.m.ph = 0 ∧ i < 10)) (hd : W.down = []) : tickW W (qturn i W) = qt W := by
  have e : qturn i W = ⟨0, false, 9, 0, 0, 0, false⟩ := by unfold qturn; rw [if_neg h]
  rw [e]
  have e1 : askW W ⟨0, false, 9, 0, 0, 0, false⟩ = W := by unfold askW; rw [if_neg (fun h => by have := h.1; revert this; decide)]
  have e2 : againW W ⟨0, false, 9, 0, 0, 0, false⟩ = W := by unfold againW; rw [if_neg (fun h => by have := h.2; revert this; decide)]
  have e3 : tickDn W ⟨0, false, 9, 0, 0, 0, false⟩ = W := by unfold tickDn; rw [e1, e2]; exact dn0 hd
  unfold tickW qt
  rw [e3]
theorem q_hear {W : Wl} {i : Nat} {x : MsM} (h : ¬ (W.m.ph = 0 ∧ i < 10)) (hd : W.down = [x]) : tickW W (qturn i W) = qt ((W.down1 []).hear x) := by
  have e : qturn i W = ⟨0, false, 9, 0, 0, 0, false⟩ := by unfold qturn; rw [if_neg h]
  rw [e]
  have e1 : askW W ⟨0, false, 9, 0, 0, 0, false⟩ = W := by unfold askW; rw [if_neg (fun h => by have := h.1; revert this; decide)]
  have e2 : againW W ⟨0, false, 9, 0, 0, 0, false⟩ = W := by unfold againW; rw [if_neg (fun h => by have := h.2; revert this; decide)]
  have e3 : tickDn W ⟨0, false, 9, 0, 0, 0, false⟩ = (W.down1 []).hear x := by unfold tickDn; rw [e1, e2]; exact dn1 hd
  unfold tickW qt
  rw [e3]
def asked1 (W : Wl) : Wl := ⟨askM W.m 1 true, W.l, W.s, [], W.up, W.old ++ [(askM W.m 1 true).msg], W.asked ++ [⟨0, W.asked.length, 1, true⟩], W.acted⟩
theorem q_ask {W : Wl} {i : Nat} (h : W.m.ph = 0 ∧ i < 10) (hd : W.down = []) : tickW W (qturn i W) = qt ((asked1 W).hear (askM W.m 1 true).msg) := by
  have e : qturn i W = ⟨3, true, 9, 0, 0, 0, false⟩ := by unfold qturn; rw [if_pos h]
  rw [e]
  have ep : pickedI (Int.tdiv 3 2) 4 = 1 := by decide
  have e1 : askW W ⟨3, true, 9, 0, 0, 0, false⟩ = ⟨askM W.m 1 true, W.l, W.s, [(askM W.m 1 true).msg], W.up, W.old ++ [(askM W.m 1 true).msg], W.asked ++ [⟨0, W.asked.length, 1, true⟩], W.acted⟩ := by
    unfold askW
    rw [if_pos ⟨by decide, h.1⟩]
    show Wl.sent _ (askM W.m (pickedI (Int.tdiv 3 2) 4) true) [(askM W.m (pickedI (Int.tdiv 3 2) 4) true).msg] = _
    rw [ep]
    unfold Wl.sent
    rw [hd]
    rfl
  obtain ⟨V, hV⟩ : ∃ V, V = askW W ⟨3, true, 9, 0, 0, 0, false⟩ := ⟨_, rfl⟩
  have e2 : againW V ⟨3, true, 9, 0, 0, 0, false⟩ = V := by unfold againW; rw [if_neg (fun h => by have := h.2; revert this; decide)]
  have e3 : tickDn W ⟨3, true, 9, 0, 0, 0, false⟩ = (asked1 W).hear (askM W.m 1 true).msg := by
    unfold tickDn
    rw [← hV, e2]
    have hd1 : V.down = [(askM W.m 1 true).msg] := by rw [hV, e1]
    have := dn1 hd1
    rw [show (⟨3, true, 9, 0, 0, 0, false⟩ : TuM).come = 9 from rfl, show (⟨3, true, 9, 0, 0, 0, false⟩ : TuM).mix = 0 from rfl, show (⟨3, true, 9, 0, 0, 0, false⟩ : TuM).lose = 0 from rfl, this, hV, e1]
    rfl
  unfold tickW qt
  rw [e3]
  rfl
/-- What is under way stands at the station, ready to be carried out. -/
structure OprA (W : Wl) : Prop where
  ph : W.m.ph = 3
  dn : W.down = [W.m.msg]
  ar : W.s.armed = W.m.now ∧ W.s.point = W.m.pt ∧ W.s.want = W.m.want
/-- All is done. -/
structure GoodW (W : Wl) : Prop where
  ph : W.m.ph = 0
  dn : W.down = []
  gv : W.m.gave = false
  la : W.s.last = W.asked.length - 1
  n0 : 0 < W.asked.length
def QI (i : Nat) (W : Wl) : Prop := W.up = [] ∧ ((W.m.ph = 0 ∧ W.down = [] ∧ i ≤ 7) ∨ (W.m.ph = 1 ∧ W.down = [W.m.msg] ∧ i + 2 ≤ 7) ∨ (W.m.ph = 3 ∧ W.down = [W.m.msg] ∧ i + 3 ≤ 7) ∨ (W.m.ph = 1 ∧ W.down = [] ∧ (i : Int) + (W.m.pat - W.m.timer) + 2 ≤ 7) ∨ (W.m.ph = 3 ∧ W.down = [] ∧ (i : Int) + (W.m.pat - W.m.timer) + 3 ≤ 7) ∨ (OprA W ∧ i ≤ 10) ∨ GoodW W)
section
variable {pat lim P : Int} {T : Nat} {W : Wl}
theorem wait_busy {M : MaM} (hp : M.ph ≠ 0) (ht : M.timer + 1 < M.pat) : waitM M = M.wait ∧ waitL M = [] := by
  unfold waitM waitL
  rw [if_neg hp, if_neg hp, if_pos ht, if_pos ht]
  exact ⟨rfl, rfl⟩
/-- A Select that is new makes the station ready. -/
theorem sel_ready (h : Inv pat lim P T W) (hP : 20 ≤ P) (hpat : 2 ≤ pat) (_hu : W.up = []) {V : Wl} (hV : V.m.ph = 1 ∧ V.m.pat = pat ∧ V.l = W.l ∧ V.s = W.s ∧ V.down = [] ∧ V.up = [] ∧ (0 ≤ V.m.pt ∧ V.m.pt ≤ 3)) (hl : W.s.last < V.m.now) (ha : W.s.armed ≤ V.m.now) : (qt (V.hear V.m.msg)).up = [] ∧ OprA (qt (V.hear V.m.msg)) := by
  obtain ⟨v1, v2, v3, v4, v5, v6, v7⟩ := hV
  have hl4 := h.l4
  have hsp := h.sp
  have e : hearS V.l V.s V.m.msg = (W.l, ⟨W.s.last, V.m.now, V.m.pt, V.m.want, W.s.pat, W.s.pat⟩, 2) := by
    unfold hearS
    rw [v3, v4, if_pos (show V.m.msg.kind = 1 from v1)]
    have q1 : ¬ (V.m.msg.no = W.s.last) := by show ¬ (V.m.now = W.s.last); omega
    have q2 : ¬ (V.m.msg.no < W.s.last ∨ V.m.msg.no < W.s.armed) := by show ¬ (V.m.now < W.s.last ∨ V.m.now < W.s.armed); omega
    have q3 : ¬ ¬ (0 ≤ V.m.msg.pt ∧ V.m.msg.pt ≤ (W.l.length : Int) - 1) := by rw [hl4]; show ¬ ¬ (0 ≤ V.m.pt ∧ V.m.pt ≤ ((4 : Nat) : Int) - 1); omega
    rw [if_neg q1, if_neg q2, if_neg q3]
    rfl
  obtain ⟨U, hU⟩ : ∃ U, U = V.hear V.m.msg := ⟨_, rfl⟩
  have hUu : U.up = [⟨2, V.m.now, V.m.pt, V.m.want⟩] := by
    rw [hU]
    unfold Wl.hear
    rw [e, v6]
    rfl
  have hUm : U.m = V.m := by rw [hU]; rfl
  have hUs : U.s = ⟨W.s.last, V.m.now, V.m.pt, V.m.want, W.s.pat, W.s.pat⟩ := by rw [hU]; unfold Wl.hear; rw [e]
  have hUd : U.down = [] := by rw [hU]; exact v5
  rw [← hU, qt1 hUu, hUm]
  have hc : ¬ (V.m.ph = 0 ∨ (⟨2, V.m.now, V.m.pt, V.m.want⟩ : MsM).no ≠ V.m.now) := fun h => h.elim (fun h => by omega) (fun h => h rfl)
  have eM : heardM V.m ⟨2, V.m.now, V.m.pt, V.m.want⟩ = V.m.enter 3 := by unfold heardM; rw [if_neg hc, if_pos rfl, if_pos v1]
  have eL : heardL V.m ⟨2, V.m.now, V.m.pt, V.m.want⟩ = [(V.m.enter 3).msg] := by unfold heardL; rw [if_neg hc, if_pos rfl, if_pos v1]
  rw [eM, eL]
  obtain ⟨w1, w2⟩ := wait_busy (M := V.m.enter 3) (by show (3 : Int) ≠ 0; decide) (by show (0 : Int) + 1 < V.m.pat; omega)
  rw [w1, w2]
  have ets : Ytjhmendiefojoam.tickS U.s = ⟨W.s.last, V.m.now, V.m.pt, V.m.want, W.s.pat - 1, W.s.pat⟩ := by
    rw [hUs]
    unfold Ytjhmendiefojoam.tickS
    have q1 : ¬ (V.m.now = -1) := by have := (mayS_iff.1 h.sm).2.2.1.1; omega
    have q2 : ¬ (W.s.pat = 1) := by omega
    rw [if_neg q1, if_neg q2]
  refine ⟨rfl, rfl, ?_, ?_⟩
  · show (U.down ++ [(V.m.enter 3).msg]) ++ [] = _
    rw [hUd]
    rfl
  · show (Ytjhmendiefojoam.tickS U.s).armed = _ ∧ (Ytjhmendiefojoam.tickS U.s).point = _ ∧ (Ytjhmendiefojoam.tickS U.s).want = _
    rw [ets]
    exact ⟨rfl, rfl, rfl⟩
/-- A Done that is heard by the master whose command it is: all is done. -/
theorem done_good (h : Inv pat lim P T W) (hp : W.m.ph ≠ 0) {V : Wl} (hV : V.m = W.m ∧ V.asked = W.asked ∧ V.down = []) {r : List MsM} (hu : V.up = r) (hr : r = [⟨4, W.m.now, W.m.pt, W.m.want⟩]) (hl : V.s.last = W.m.now) : (qt V).up = [] ∧ GoodW (qt V) := by
  obtain ⟨v1, v2, v3⟩ := hV
  have hb := May.busy h.may hp
  rw [hr] at hu
  rw [qt1 hu, v1]
  have hc : ¬ (W.m.ph = 0 ∨ (⟨4, W.m.now, W.m.pt, W.m.want⟩ : MsM).no ≠ W.m.now) := fun h => h.elim (fun h => hp h) (fun h => h rfl)
  have eM : heardM W.m ⟨4, W.m.now, W.m.pt, W.m.want⟩ = W.m.rest := by unfold heardM; rw [if_neg hc, if_neg (by show ¬ ((4 : Int) = 2); decide), if_pos rfl]
  have eL : heardL W.m ⟨4, W.m.now, W.m.pt, W.m.want⟩ = [] := by unfold heardL; rw [if_neg hc, if_neg (by show ¬ ((4 : Int) = 2); decide), if_pos rfl]
  rw [eM, eL]
  have e1 : waitM W.m.rest = W.m.rest := by unfold waitM; rw [if_pos (show W.m.rest.ph = 0 from rfl)]
  have e2 : waitL W.m.rest = [] := by unfold waitL; rw [if_pos (show W.m.rest.ph = 0 from rfl)]
  rw [e1, e2]
  have hno := h.no
  have hnow := hb.now
  obtain ⟨k, c, q1, q2, _⟩ := h.bz hp
  have hlt := (List.getElem?_eq_some_iff.1 q2).1
  have hts : (Ytjhmendiefojoam.tickS V.s).last = V.s.last := by unfold Ytjhmendiefojoam.tickS; split; rfl; split <;> rfl
  refine ⟨rfl, rfl, ?_, hb.gave, ?_, ?_⟩
  · show (V.down ++ []) ++ [] = _
    rw [v3]
    rfl
  · show (Ytjhmendiefojoam.tickS V.s).last = (V.asked.length : Int) - 1
    rw [hts, hl, v2]
    omega
  · show 0 < V.asked.length
    rw [v2]
    omega
theorem hear_u {V : Wl} {x : MsM} (hu : V.up = []) : (V.hear x).up = replyL x (hearS V.l V.s x).2.2 := by unfold Wl.hear; rw [hu]; rfl
theorem QI.step (h : Inv pat lim P T W) (hP : 20 ≤ P) (hpat : 2 ≤ pat) {i : Nat} (hq : QI i W) : QI (i + 1) (tickW W (qturn i W)) := by
  obtain ⟨hu, hq⟩ := hq
  have hno := h.no
  have hmp := h.mp.1
  have hsm := mayS_iff.1 h.sm
  have harm : W.s.armed < W.asked.length := by
    by_cases ha : W.s.armed = -1
    · rw [ha]; omega
    · obtain ⟨k, c, q1, q2, _⟩ := h.ar ha
      have := (List.getElem?_eq_some_iff.1 q2).1
      omega
  have hla := h.la
  -- a command is asked for
  have ask : W.m.ph = 0 ∧ i < 10 → W.down = [] → QI (i + 1) (tickW W (qturn i W)) := fun hc hd => by
    rw [q_ask hc hd]
    have := sel_ready h hP hpat hu (V := asked1 W) ⟨rfl, hmp, rfl, rfl, rfl, hu, by show (0 : Int) ≤ 1 ∧ (1 : Int) ≤ 3; decide⟩ (by show W.s.last < W.m.no; omega) (by show W.s.armed ≤ W.m.no; omega)
    exact ⟨this.1, .inr (.inr (.inr (.inr (.inr (.inl ⟨this.2, by omega⟩)))))⟩
  -- nothing is on the way: the master waits
  have wt : W.m.ph ≠ 0 → W.down = [] → (tickW W (qturn i W)).up = [] ∧ (tickW W (qturn i W)).m = waitM W.m ∧ (tickW W (qturn i W)).down = waitL W.m := fun hp hd => by
    rw [q_rest (fun h => hp h.1) hd, qt0 hu]
    exact ⟨hu, rfl, by show W.down ++ waitL W.m = _; rw [hd]; rfl⟩
  have busy : W.m.ph ≠ 0 → W.m.now = W.asked.length - 1 ∧ (0 ≤ W.m.timer ∧ W.m.timer ≤ W.m.pat - 1) ∧ (0 ≤ W.m.pt ∧ W.m.pt ≤ 3) := fun hp => by
    have hb := May.busy h.may hp
    obtain ⟨k, c, q1, q2, q3, _⟩ := h.bz hp
    have := h.ak k c q2
    exact ⟨by have := hb.now; omega, hb.timer, by omega⟩
  rcases hq with ⟨hp, hd, hi⟩ | ⟨hp, hd, hi⟩ | ⟨hp, hd, hi⟩ | ⟨hp, hd, hi⟩ | ⟨hp, hd, hi⟩ | ⟨hA, hi⟩ | hG
  · exact ask ⟨hp, by omega⟩ hd
  · have hp0 : W.m.ph ≠ 0 := by omega
    obtain ⟨b1, b2, b3⟩ := busy hp0
    rw [q_hear (fun h => hp0 h.1) hd]
    by_cases hl : W.m.now = W.s.last
    · have e : hearS W.l W.s W.m.msg = (W.l, W.s, 4) := by
        unfold hearS
        rw [if_pos (show W.m.msg.kind = 1 from hp), if_pos (show W.m.msg.no = W.s.last from hl)]
      have := done_good h hp0 (V := (W.down1 []).hear W.m.msg) ⟨rfl, rfl, rfl⟩ (r := replyL W.m.msg (hearS W.l W.s W.m.msg).2.2) (hear_u (V := W.down1 []) hu) (by rw [e]; rfl) (by show (hearS W.l W.s W.m.msg).2.1.last = _; rw [e]; exact hl.symm)
      exact ⟨this.1, .inr (.inr (.inr (.inr (.inr (.inr this.2)))))⟩
    · have := sel_ready h hP hpat hu (V := W.down1 []) ⟨hp, hmp, rfl, rfl, rfl, hu, b3⟩ (by show W.s.last < W.m.now; omega) (by show W.s.armed ≤ W.m.now; omega)
      exact ⟨this.1, .inr (.inr (.inr (.inr (.inr (.inl ⟨this.2, by omega⟩)))))⟩
  · have hp0 : W.m.ph ≠ 0 := by omega
    obtain ⟨b1, b2, b3⟩ := busy hp0
    rw [q_hear (fun h => hp0 h.1) hd]
    have hk : ¬ W.m.msg.kind = 1 := by show ¬ W.m.ph = 1; omega
    by_cases hl : W.m.now = W.s.last
    · have e : hearS W.l W.s W.m.msg = (W.l, W.s, 4) := by
        unfold hearS
        rw [if_neg hk, if_pos (show W.m.msg.no = W.s.last from hl)]
      have := done_good h hp0 (V := (W.down1 []).hear W.m.msg) ⟨rfl, rfl, rfl⟩ (r := replyL W.m.msg (hearS W.l W.s W.m.msg).2.2) (hear_u (V := W.down1 []) hu) (by rw [e]; rfl) (by show (hearS W.l W.s W.m.msg).2.1.last = _; rw [e]; exact hl.symm)
      exact ⟨this.1, .inr (.inr (.inr (.inr (.inr (.inr this.2)))))⟩
    · have hl2 : ¬ W.m.msg.no < W.s.last := by show ¬ W.m.now < W.s.last; omega
      by_cases ha : W.m.msg.no ≠ W.s.armed ∨ W.m.msg.pt ≠ W.s.point ∨ W.m.msg.wt ≠ W.s.want
      · have e : hearS W.l W.s W.m.msg = (W.l, W.s, 5) := by
          unfold hearS
          rw [if_neg hk, if_neg (show ¬ W.m.msg.no = W.s.last from hl), if_neg hl2, if_pos ha]
        obtain ⟨U, hU⟩ : ∃ U, U = (W.down1 []).hear W.m.msg := ⟨_, rfl⟩
        have hUu : U.up = [⟨5, W.m.now, W.m.pt, W.m.want⟩] := by
          rw [hU, hear_u (V := W.down1 []) hu]
          show replyL W.m.msg (hearS W.l W.s W.m.msg).2.2 = _
          rw [e]
          rfl
        have hUm : U.m = W.m := by rw [hU]; rfl
        have hUd : U.down = [] := by rw [hU]; rfl
        rw [← hU, qt1 hUu, hUm]
        have hc : ¬ (W.m.ph = 0 ∨ (⟨5, W.m.now, W.m.pt, W.m.want⟩ : MsM).no ≠ W.m.now) := fun h => h.elim (fun h => hp0 h) (fun h => h rfl)
        have eM : heardM W.m ⟨5, W.m.now, W.m.pt, W.m.want⟩ = W.m.enter 1 := by unfold heardM; rw [if_neg hc, if_neg (by show ¬ ((5 : Int) = 2); decide), if_neg (by show ¬ ((5 : Int) = 4); decide), if_pos hp]
        have eL : heardL W.m ⟨5, W.m.now, W.m.pt, W.m.want⟩ = [(W.m.enter 1).msg] := by unfold heardL; rw [if_neg hc, if_neg (by show ¬ ((5 : Int) = 2); decide), if_neg (by show ¬ ((5 : Int) = 4); decide), if_pos hp]
        rw [eM, eL]
        obtain ⟨w1, w2⟩ := wait_busy (M := W.m.enter 1) (by show (1 : Int) ≠ 0; decide) (by show (0 : Int) + 1 < W.m.pat; omega)
        rw [w1, w2]
        refine ⟨rfl, .inr (.inl ⟨rfl, ?_, by omega⟩)⟩
        show (U.down ++ [(W.m.enter 1).msg]) ++ [] = _
        rw [hUd]
        rfl
      · have e : hearS W.l W.s W.m.msg = (W.l.set W.m.msg.pt.toNat W.m.msg.wt, ⟨W.m.msg.no, -1, 0, false, 0, W.s.pat⟩, 4) := by
          unfold hearS
          rw [if_neg hk, if_neg (show ¬ W.m.msg.no = W.s.last from hl), if_neg hl2, if_neg ha]
        have := done_good h hp0 (V := (W.down1 []).hear W.m.msg) ⟨rfl, rfl, rfl⟩ (r := replyL W.m.msg (hearS W.l W.s W.m.msg).2.2) (hear_u (V := W.down1 []) hu) (by rw [e]; rfl) (by show (hearS W.l W.s W.m.msg).2.1.last = _; rw [e]; rfl)
        exact ⟨this.1, .inr (.inr (.inr (.inr (.inr (.inr this.2)))))⟩
  · have hp0 : W.m.ph ≠ 0 := by omega
    obtain ⟨b1, b2, b3⟩ := busy hp0
    obtain ⟨w1, w2, w3⟩ := wt hp0 hd
    refine ⟨w1, ?_⟩
    rw [w2, w3]
    unfold waitM waitL
    rw [if_neg hp0, if_neg hp0]
    by_cases ht : W.m.timer + 1 < W.m.pat
    · rw [if_pos ht, if_pos ht]
      exact .inr (.inr (.inr (.inl ⟨hp, rfl, by show ((i + 1 : Nat) : Int) + (W.m.pat - (W.m.timer + 1)) + 2 ≤ 7; omega⟩)))
    · rw [if_neg ht, if_neg ht]
      by_cases hr : W.m.tries = W.m.lim
      · rw [if_pos hr, if_pos hr]
        exact .inl ⟨rfl, rfl, by omega⟩
      · rw [if_neg hr, if_neg hr]
        exact .inr (.inl ⟨hp, rfl, by omega⟩)
  · have hp0 : W.m.ph ≠ 0 := by omega
    obtain ⟨b1, b2, b3⟩ := busy hp0
    obtain ⟨w1, w2, w3⟩ := wt hp0 hd
    refine ⟨w1, ?_⟩
    rw [w2, w3]
    unfold waitM waitL
    rw [if_neg hp0, if_neg hp0]
    by_cases ht : W.m.timer + 1 < W.m.pat
    · rw [if_pos ht, if_pos ht]
      exact .inr (.inr (.inr (.inr (.inl ⟨hp, rfl, by show ((i + 1 : Nat) : Int) + (W.m.pat - (W.m.timer + 1)) + 3 ≤ 7; omega⟩))))
    · rw [if_neg ht, if_neg ht]
      by_cases hr : W.m.tries = W.m.lim
      · rw [if_pos hr, if_pos hr]
        exact .inl ⟨rfl, rfl, by omega⟩
      · rw [if_neg hr, if_neg hr]
        exact .inr (.inr (.inl ⟨hp, rfl, by omega⟩))
  · have hp0 : W.m.ph ≠ 0 := by have := hA.ph; omega
    have hd := hA.dn
    obtain ⟨b1, b2, b3⟩ := busy hp0
    rw [q_hear (fun h => hp0 h.1) hd]
    have hk : ¬ W.m.msg.kind = 1 := by have := hA.ph; show ¬ W.m.ph = 1; omega
    have harr := hA.ar
    have hne1 : W.s.armed ≠ -1 := by obtain ⟨k, c, q1, _⟩ := h.bz hp0; omega
    have hlt : W.s.last < W.s.armed := by
      rcases hsm.2.2.2 with q | q
      · exact absurd q.1 hne1
      · omega
    have e : hearS W.l W.s W.m.msg = (W.l.set W.m.msg.pt.toNat W.m.msg.wt, ⟨W.m.msg.no, -1, 0, false, 0, W.s.pat⟩, 4) := by
      unfold hearS
      have q1 : ¬ (W.m.msg.no = W.s.last) := by show ¬ (W.m.now = W.s.last); omega
      have q2 : ¬ (W.m.msg.no < W.s.last) := by show ¬ (W.m.now < W.s.last); omega
      have q3 : ¬ (W.m.msg.no ≠ W.s.armed ∨ W.m.msg.pt ≠ W.s.point ∨ W.m.msg.wt ≠ W.s.want) := fun h => by
        rcases h with h | h | h
        · exact h harr.1.symm
        · exact h harr.2.1.symm
        · exact h harr.2.2.symm
      rw [if_neg hk, if_neg q1, if_neg q2, if_neg q3]
    have := done_good h hp0 (V := (W.down1 []).hear W.m.msg) ⟨rfl, rfl, rfl⟩ (r := replyL W.m.msg (hearS W.l W.s W.m.msg).2.2) (hear_u (V := W.down1 []) hu) (by rw [e]; rfl) (by show (hearS W.l W.s W.m.msg).2.1.last = _; rw [e]; rfl)
    exact ⟨this.1, .inr (.inr (.inr (.inr (.inr (.inr this.2)))))⟩
  · by_cases hi : i < 10
    · exact ask ⟨hG.ph, hi⟩ hG.dn
    · rw [q_rest (fun h => hi h.2) hG.dn, qt0 hu]
      have e1 : waitM W.m = W.m := by unfold waitM; rw [if_pos hG.ph]
      have e2 : waitL W.m = [] := by unfold waitL; rw [if_pos hG.ph]
      rw [e1, e2]
      have hts : (Ytjhmendiefojoam.tickS W.s).last = W.s.last := by unfold Ytjhmendiefojoam.tickS; split; rfl; split <;> rfl
      refine ⟨hu, .inr (.inr (.inr (.inr (.inr (.inr ⟨hG.ph, ?_, hG.gv, ?_, hG.n0⟩)))))⟩
      · show W.down ++ [] = _
        rw [hG.dn]
        rfl
      · show (Ytjhmendiefojoam.tickS W.s).last = _
        rw [hts]
        exact hG.la
theorem QI.start (h : Inv pat lim P T W) (hpat : pat ≤ 4) (hd : W.down = []) (hu : W.up = []) : QI 0 W := by
  have hmp := h.mp.1
  refine ⟨hu, ?_⟩
  by_cases hp : W.m.ph = 0
  · exact .inl ⟨hp, hd, by omega⟩
  · have hb := May.busy h.may hp
    have := hb.timer
    rcases hb.ph with q | q
    · exact .inr (.inr (.inr (.inl ⟨q, hd, by omega⟩)))
    · exact .inr (.inr (.inr (.inr (.inl ⟨q, hd, by omega⟩))))
theorem QI.end (h : Inv pat lim P T W) (hq : QI 40 W) : GoodW W := by
  have tm : W.m.ph ≠ 0 → W.m.timer ≤ W.m.pat - 1 := fun hp => (May.busy h.may hp).timer.2
  obtain ⟨_, q | q | q | q | q | q | q⟩ := hq
  · omega
  · omega
  · omega
  · have := tm (by omega)
    omega
  · have := tm (by omega)
    omega
  · omega
  · exact q
end
end Go.Proofs.Ytjhmendiefojoam
