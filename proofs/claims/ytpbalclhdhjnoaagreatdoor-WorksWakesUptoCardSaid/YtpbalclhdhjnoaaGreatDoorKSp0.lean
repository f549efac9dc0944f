/- Plain facts: what is read without a fault may be. -/
import Derived.Test.YtpbalclhdhjnoaaGreatDoorKSh1
namespace Go.Proofs.YtpbalclhdhjnoaaGreatDoor
open Go.RowKit

/-- A network's parts may be, whatever its own name. -/
structure PartsM (N : NetM) : Prop where
  fits : Fits N
  names : ∀ x ∈ namesM N, nameL (bytesOf x) = true
  nodup : (namesM N).Nodup
  lines : ∀ l ∈ N.lines, 0 ≤ l.frm ∧ l.frm < N.buses.length ∧ 0 ≤ l.to ∧ l.to < N.buses.length ∧ l.frm ≠ l.to ∧ 1 ≤ l.worth ∧ l.worth ≤ 10000 ∧ 0 ≤ l.limit ∧ l.limit ≤ 100000
  gens : ∀ x ∈ N.gens, 0 ≤ x.bus ∧ x.bus < N.buses.length ∧ 0 ≤ x.least ∧ x.least ≤ 100000 ∧ x.least ≤ x.most ∧ x.most ≤ 100000 ∧ 0 ≤ x.cost ∧ x.cost ≤ 100000
  loads : ∀ x ∈ N.loads, 0 ≤ x.bus ∧ x.bus < N.buses.length ∧ 0 ≤ x.power ∧ x.power ≤ 100000
  ties : ∀ l ∈ N.ties, 0 ≤ l.frm ∧ l.frm < N.buses.length ∧ 0 ≤ l.to ∧ l.to < N.buses.length ∧ l.frm ≠ l.to
/-- A network that may be. -/
structure MayM (N : NetM) : Prop extends PartsM N where
  nm : nameL (bytesOf N.name) = true

theorem ite_zero {c : Prop} [Decidable c] {a b : Int} (ha : c → a ≠ 0) (h : (if c then a else b) = 0) : ¬ c ∧ b = 0 := by
  by_cases hc : c
  · rw [if_pos hc] at h
    exact absurd h (ha hc)
  · rw [if_neg hc] at h
    exact ⟨hc, h⟩
theorem new_zero {n : NetM} {x : ByteArray} {a b : Int} (h : newNameE n x a b = 0) : nameL (bytesOf x) = true ∧ x ∉ namesM n ∧ a < b := by
  unfold newNameE at h
  obtain ⟨h1, h⟩ := ite_zero (fun _ => by decide) h
  obtain ⟨h2, h⟩ := ite_zero (fun _ => by decide) h
  obtain ⟨h3, _⟩ := ite_zero (fun _ => by decide) h
  exact ⟨by simpa using h1, fun hx => h2 (placeL_iff.2 hx), by omega⟩
theorem num_zero {y : ByteArray} {lo hi : Int} (h : numE y lo hi = 0) : 0 ≤ numL (bytesOf y) ∧ lo ≤ numL (bytesOf y) ∧ numL (bytesOf y) ≤ hi := by
  unfold numE at h
  obtain ⟨h1, h⟩ := ite_zero (fun _ => by decide) h
  obtain ⟨h2, _⟩ := ite_zero (fun _ => by decide) h
  omega
theorem placeFrom_lt (s : ByteArray) : ∀ (xs : List ByteArray) (i : Nat), placeFrom s i xs < (i + xs.length : Nat) ∨ placeFrom s i xs = -1
  | [], i => .inr (by rfl)
  | x :: r, i => by
    rw [placeFrom]
    split
    · left
      simp only [List.length_cons]
      omega
    · rcases placeFrom_lt s r (i + 1) with h | h
      · left
        simp only [List.length_cons]
        omega
      · exact .inr h
theorem place_lt {xs : List ByteArray} {s : ByteArray} (h : ¬ placeL xs s < 0) : 0 ≤ placeL xs s ∧ placeL xs s < xs.length := by
  unfold placeL at h ⊢
  have := placeFrom_lt s xs 0
  omega
theorem two_zero {bs : List ByteArray} {x y : ByteArray} (h : twoE bs x y = 0) : 0 ≤ placeL bs x ∧ placeL bs x < bs.length ∧ 0 ≤ placeL bs y ∧ placeL bs y < bs.length ∧ placeL bs x ≠ placeL bs y := by
  unfold twoE at h
  obtain ⟨h1, h⟩ := ite_zero (fun _ => by decide) h
  obtain ⟨h2, h⟩ := ite_zero (fun _ => by decide) h
  obtain ⟨h3, _⟩ := ite_zero (fun _ => by decide) h
  exact ⟨(place_lt h1).1, (place_lt h1).2, (place_lt h2).1, (place_lt h2).2, h3⟩
/-- One name more, at its place among the names. -/
theorem names_more {n n' : NetM} {x : ByteArray} {a b : List ByteArray} (e : namesM n = a ++ b) (e' : namesM n' = a ++ x :: b) (h : ∀ y ∈ namesM n, nameL (bytesOf y) = true) (hd : (namesM n).Nodup) (hx : nameL (bytesOf x) = true) (hn : x ∉ namesM n) :
    (∀ y ∈ namesM n', nameL (bytesOf y) = true) ∧ (namesM n').Nodup := by
  have hp : (namesM n').Perm (x :: namesM n) := by rw [e, e']; exact List.perm_middle
  refine ⟨fun y hy => ?_, hp.nodup_iff.2 (List.nodup_cons.2 ⟨hn, hd⟩)⟩
  rcases List.mem_cons.1 (hp.mem_iff.1 hy) with rfl | hy
  · exact hx
  · exact h y hy
section
variable {n : NetM}
theorem PartsM.bus (h : PartsM n) {x : ByteArray} (he : newNameE n x n.buses.length 16 = 0) : PartsM { n with buses := n.buses ++ [x] } := by
  obtain ⟨h1, h2, h3⟩ := new_zero he
  obtain ⟨f1, f2, f3, f4, f5⟩ := h.fits
  obtain ⟨g1, g2⟩ := names_more (n' := { n with buses := n.buses ++ [x] }) (a := n.buses) (b := n.lines.map LineM.name ++ n.gens.map GenM.name ++ n.loads.map LoadM.name ++ n.ties.map TieM.name) (by simp [namesM]) (by simp [namesM]) h.names h.nodup h1 h2
  have hlen : ((n.buses ++ [x]).length : Int) = n.buses.length + 1 := by simp
  refine ⟨⟨by simp; omega, f2, f3, f4, f5⟩, g1, g2, fun l hl => ?_, fun l hl => ?_, fun l hl => ?_, fun l hl => ?_⟩
  · have := h.lines l hl
    rw [hlen]; omega
  · have := h.gens l hl
    rw [hlen]; omega
  · have := h.loads l hl
    rw [hlen]; omega
  · have := h.ties l hl
    rw [hlen]; omega
theorem PartsM.line (h : PartsM n) {x p q y z : ByteArray} (he : lineE n x p q y z = 0) : PartsM { n with lines := n.lines ++ [lineM n x p q y z] } := by
  rw [lineE_eq] at he
  obtain ⟨e1, he⟩ := ite_zero (fun h => h) he
  obtain ⟨e2, he⟩ := ite_zero (fun h => h) he
  obtain ⟨e3, he⟩ := ite_zero (fun h => h) he
  obtain ⟨e4, _⟩ := ite_zero (fun h => h) he
  obtain ⟨h1, h2, h3⟩ := new_zero (Classical.not_not.1 e1)
  obtain ⟨f1, f2, f3, f4, f5⟩ := h.fits
  obtain ⟨g1, g2⟩ := names_more (n' := { n with lines := n.lines ++ [lineM n x p q y z] }) (x := x) (a := n.buses ++ n.lines.map LineM.name) (b := n.gens.map GenM.name ++ n.loads.map LoadM.name ++ n.ties.map TieM.name) (by simp [namesM]) (by simp [namesM, lineM]) h.names h.nodup h1 h2
  refine ⟨⟨f1, by simp; omega, f3, f4, f5⟩, g1, g2, fun l hl => ?_, h.gens, h.loads, h.ties⟩
  rcases List.mem_append.1 hl with hl | hl
  · exact h.lines l hl
  · rw [List.mem_singleton.1 hl]
    obtain ⟨t1, t2, t3, t4, t5⟩ := two_zero (Classical.not_not.1 e2)
    have n1 := num_zero (Classical.not_not.1 e3)
    have n2 := num_zero (Classical.not_not.1 e4)
    exact ⟨t1, t2, t3, t4, t5, n1.2.1, n1.2.2, n2.2.1, n2.2.2⟩
theorem PartsM.gen (h : PartsM n) {x p y z q : ByteArray} (he : genE n x p y z q = 0) : PartsM { n with gens := n.gens ++ [genM n x p y z q] } := by
  rw [genE_eq] at he
  obtain ⟨e1, he⟩ := ite_zero (fun h => h) he
  obtain ⟨e2, he⟩ := ite_zero (fun _ => by decide) he
  obtain ⟨e3, he⟩ := ite_zero (fun h => h) he
  obtain ⟨e4, he⟩ := ite_zero (fun h => h) he
  obtain ⟨e5, _⟩ := ite_zero (fun h => h) he
  obtain ⟨h1, h2, h3⟩ := new_zero (Classical.not_not.1 e1)
  obtain ⟨f1, f2, f3, f4, f5⟩ := h.fits
  obtain ⟨g1, g2⟩ := names_more (n' := { n with gens := n.gens ++ [genM n x p y z q] }) (x := x) (a := n.buses ++ n.lines.map LineM.name ++ n.gens.map GenM.name) (b := n.loads.map LoadM.name ++ n.ties.map TieM.name) (by simp [namesM]) (by simp [namesM, genM]) h.names h.nodup h1 h2
  refine ⟨⟨f1, f2, by simp; omega, f4, f5⟩, g1, g2, h.lines, fun l hl => ?_, h.loads, h.ties⟩
  rcases List.mem_append.1 hl with hl | hl
  · exact h.gens l hl
  · rw [List.mem_singleton.1 hl]
    obtain ⟨t1, t2⟩ := place_lt e2
    have n1 := num_zero (Classical.not_not.1 e3)
    have n2 := num_zero (Classical.not_not.1 e4)
    have n3 := num_zero (Classical.not_not.1 e5)
    exact ⟨t1, t2, n1.2.1, n1.2.2, n2.2.1, n2.2.2, n3.2.1, n3.2.2⟩
theorem PartsM.load (h : PartsM n) {x p y : ByteArray} (he : loadE n x p y = 0) : PartsM { n with loads := n.loads ++ [loadM n x p y] } := by
  rw [loadE_eq] at he
  obtain ⟨e1, he⟩ := ite_zero (fun h => h) he
  obtain ⟨e2, he⟩ := ite_zero (fun _ => by decide) he
  obtain ⟨e3, _⟩ := ite_zero (fun h => h) he
  obtain ⟨h1, h2, h3⟩ := new_zero (Classical.not_not.1 e1)
  obtain ⟨f1, f2, f3, f4, f5⟩ := h.fits
  obtain ⟨g1, g2⟩ := names_more (n' := { n with loads := n.loads ++ [loadM n x p y] }) (x := x) (a := n.buses ++ n.lines.map LineM.name ++ n.gens.map GenM.name ++ n.loads.map LoadM.name) (b := n.ties.map TieM.name) (by simp [namesM]) (by simp [namesM, loadM]) h.names h.nodup h1 h2
  refine ⟨⟨f1, f2, f3, by simp; omega, f5⟩, g1, g2, h.lines, h.gens, fun l hl => ?_, h.ties⟩
  rcases List.mem_append.1 hl with hl | hl
  · exact h.loads l hl
  · rw [List.mem_singleton.1 hl]
    obtain ⟨t1, t2⟩ := place_lt e2
    have n1 := num_zero (Classical.not_not.1 e3)
    exact ⟨t1, t2, n1.2.1, n1.2.2⟩
theorem PartsM.tie (h : PartsM n) {x p q s : ByteArray} (he : tieE n x p q s = 0) : PartsM { n with ties := n.ties ++ [tieM n x p q s] } := by
  unfold tieE at he
  obtain ⟨e1, he⟩ := ite_zero (fun h => h) he
  obtain ⟨e2, _⟩ := ite_zero (fun h => h) he
  obtain ⟨h1, h2, h3⟩ := new_zero (Classical.not_not.1 e1)
  obtain ⟨f1, f2, f3, f4, f5⟩ := h.fits
  obtain ⟨g1, g2⟩ := names_more (n' := { n with ties := n.ties ++ [tieM n x p q s] }) (x := x) (a := namesM n) (b := []) (by simp) (by simp [namesM, tieM]) h.names h.nodup h1 h2
  refine ⟨⟨f1, f2, f3, f4, by simp; omega⟩, g1, g2, h.lines, h.gens, h.loads, fun l hl => ?_⟩
  rcases List.mem_append.1 hl with hl | hl
  · exact h.ties l hl
  · rw [List.mem_singleton.1 hl]
    exact two_zero (Classical.not_not.1 e2)
end
/-- A line that goes well leaves parts that may be, and a name that is one once there is one. -/
theorem parts_step {n : NetM} {bg : Bool} {k : ByteArray} {r : List ByteArray} (h : PartsM n) (hnm : bg = true → nameL (bytesOf n.name) = true) (hl : (k :: r).length = longK k) (hk : decide (k = kNet) ≠ bg) (hs : stepE n (k :: r) = 0) : PartsM (stepN n (k :: r)) ∧ nameL (bytesOf (stepN n (k :: r)).name) = true := by
  have hbg : k ≠ kNet → nameL (bytesOf n.name) = true := fun hne => hnm (by
    rw [decide_eq_false hne] at hk
    cases bg
    · exact absurd rfl hk
    · rfl)
  have hnet : r.length ≠ 1 → k ≠ kNet := fun hr e => by
    subst e
    have e2 : longK kNet = 2 := by decide
    rw [e2, List.length_cons] at hl
    omega
  match r, hs with
  | [x], hs =>
    rw [stepE] at hs
    rw [stepN]
    by_cases hkn : k = kNet
    · rw [if_pos hkn] at hs ⊢
      unfold netE at hs
      refine ⟨⟨h.fits, h.names, h.nodup, h.lines, h.gens, h.loads, h.ties⟩, ?_⟩
      show nameL (bytesOf x) = true
      by_cases hx : nameL (bytesOf x) = true
      · exact hx
      · rw [if_neg hx] at hs
        cases hs
    · rw [if_neg hkn] at hs ⊢
      exact ⟨h.bus hs, hbg hkn⟩
  | [x, p, y], hs =>
    rw [stepE] at hs
    exact ⟨h.load hs, hbg (hnet (by simp))⟩
  | [x, p, q, s], hs =>
    rw [stepE] at hs
    exact ⟨h.tie hs, hbg (hnet (by simp))⟩
  | [x, p, q, y, z], hs =>
    rw [stepE] at hs
    rw [stepN]
    have hn := hbg (hnet (by simp))
    by_cases hkl : k = kLine
    · rw [if_pos hkl] at hs ⊢
      exact ⟨h.line hs, hn⟩
    · rw [if_neg hkl] at hs ⊢
      exact ⟨h.gen hs, hn⟩
  | [], hs => cases hs
  | [_, _], hs => cases hs
  | _ :: _ :: _ :: _ :: _ :: _ :: _, hs => cases hs
theorem parts_empty : PartsM emptyNet := ⟨⟨by decide, by decide, by decide, by decide, by decide⟩, fun x hx => by simp [namesM, emptyNet] at hx, by simp [namesM, emptyNet], fun l hl => by simp [emptyNet] at hl, fun l hl => by simp [emptyNet] at hl, fun l hl => by simp [emptyNet] at hl, fun l hl => by simp [emptyNet] at hl⟩
theorem readGo_may : ∀ (ls : List ByteArray) (i : Nat) (n : NetM) (bg : Bool), PartsM n → (bg = true → nameL (bytesOf n.name) = true) → (readGo ls i n bg).1.1 = 0 → MayM (readGo ls i n bg).2
  | [], i, n, bg, h, hn, he => by
    rw [readGo] at he ⊢
    cases bg with
    | true =>
      simp only [if_true] at he ⊢
      exact ⟨h, hn rfl⟩
    | false => simp at he
  | l :: rest, i, n, bg, h, hn, he => by
    cases hw : wordsB l with
    | nil =>
      rw [readGo_nil hw] at he ⊢
      exact readGo_may rest (i + 1) n bg h hn he
    | cons k r =>
      by_cases hb : (k :: r).length ≠ longK k ∨ (decide (k = kNet) = bg)
      · rw [readGo_form hw hb] at he
        cases he
      · by_cases hs : stepE n (k :: r) ≠ 0
        · rw [readGo_err hw hb hs] at he
          exact absurd he hs
        · rw [readGo_ok hw hb hs] at he ⊢
          obtain ⟨h1, h2⟩ := parts_step h hn (Classical.not_not.1 fun e => hb (.inl e)) (fun e => hb (.inr e)) (Classical.not_not.1 hs)
          exact readGo_may rest (i + 1) _ true h1 (fun _ => h2) he
/-- What is read without a fault may be. -/
theorem read_may {s : ByteArray} (h : (readNetM s).1.1 = 0) : MayM (readNetM s).2 := by
  unfold readNetM at h ⊢
  by_cases hl : 20000 < s.size
  · rw [if_pos hl] at h
    cases h
  · rw [if_neg hl] at h ⊢
    exact readGo_may _ _ _ _ parts_empty (fun h => by cases h) h
end Go.Proofs.YtpbalclhdhjnoaaGreatDoor

namespace Go.Proofs.YtpbalclhdhjnoaaGreatDoor
open Go.RowKit

theorem numGo_snoc (l : List UInt8) (c : UInt8) : numGo (l ++ [c]) = 10 * numGo l + ((c.toNat : Int) - 48) := by
  simp [numGo, List.foldl_append]
theorem digit_facts : ∀ d : Fin 10, digU (UInt8.ofNat (48 + d.val)) = true ∧ (UInt8.ofNat (48 + d.val)).toNat = 48 + d.val ∧ blankU (UInt8.ofNat (48 + d.val)) = false ∧ UInt8.ofNat (48 + d.val) ≠ 10 ∧ UInt8.ofNat (48 + d.val) ≠ 35 := by decide +kernel
theorem dec_num : ∀ (f u : Nat), u < 10 ^ (f + 1) → numGo (Lib.decDigits u) = u ∧ (Lib.decDigits u).all digU = true ∧ (∀ c ∈ Lib.decDigits u, blankU c = false ∧ c ≠ 10 ∧ c ≠ 35) ∧ 0 < (Lib.decDigits u).length ∧ (Lib.decDigits u).length ≤ f + 1
  | f, u, h => by
    by_cases hu : u < 10
    · obtain ⟨h1, h2, h3⟩ := digit_facts ⟨u, hu⟩
      rw [Lib.decDigits_one hu]
      refine ⟨?_, by simpa using h1, fun c hc => ?_, by simp, by simp⟩
      · show 10 * 0 + (((UInt8.ofNat (48 + u)).toNat : Int) - 48) = u
        rw [h2]
        simp
        omega
      · rw [List.mem_singleton.1 hc]
        exact h3
    · match f, h with
      | 0, h => omega
      | f + 1, h =>
        obtain ⟨i1, i2, i3, i4, i5⟩ := dec_num f (u / 10) (by rw [Nat.pow_succ] at h; omega)
        obtain ⟨h1, h2, h3⟩ := digit_facts ⟨u % 10, Nat.mod_lt _ (by decide)⟩
        have e : Lib.decDigits u = Lib.decDigits (u / 10) ++ [UInt8.ofNat (48 + u % 10)] := by
          conv => lhs; rw [Lib.decDigits, dif_neg hu]
        rw [e]
        refine ⟨?_, by simp only [List.all_append, i2, Bool.true_and]; simpa using h1, fun c hc => ?_, by simp, by simp; omega⟩
        · rw [numGo_snoc, i1, h2]
          simp
          omega
        · rcases List.mem_append.1 hc with hc | hc
          · exact i3 c hc
          · rw [List.mem_singleton.1 hc]
            exact h3
theorem decB_big {v : Int} (h0 : 0 ≤ v) (h1 : v ≤ 100000) : numL (bytesOf (decB v)) = v ∧ wordy (bytesOf (decB v)) ∧ (bytesOf (decB v)).length ≤ 6 := by
  obtain ⟨u, rfl⟩ := Int.eq_ofNat_of_zero_le h0
  obtain ⟨e1, e2, e3, e4, e5⟩ := dec_num 5 u (by omega)
  have e : bytesOf (decB (u : Int)) = Lib.decDigits u := by
    unfold decB Lib.itoa
    rw [bytesOf_textOf, if_neg (by omega)]
    rfl
  rw [e]
  refine ⟨?_, ⟨fun hn => ?_, e3⟩, e5⟩
  · unfold numL
    rw [if_neg (by omega), if_pos e2, e1]
  · rw [hn] at e4
    cases e4
def wordsGen (N : NetM) (x : GenM) : List ByteArray := [kGen, x.name, busAt N x.bus, decB x.least, decB x.most, decB x.cost]
def wordsLoad (N : NetM) (x : LoadM) : List ByteArray := [kLoad, x.name, busAt N x.bus, decB x.power]
/-- The lines of a network's text. -/
def toldM (N : NetM) : List (List ByteArray) := [kNet, N.name] :: (N.buses.map fun b => [kBus, b]) ++ N.lines.map (wordsLine N) ++ N.gens.map (wordsGen N) ++ N.loads.map (wordsLoad N) ++ N.ties.map (wordsTie N)
theorem place_ok' {N : NetM} (h : N.buses.Nodup) {i : Int} (h0 : 0 ≤ i) (h1 : i < N.buses.length) : ¬ placeL N.buses (busAt N i) < 0 := by
  rw [(busAt_place h h0 h1).1]
  omega
theorem steps_lineM (N : NetM) (hN : N.buses.Nodup) : ∀ (post pre : List LineM), (∀ x ∈ post, nameL (bytesOf x.name) = true) → (N.buses ++ (pre ++ post).map LineM.name).Nodup → (pre ++ post).length ≤ 30 →
    (∀ l ∈ post, 0 ≤ l.frm ∧ l.frm < N.buses.length ∧ 0 ≤ l.to ∧ l.to < N.buses.length ∧ l.frm ≠ l.to ∧ 1 ≤ l.worth ∧ l.worth ≤ 10000 ∧ 0 ≤ l.limit ∧ l.limit ≤ 100000) →
    StepsOk ⟨N.name, N.buses, pre, [], [], []⟩ true (post.map (wordsLine N)) ⟨N.name, N.buses, pre ++ post, [], [], []⟩
  | [], pre, _, _, _, _ => by rw [List.append_nil]; exact ⟨rfl, rfl⟩
  | b :: r, pre, h1, h2, h3, h4 => by
    have hn : b.name ∉ N.buses ++ pre.map LineM.name := fun hb => by
      rw [List.map_append, ← List.append_assoc] at h2
      exact (List.nodup_append.1 h2).2.2 _ hb b.name (by simp) rfl
    obtain ⟨c1, c2, c3, c4, c5, c6, c7, c8, c9⟩ := h4 b (by simp)
    obtain ⟨w1, -, -⟩ := decB_big (v := b.worth) (by omega) (by omega)
    obtain ⟨w2, -, -⟩ := decB_big c8 c9
    have hp1 : placeL N.buses (busAt N b.frm) = b.frm := (busAt_place hN c1 c2).1
    have hp2 : placeL N.buses (busAt N b.to) = b.to := (busAt_place hN c3 c4).1
    have htwo : twoE N.buses (busAt N b.frm) (busAt N b.to) = 0 := two_ok hN c1 c2 c3 c4 c5
    have hnew : newNameE ⟨N.name, N.buses, pre, [], [], []⟩ b.name (pre.length : Int) 30 = 0 := by
      refine new_ok (h1 b (by simp)) ?_ ?_
      · simpa [namesM] using hn
      · simp at h3 ⊢; omega
    have hn1 : numE (decB b.worth) 1 10000 = 0 := numE_ok w1 (by omega) (by omega) (by omega)
    have hn2 : numE (decB b.limit) 0 100000 = 0 := numE_ok w2 (by omega) (by omega) (by omega)
    have hstep : stepE ⟨N.name, N.buses, pre, [], [], []⟩ (wordsLine N b) = 0 := by
      unfold wordsLine
      rw [stepE, if_pos rfl, lineE_eq]
      simp only [hnew, htwo, hn1, hn2]
      rfl
    have hnext : stepN ⟨N.name, N.buses, pre, [], [], []⟩ (wordsLine N b) = ⟨N.name, N.buses, pre ++ [b], [], [], []⟩ := by
      unfold wordsLine
      rw [stepN, if_pos rfl]
      simp only [lineM, hp1, hp2, w1, w2]
    have ih := steps_lineM N hN r (pre ++ [b]) (fun x hx => h1 x (by simp [hx])) (by simpa using h2) (by simpa using h3) (fun x hx => h4 x (by simp [hx]))
    rw [List.map_cons]
    refine ⟨rfl, by decide, hstep, ?_⟩
    show StepsOk (stepN ⟨N.name, N.buses, pre, [], [], []⟩ (wordsLine N b)) true _ _
    rw [hnext]
    simpa using ih
theorem steps_genM (N : NetM) (hN : N.buses.Nodup) : ∀ (post pre : List GenM), (∀ x ∈ post, nameL (bytesOf x.name) = true) → (N.buses ++ N.lines.map LineM.name ++ (pre ++ post).map GenM.name).Nodup → (pre ++ post).length ≤ 12 →
    (∀ x ∈ post, 0 ≤ x.bus ∧ x.bus < N.buses.length ∧ 0 ≤ x.least ∧ x.least ≤ 100000 ∧ x.least ≤ x.most ∧ x.most ≤ 100000 ∧ 0 ≤ x.cost ∧ x.cost ≤ 100000) →
    StepsOk ⟨N.name, N.buses, N.lines, pre, [], []⟩ true (post.map (wordsGen N)) ⟨N.name, N.buses, N.lines, pre ++ post, [], []⟩
  | [], pre, _, _, _, _ => by rw [List.append_nil]; exact ⟨rfl, rfl⟩
  | b :: r, pre, h1, h2, h3, h4 => by
    have hn : b.name ∉ N.buses ++ N.lines.map LineM.name ++ pre.map GenM.name := fun hb => by
      rw [List.map_append, ← List.append_assoc] at h2
      exact (List.nodup_append.1 h2).2.2 _ hb b.name (by simp) rfl
    obtain ⟨c1, c2, c3, c4, c5, c6, c7, c8⟩ := h4 b (by simp)
    obtain ⟨w1, -, -⟩ := decB_big c3 c4
    obtain ⟨w2, -, -⟩ := decB_big (v := b.most) (by omega) c6
    obtain ⟨w3, -, -⟩ := decB_big c7 c8
    have hp1 : placeL N.buses (busAt N b.bus) = b.bus := (busAt_place hN c1 c2).1
    have hpn := place_ok' hN c1 c2
    have hnew : newNameE ⟨N.name, N.buses, N.lines, pre, [], []⟩ b.name (pre.length : Int) 12 = 0 := by
      refine new_ok (h1 b (by simp)) ?_ ?_
      · simpa [namesM] using hn
      · simp at h3 ⊢; omega
    have hn1 : numE (decB b.least) 0 100000 = 0 := numE_ok w1 (by omega) (by omega) (by omega)
    have hn2 : numE (decB b.most) (numL (bytesOf (decB b.least))) 100000 = 0 := numE_ok w2 (by omega) (by rw [w1]; omega) (by omega)
    have hn3 : numE (decB b.cost) 0 100000 = 0 := numE_ok w3 (by omega) (by omega) (by omega)
    have hstep : stepE ⟨N.name, N.buses, N.lines, pre, [], []⟩ (wordsGen N b) = 0 := by
      unfold wordsGen
      rw [stepE, if_neg (by decide), genE_eq]
      simp only [hnew, hn1, hn2, hn3, hpn]
      rfl
    have hnext : stepN ⟨N.name, N.buses, N.lines, pre, [], []⟩ (wordsGen N b) = ⟨N.name, N.buses, N.lines, pre ++ [b], [], []⟩ := by
      unfold wordsGen
      rw [stepN, if_neg (by decide)]
      simp only [genM, hp1, w1, w2, w3]
    have ih := steps_genM N hN r (pre ++ [b]) (fun x hx => h1 x (by simp [hx])) (by simpa using h2) (by simpa using h3) (fun x hx => h4 x (by simp [hx]))
    rw [List.map_cons]
    refine ⟨rfl, by decide, hstep, ?_⟩
    show StepsOk (stepN ⟨N.name, N.buses, N.lines, pre, [], []⟩ (wordsGen N b)) true _ _
    rw [hnext]
    simpa using ih
theorem steps_loadM (N : NetM) (hN : N.buses.Nodup) : ∀ (post pre : List LoadM), (∀ x ∈ post, nameL (bytesOf x.name) = true) → (N.buses ++ N.lines.map LineM.name ++ N.gens.map GenM.name ++ (pre ++ post).map LoadM.name).Nodup → (pre ++ post).length ≤ 16 →
    (∀ x ∈ post, 0 ≤ x.bus ∧ x.bus < N.buses.length ∧ 0 ≤ x.power ∧ x.power ≤ 100000) →
    StepsOk ⟨N.name, N.buses, N.lines, N.gens, pre, []⟩ true (post.map (wordsLoad N)) ⟨N.name, N.buses, N.lines, N.gens, pre ++ post, []⟩
  | [], pre, _, _, _, _ => by rw [List.append_nil]; exact ⟨rfl, rfl⟩
  | b :: r, pre, h1, h2, h3, h4 => by
    have hn : b.name ∉ N.buses ++ N.lines.map LineM.name ++ N.gens.map GenM.name ++ pre.map LoadM.name := fun hb => by
      rw [List.map_append, ← List.append_assoc] at h2
      exact (List.nodup_append.1 h2).2.2 _ hb b.name (by simp) rfl
    obtain ⟨c1, c2, c3, c4⟩ := h4 b (by simp)
    obtain ⟨w1, -, -⟩ := decB_big c3 c4
    have hp1 : placeL N.buses (busAt N b.bus) = b.bus := (busAt_place hN c1 c2).1
    have hpn := place_ok' hN c1 c2
    have hnew : newNameE ⟨N.name, N.buses, N.lines, N.gens, pre, []⟩ b.name (pre.length : Int) 16 = 0 := by
      refine new_ok (h1 b (by simp)) ?_ ?_
      · simpa [namesM] using hn
      · simp at h3 ⊢; omega
    have hn1 : numE (decB b.power) 0 100000 = 0 := numE_ok w1 (by omega) (by omega) (by omega)
    have hstep : stepE ⟨N.name, N.buses, N.lines, N.gens, pre, []⟩ (wordsLoad N b) = 0 := by
      unfold wordsLoad
      rw [stepE, loadE_eq]
      simp only [hnew, hn1, hpn]
      rfl
    have hnext : stepN ⟨N.name, N.buses, N.lines, N.gens, pre, []⟩ (wordsLoad N b) = ⟨N.name, N.buses, N.lines, N.gens, pre ++ [b], []⟩ := by
      unfold wordsLoad
      rw [stepN]
      simp only [loadM, hp1, w1]
    have ih := steps_loadM N hN r (pre ++ [b]) (fun x hx => h1 x (by simp [hx])) (by simpa using h2) (by simpa using h3) (fun x hx => h4 x (by simp [hx]))
    rw [List.map_cons]
    refine ⟨rfl, by decide, hstep, ?_⟩
    show StepsOk (stepN ⟨N.name, N.buses, N.lines, N.gens, pre, []⟩ (wordsLoad N b)) true _ _
    rw [hnext]
    simpa using ih
theorem steps_tieM (N : NetM) (hN : N.buses.Nodup) : ∀ (post pre : List TieM), (∀ x ∈ post, nameL (bytesOf x.name) = true) → (N.buses ++ N.lines.map LineM.name ++ N.gens.map GenM.name ++ N.loads.map LoadM.name ++ (pre ++ post).map TieM.name).Nodup → (pre ++ post).length ≤ 24 →
    (∀ l ∈ post, 0 ≤ l.frm ∧ l.frm < N.buses.length ∧ 0 ≤ l.to ∧ l.to < N.buses.length ∧ l.frm ≠ l.to) →
    StepsOk ⟨N.name, N.buses, N.lines, N.gens, N.loads, pre⟩ true (post.map (wordsTie N)) ⟨N.name, N.buses, N.lines, N.gens, N.loads, pre ++ post⟩
  | [], pre, _, _, _, _ => by rw [List.append_nil]; exact ⟨rfl, rfl⟩
  | b :: r, pre, h1, h2, h3, h4 => by
    have hn : b.name ∉ N.buses ++ N.lines.map LineM.name ++ N.gens.map GenM.name ++ N.loads.map LoadM.name ++ pre.map TieM.name := fun hb => by
      rw [List.map_append, ← List.append_assoc] at h2
      exact (List.nodup_append.1 h2).2.2 _ hb b.name (by simp) rfl
    obtain ⟨c1, c2, c3, c4, c5⟩ := h4 b (by simp)
    have hp1 : placeL N.buses (busAt N b.frm) = b.frm := (busAt_place hN c1 c2).1
    have hp2 : placeL N.buses (busAt N b.to) = b.to := (busAt_place hN c3 c4).1
    have htwo : twoE N.buses (busAt N b.frm) (busAt N b.to) = 0 := two_ok hN c1 c2 c3 c4 c5
    have hnew : newNameE ⟨N.name, N.buses, N.lines, N.gens, N.loads, pre⟩ b.name (pre.length : Int) 24 = 0 := by
      refine new_ok (h1 b (by simp)) ?_ ?_
      · simpa [namesM] using hn
      · simp at h3 ⊢; omega
    have hst : ((if b.closed then kClosed else kOpen).toList == [111, 112, 101, 110]) = !b.closed ∧ ((if b.closed then kClosed else kOpen).toList == [99, 108, 111, 115, 101, 100]) = b.closed := by
      cases b.closed <;> exact ⟨by decide +kernel, by decide +kernel⟩
    have hstep : stepE ⟨N.name, N.buses, N.lines, N.gens, N.loads, pre⟩ (wordsTie N b) = 0 := by
      unfold wordsTie
      rw [stepE, tieE]
      simp only [hnew, htwo, hst.1, hst.2]
      cases b.closed <;> rfl
    have hnext : stepN ⟨N.name, N.buses, N.lines, N.gens, N.loads, pre⟩ (wordsTie N b) = ⟨N.name, N.buses, N.lines, N.gens, N.loads, pre ++ [b]⟩ := by
      unfold wordsTie
      rw [stepN]
      simp only [tieM, hp1, hp2, hst.2]
    have ih := steps_tieM N hN r (pre ++ [b]) (fun x hx => h1 x (by simp [hx])) (by simpa using h2) (by simpa using h3) (fun x hx => h4 x (by simp [hx]))
    rw [List.map_cons]
    refine ⟨rfl, by decide, hstep, ?_⟩
    show StepsOk (stepN ⟨N.name, N.buses, N.lines, N.gens, N.loads, pre⟩ (wordsTie N b)) true _ _
    rw [hnext]
    simpa using ih
theorem ge48 {c : UInt8} (h : 48 ≤ (c.toNat : Int)) : blankU c = false ∧ c ≠ 10 ∧ c ≠ 35 := by
  have hne : ∀ d : UInt8, d.toNat < 48 → c ≠ d := fun d hd e => by subst e; omega
  refine ⟨?_, hne 10 (by decide), hne 35 (by decide)⟩
  unfold blankU
  rw [beq_eq_false_iff_ne.2 (hne 9 (by decide)), beq_eq_false_iff_ne.2 (hne 13 (by decide)), beq_eq_false_iff_ne.2 (hne 32 (by decide))]
  rfl
theorem okR_ge {r : Int} {n : Nat} (h : okR r n = true) : 48 ≤ r := by
  unfold okR letterB digitB at h
  simp only [Bool.or_eq_true, Bool.and_eq_true, decide_eq_true_eq, beq_iff_eq] at h
  omega
set_option maxRecDepth 100000 in
theorem name_go : ∀ (l : List UInt8) (p : Option UInt8) (n : Nat), nameGo l p n = true → (∀ c ∈ l, blankU c = false ∧ c ≠ 10 ∧ c ≠ 35) ∧ l.length + 2 * n + (if p.isSome then 1 else 0) ≤ 32
  | [], none, n, h => by
    rw [nameGo, countB] at h
    simp only [Bool.and_eq_true, decide_eq_true_eq] at h
    refine ⟨fun c hc => (by cases hc), ?_⟩
    simp
    omega
  | [], some _, n, h => by rw [nameGo] at h; cases h
  | c :: l, none, n, h => by
    cases ha : asciiB c with
    | true =>
      rw [nameGo_ascii c l n ha] at h
      cases ho : okR (runeU c) n with
      | false => rw [ho] at h; cases h
      | true =>
        rw [ho, cond_true] at h
        obtain ⟨h1, h2⟩ := name_go l none (n + 1) h
        refine ⟨fun d hd => ?_, ?_⟩
        · rcases List.mem_cons.1 hd with rfl | hd
          · exact ge48 (okR_ge ho)
          · exact h1 d hd
        · simp at h2 ⊢
          omega
    | false =>
      rw [nameGo_lead c l n ha] at h
      cases hl : leadB c with
      | false => rw [hl] at h; cases h
      | true =>
        rw [hl, cond_true] at h
        obtain ⟨h1, h2⟩ := name_go l (some c) n h
        refine ⟨fun d hd => ?_, ?_⟩
        · rcases List.mem_cons.1 hd with rfl | hd
          · unfold leadB at hl
            simp only [Bool.and_eq_true, decide_eq_true_eq] at hl
            exact ge48 (by omega)
          · exact h1 d hd
        · simp at h2 ⊢
          omega
  | d :: l, some c, n, h => by
    rw [nameGo_cont] at h
    cases hc : contB d with
    | false => rw [hc] at h; cases h
    | true =>
      rw [hc, cond_true] at h
      cases ho : okR (runeOf c d) n with
      | false => rw [ho] at h; cases h
      | true =>
        rw [ho, cond_true] at h
        obtain ⟨h1, h2⟩ := name_go l none (n + 1) h
        refine ⟨fun e he => ?_, ?_⟩
        · rcases List.mem_cons.1 he with rfl | he
          · unfold contB at hc
            simp only [Bool.and_eq_true, decide_eq_true_eq] at hc
            exact ge48 (by omega)
          · exact h1 e he
        · simp at h2 ⊢
          omega
theorem name_wdy {x : ByteArray} (h : nameL (bytesOf x) = true) : Wdy x := by
  obtain ⟨h1, h2⟩ := name_go _ none 0 h
  refine ⟨⟨fun e => ?_, h1⟩, ?_⟩
  · rw [e] at h
    cases h
  · rw [length_bytesOf] at h2
    simp at h2
    exact h2
theorem dec_wdy {v : Int} (h0 : 0 ≤ v) (h1 : v ≤ 100000) : Wdy (decB v) := by
  obtain ⟨_, h2, h3⟩ := decB_big h0 h1
  rw [length_bytesOf] at h3
  exact ⟨h2, by omega⟩
theorem MayM.bus_wdy {N : NetM} (h : MayM N) {i : Int} (h0 : 0 ≤ i) (h1 : i < N.buses.length) : Wdy (busAt N i) := by
  obtain ⟨u, rfl⟩ := Int.eq_ofNat_of_zero_le h0
  have hu : u < N.buses.length := by omega
  have e : busAt N (u : Int) = N.buses[u] := by
    unfold busAt
    rw [Int.toNat_natCast, List.getD_eq_getElem?_getD, List.getElem?_eq_getElem hu]
    rfl
  rw [e]
  exact name_wdy (h.names _ (by simp [namesM]))
theorem wd_k2 : Wdy kGen ∧ Wdy kLoad := ⟨⟨wordy_dec (by decide +kernel), by decide⟩, ⟨wordy_dec (by decide +kernel), by decide⟩⟩
theorem toldM_words {N : NetM} (h : MayM N) : ∀ ws ∈ toldM N, ws.length ≤ 6 ∧ ∀ x ∈ ws, Wdy x := by
  obtain ⟨kn, kb, kl, kt, ko, kc⟩ := wd_k
  obtain ⟨kg, kd⟩ := wd_k2
  have hnm : ∀ x ∈ namesM N, Wdy x := fun x hx => name_wdy (h.names x hx)
  intro ws hws
  unfold toldM at hws
  simp only [List.cons_append, List.mem_cons, List.mem_append, List.mem_map] at hws
  rcases hws with rfl | (((⟨b, hb, rfl⟩ | ⟨b, hb, rfl⟩) | ⟨b, hb, rfl⟩) | ⟨b, hb, rfl⟩) | ⟨b, hb, rfl⟩
  · refine ⟨by simp, fun x hx => ?_⟩
    simp only [List.mem_cons, List.not_mem_nil, or_false] at hx
    rcases hx with rfl | rfl
    · exact kn
    · exact name_wdy h.nm
  · refine ⟨by simp, fun x hx => ?_⟩
    simp only [List.mem_cons, List.not_mem_nil, or_false] at hx
    rcases hx with rfl | rfl
    · exact kb
    · exact hnm _ (by simp [namesM, hb])
  · refine ⟨by simp [wordsLine], fun x hx => ?_⟩
    obtain ⟨c1, c2, c3, c4, c5, c6, c7, c8, c9⟩ := h.lines b hb
    simp only [wordsLine, List.mem_cons, List.not_mem_nil, or_false] at hx
    rcases hx with rfl | rfl | rfl | rfl | rfl | rfl
    · exact kl
    · refine hnm _ ?_
      simp only [namesM, List.mem_append, List.mem_map]
      exact .inl (.inl (.inl (.inr ⟨b, hb, rfl⟩)))
    · exact h.bus_wdy c1 c2
    · exact h.bus_wdy c3 c4
    · exact dec_wdy (by omega) (by omega)
    · exact dec_wdy c8 c9
  · refine ⟨by simp [wordsGen], fun x hx => ?_⟩
    obtain ⟨c1, c2, c3, c4, c5, c6, c7, c8⟩ := h.gens b hb
    simp only [wordsGen, List.mem_cons, List.not_mem_nil, or_false] at hx
    rcases hx with rfl | rfl | rfl | rfl | rfl | rfl
    · exact kg
    · refine hnm _ ?_
      simp only [namesM, List.mem_append, List.mem_map]
      exact .inl (.inl (.inr ⟨b, hb, rfl⟩))
    · exact h.bus_wdy c1 c2
    · exact dec_wdy c3 c4
    · exact dec_wdy (by omega) c6
    · exact dec_wdy c7 c8
  · refine ⟨by simp [wordsLoad], fun x hx => ?_⟩
    obtain ⟨c1, c2, c3, c4⟩ := h.loads b hb
    simp only [wordsLoad, List.mem_cons, List.not_mem_nil, or_false] at hx
    rcases hx with rfl | rfl | rfl | rfl
    · exact kd
    · refine hnm _ ?_
      simp only [namesM, List.mem_append, List.mem_map]
      exact .inl (.inr ⟨b, hb, rfl⟩)
    · exact h.bus_wdy c1 c2
    · exact dec_wdy c3 c4
  · refine ⟨by simp [wordsTie], fun x hx => ?_⟩
    obtain ⟨c1, c2, c3, c4, c5⟩ := h.ties b hb
    simp only [wordsTie, List.mem_cons, List.not_mem_nil, or_false] at hx
    rcases hx with rfl | rfl | rfl | rfl | rfl
    · exact kt
    · refine hnm _ ?_
      simp only [namesM, List.mem_append, List.mem_map]
      exact .inr ⟨b, hb, rfl⟩
    · exact h.bus_wdy c1 c2
    · exact h.bus_wdy c3 c4
    · cases b.closed
      · exact ko
      · exact kc
theorem toldM_len {N : NetM} (h : MayM N) : (textT (toldM N)).length ≤ 20000 := by
  have h1 : (textT (toldM N)).length ≤ (toldM N).length * 199 := by
    refine text_len _ (fun ws hws => ?_)
    obtain ⟨h2, h3⟩ := toldM_words h ws hws
    have h4 := join_len (ws.map bytesOf) (fun x hx => by obtain ⟨y, hy, rfl⟩ := List.mem_map.1 hx; rw [length_bytesOf]; exact (h3 y hy).2)
    have h5 : (lineT ws).length ≤ ws.length * 33 := by simpa [lineT] using h4
    omega
  have h2 : (toldM N).length = 1 + N.buses.length + N.lines.length + N.gens.length + N.loads.length + N.ties.length := by
    simp [toldM]
    omega
  obtain ⟨f1, f2, f3, f4, f5⟩ := h.fits
  omega
theorem may_steps {N : NetM} (h : MayM N) : StepsOk emptyNet false (toldM N) N := by
  obtain ⟨f1, f2, f3, f4, f5⟩ := h.fits
  have hn := h.names
  have hd := h.nodup
  have hd4 : (N.buses ++ N.lines.map LineM.name ++ N.gens.map GenM.name ++ N.loads.map LoadM.name).Nodup := (List.nodup_append.1 hd).1
  have hd3 : (N.buses ++ N.lines.map LineM.name ++ N.gens.map GenM.name).Nodup := (List.nodup_append.1 hd4).1
  have hd2 : (N.buses ++ N.lines.map LineM.name).Nodup := (List.nodup_append.1 hd3).1
  have hd0 : N.buses.Nodup := (List.nodup_append.1 hd2).1
  have s1 := steps_buses N.name N.buses [] (fun x hx => hn x (by simp [namesM, hx])) (by simpa using hd0) (by simpa using f1)
  have s2 := steps_lineM N hd0 N.lines [] (fun x hx => hn _ (by
    simp only [namesM, List.mem_append, List.mem_map]
    exact .inl (.inl (.inl (.inr ⟨x, hx, rfl⟩))))) (by simpa using hd2) (by simpa using f2) h.lines
  have s3 := steps_genM N hd0 N.gens [] (fun x hx => hn _ (by
    simp only [namesM, List.mem_append, List.mem_map]
    exact .inl (.inl (.inr ⟨x, hx, rfl⟩)))) (by simpa using hd3) (by simpa using f3) h.gens
  have s4 := steps_loadM N hd0 N.loads [] (fun x hx => hn _ (by
    simp only [namesM, List.mem_append, List.mem_map]
    exact .inl (.inr ⟨x, hx, rfl⟩))) (by simpa using hd4) (by simpa using f4) h.loads
  have s5 := steps_tieM N hd0 N.ties [] (fun x hx => hn _ (by
    simp only [namesM, List.mem_append, List.mem_map]
    exact .inr ⟨x, hx, rfl⟩)) (by have := hd; unfold namesM at this; simpa using this) (by simpa using f5) h.ties
  rw [List.nil_append] at s1 s2 s3 s4 s5
  have s := StepsOk.app _ _ _ _ _ _ (StepsOk.app _ _ _ _ _ _ (StepsOk.app _ _ _ _ _ _ (StepsOk.app _ _ _ _ _ _ s1 s2) s3) s4) s5
  have hstep : stepE emptyNet [kNet, N.name] = 0 := by
    rw [stepE, if_pos rfl]
    unfold netE
    rw [h.nm]
    rfl
  have hnext : stepN emptyNet [kNet, N.name] = ⟨N.name, [], [], [], [], []⟩ := by
    rw [stepN, if_pos rfl]
    rfl
  unfold toldM
  refine ⟨rfl, by decide, hstep, ?_⟩
  rw [hnext]
  exact s
/-- The text of a network that may be, read, is the network. -/
theorem may_read {N : NetM} (h : MayM N) : readNetM (textOf (textT (toldM N))) = ((0, 0), N) :=
  read_text (toldM N) N (fun ws hws x hx => ((toldM_words h ws hws).2 x hx).1) (may_steps h) (toldM_len h)
end Go.Proofs.YtpbalclhdhjnoaaGreatDoor
