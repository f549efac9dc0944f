/- The map of names against the network that was read. -/
import Derived.Test.YtpbalclhdhjnoaaGreatDoorKC5
import Derived.Test.YtpbalclhdhjnoaaGreatDoorKB8
import Derived.Test.YtpbalclhdhjnoaaGreatDoorKC3
import Derived.Test.YtpbalclhdhjnoaaGreatDoorKC4
namespace Go.Proofs.YtpbalclhdhjnoaaGreatDoor
open Go.RowKit Go.Maps
open scoped Classical

theorem placeFrom_mem (s : ByteArray) : ∀ (xs : List ByteArray) (base : Nat), s ∈ xs → (base : Int) ≤ placeFrom s base xs
  | x :: r, base, h => by
    rw [placeFrom]
    split
    · exact Int.le_refl _
    · rename_i hne
      have hr : s ∈ r := by
        rcases List.mem_cons.1 h with h | h
        · exact absurd h.symm hne
        · exact h
      have := placeFrom_mem s r (base + 1) hr
      omega
theorem placeFrom_not (s : ByteArray) : ∀ (xs : List ByteArray) (base : Nat), s ∉ xs → placeFrom s base xs = -1
  | [], _, _ => rfl
  | x :: r, base, h => by
    have h1 : ¬ x = s := fun e => h (by simp [e])
    have h2 : s ∉ r := fun e => h (by simp [e])
    rw [placeFrom, if_neg h1]
    exact placeFrom_not s r (base + 1) h2
theorem placeFrom_app (s : ByteArray) (ys : List ByteArray) : ∀ (xs : List ByteArray) (base : Nat), placeFrom s base (xs ++ ys) = if s ∈ xs then placeFrom s base xs else placeFrom s (base + xs.length) ys
  | [], base => by simp
  | x :: r, base => by
    rw [List.cons_append, placeFrom, placeFrom]
    by_cases h : x = s
    · simp [h]
    · rw [if_neg h, if_neg h, placeFrom_app s ys r (base + 1)]
      have h' : ¬ s = x := fun e => h e.symm
      simp only [List.mem_cons, h', false_or, List.length_cons]
      congr 2
      omega
theorem placeL_iff {xs : List ByteArray} {s : ByteArray} : 0 ≤ placeL xs s ↔ s ∈ xs := by
  constructor
  · intro h
    apply Classical.byContradiction
    intro hn
    have := placeFrom_not s xs 0 hn
    unfold placeL at h
    omega
  · intro h
    have := placeFrom_mem s xs 0 h
    unfold placeL
    omega
/-- Of each name that is taken its bus, or -1. -/
def Rel (f : Taken) (N : NetM) : Prop := ∀ x : ByteArray, f (bytesOf x) = if x ∈ N.buses then some (placeL N.buses x) else if x ∈ namesM N then some (-1) else none
theorem bus_name {N : NetM} {x : ByteArray} (h : x ∈ N.buses) : x ∈ namesM N := by simp [namesM, h]
theorem Rel.some {f : Taken} {N : NetM} (h : Rel f N) (x : ByteArray) : (f (bytesOf x)).isSome = decide (x ∈ namesM N) := by
  rw [h x]
  by_cases h1 : x ∈ N.buses
  · simp [h1, bus_name h1]
  · by_cases h2 : x ∈ namesM N <;> simp [h1, h2]
theorem Rel.place {f : Taken} {N : NetM} (h : Rel f N) {x p : ByteArray} (hx : x ∉ namesM N) (hp : p ∈ N.buses) : (f.set (bytesOf x) (-1)) (bytesOf p) = .some (placeL N.buses p) ∧ placeL N.buses p ≠ -1 := by
  have hne : ¬ bytesOf p = bytesOf x := fun e => hx (bytesOf_inj e ▸ bus_name hp)
  refine ⟨?_, ?_⟩
  · simp only [Taken.set, if_neg hne, h p, if_pos hp]
  · have := placeL_iff.2 hp
    omega
theorem Rel.noPlace {f : Taken} {N : NetM} (h : Rel f N) {x p : ByteArray} (hp : p ∉ N.buses) : noPlace (f.set (bytesOf x) (-1)) p := by
  unfold YtpbalclhdhjnoaaGreatDoor.noPlace Taken.set
  by_cases hne : bytesOf p = bytesOf x
  · simp [hne]
  · rw [if_neg hne, h p, if_neg hp]
    by_cases h2 : p ∈ namesM N <;> simp [h2]
theorem Rel.empty : Rel (fun _ => none) ⟨⟨#[]⟩, [], [], [], [], []⟩ := fun x => by simp [namesM]
theorem Rel.name {f : Taken} {N : NetM} (h : Rel f N) (x : ByteArray) : Rel f { N with name := x } := h
theorem Rel.more {f : Taken} {N N' : NetM} {x : ByteArray} (h : Rel f N) (hx : x ∉ namesM N) (hb : N'.buses = N.buses) (hm : ∀ y, y ∈ namesM N' ↔ y = x ∨ y ∈ namesM N) : Rel (f.set (bytesOf x) (-1)) N' := by
  intro y
  unfold Taken.set
  rw [hb]
  by_cases hne : bytesOf y = bytesOf x
  · have := bytesOf_inj hne
    subst this
    have hnb : y ∉ N.buses := fun e => hx (bus_name e)
    simp [hnb, hm]
  · have hne' : ¬ y = x := fun e => hne (by rw [e])
    rw [if_neg hne, h y]
    simp [hm, hne']
theorem Rel.bus {f : Taken} {N : NetM} {x : ByteArray} (h : Rel f N) (hx : x ∉ namesM N) : Rel ((f.set (bytesOf x) (-1)).set (bytesOf x) N.buses.length) { N with buses := N.buses ++ [x] } := by
  intro y
  have hnb : x ∉ N.buses := fun e => hx (bus_name e)
  unfold Taken.set
  by_cases hne : bytesOf y = bytesOf x
  · have := bytesOf_inj hne
    subst this
    have : placeL (N.buses ++ [y]) y = N.buses.length := by
      unfold placeL
      rw [placeFrom_app, if_neg hnb]
      simp [placeFrom]
    simp [this]
  · have hne' : ¬ y = x := fun e => hne (by rw [e])
    simp only [if_neg hne]
    rw [h y]
    by_cases hb : y ∈ N.buses
    · have : placeL (N.buses ++ [x]) y = placeL N.buses y := by
        unfold placeL
        rw [placeFrom_app, if_pos hb]
      simp [hb, this]
    · simp [hb, hne', namesM]
end Go.Proofs.YtpbalclhdhjnoaaGreatDoor
namespace Go.Proofs.YtpbalclhdhjnoaaGreatDoor
open Go.RowKit Go.Maps
open scoped Classical

section
variable {B Z K M n : Nat} {N : NetM} {f : Taken} {at_ cnt most lo hi : Int} {x p q y : ByteArray} {ws : List ByteArray}
theorem newName_wrong (hr : Rel f N) (hx : x.size ≤ 20000) (h0 : newNameE N x cnt most ≠ 0) (W : World) (hs : St W B Z K M N n f at_ (x :: ws)) :
    Calls Tryz.prog 79 #[.pointer (some ⟨K, 0, none⟩), .int .i64 cnt, .int .i64 most] W fun e w' => e = gaveUp (newNameE N x cnt most) at_ ∧ Fr K M W w' := by
  unfold newNameE at h0 ⊢
  cases hv : nameL (bytesOf x) with
  | false =>
    rw [if_pos rfl]
    exact newName_bad B Z K M n N f x ws at_ cnt most W hs hx hv
  | true =>
    rw [hv] at h0
    rw [if_neg (by decide)] at h0 ⊢
    have hsome := hr.some x
    by_cases h1 : 0 ≤ placeL (namesM N) x
    · rw [if_pos h1]
      exact newName_twice B Z K M n N f x ws at_ cnt most W hs hx hv (by rw [hsome]; exact decide_eq_true (placeL_iff.1 h1))
    · rw [if_neg h1] at h0 ⊢
      by_cases h2 : most ≤ cnt
      · rw [if_pos h2]
        exact newName_full B Z K M n N f x ws at_ cnt most W hs hx hv (by rw [hsome]; exact decide_eq_false (fun h => h1 (placeL_iff.2 h))) (by omega)
      · rw [if_neg h2] at h0
        exact absurd rfl h0
theorem newName_right (hr : Rel f N) (h0 : newNameE N x cnt most = 0) : nameL (bytesOf x) = true ∧ (f (bytesOf x)).isSome = false ∧ cnt < most ∧ x ∉ namesM N := by
  unfold newNameE at h0
  cases hv : nameL (bytesOf x) with
  | false => rw [hv, if_pos rfl] at h0; cases h0
  | true =>
    rw [hv, if_neg (by decide)] at h0
    by_cases h1 : 0 ≤ placeL (namesM N) x
    · rw [if_pos h1] at h0; cases h0
    · rw [if_neg h1] at h0
      by_cases h2 : most ≤ cnt
      · rw [if_pos h2] at h0; cases h0
      · have h3 : x ∉ namesM N := fun h => h1 (placeL_iff.2 h)
        exact ⟨rfl, by rw [hr.some x]; exact decide_eq_false h3, by omega, h3⟩
theorem neg_not {xs : List ByteArray} (h : placeL xs p < 0) : p ∉ xs := fun hm => by have := placeL_iff.2 hm; omega
theorem nonneg_mem {xs : List ByteArray} (h : ¬ placeL xs p < 0) : p ∈ xs := placeL_iff.1 (by omega)
theorem place_wrong (hr : Rel f N) (hp : p.size ≤ 20000) (h0 : placeL N.buses p < 0) (W : World) (hs : St W B Z K M N n (f.set (bytesOf x) (-1)) at_ (p :: ws)) :
    Calls Tryz.prog 82 #[.pointer (some ⟨K, 0, none⟩)] W fun e w' => e = gaveUp 9 at_ ∧ Fr K M W w' :=
  place_no B Z K M n N _ p ws at_ W hs hp (hr.noPlace (neg_not h0))
theorem ends_wrong (hr : Rel f N) (hx : x ∉ namesM N) (hp : p.size ≤ 20000) (hq : q.size ≤ 20000) (h0 : twoE N.buses p q ≠ 0) (W : World) (hs : St W B Z K M N n (f.set (bytesOf x) (-1)) at_ (p :: q :: ws)) :
    Calls Tryz.prog 80 #[.pointer (some ⟨K, 0, none⟩)] W fun e w' => e = gaveUp (twoE N.buses p q) at_ ∧ Fr K M W w' := by
  unfold twoE at h0 ⊢
  by_cases h1 : placeL N.buses p < 0
  · rw [if_pos h1]
    exact ends_first B Z K M n N _ p (q :: ws) at_ W hs hp (hr.noPlace (neg_not h1))
  · rw [if_neg h1] at h0 ⊢
    obtain ⟨e1, e2⟩ := hr.place hx (nonneg_mem h1)
    by_cases h2 : placeL N.buses q < 0
    · rw [if_pos h2]
      exact ends_second B Z K M n N _ p q ws at_ _ W hs hp hq e1 e2 (hr.noPlace (neg_not h2))
    · rw [if_neg h2] at h0 ⊢
      obtain ⟨e3, _⟩ := hr.place hx (nonneg_mem h2)
      by_cases h3 : placeL N.buses p = placeL N.buses q
      · rw [if_pos h3]
        exact ends_one B Z K M n N _ p q ws at_ _ W hs hp hq e1 e2 (by rw [e3, h3])
      · rw [if_neg h3] at h0
        exact absurd rfl h0
theorem ends_right (h0 : twoE N.buses p q = 0) : p ∈ N.buses ∧ q ∈ N.buses ∧ placeL N.buses p ≠ placeL N.buses q := by
  unfold twoE at h0
  by_cases h1 : placeL N.buses p < 0
  · rw [if_pos h1] at h0; cases h0
  · rw [if_neg h1] at h0
    by_cases h2 : placeL N.buses q < 0
    · rw [if_pos h2] at h0; cases h0
    · rw [if_neg h2] at h0
      by_cases h3 : placeL N.buses p = placeL N.buses q
      · rw [if_pos h3] at h0; cases h0
      · exact ⟨nonneg_mem h1, nonneg_mem h2, h3⟩
def numE (y : ByteArray) (lo hi : Int) : Int := if numL (bytesOf y) < 0 then 1 else if numL (bytesOf y) < lo ∨ hi < numL (bytesOf y) then 4 else 0
theorem num_wrong (hy : y.size ≤ 20000) (h0 : numE y lo hi ≠ 0) (W : World) (hs : St W B Z K M N n f at_ (y :: ws)) :
    Calls Tryz.prog 81 #[.pointer (some ⟨K, 0, none⟩), .int .i64 lo, .int .i64 hi] W fun e w' => e = gaveUp (numE y lo hi) at_ ∧ Fr K M W w' := by
  unfold numE at h0 ⊢
  by_cases h1 : numL (bytesOf y) < 0
  · rw [if_pos h1]
    exact num_form hs hy h1
  · rw [if_neg h1] at h0 ⊢
    by_cases h2 : numL (bytesOf y) < lo ∨ hi < numL (bytesOf y)
    · rw [if_pos h2]
      exact num_range hs hy h1 h2
    · rw [if_neg h2] at h0
      exact absurd rfl h0
theorem num_right (h0 : numE y lo hi = 0) : 0 ≤ numL (bytesOf y) ∧ ¬ (numL (bytesOf y) < lo ∨ hi < numL (bytesOf y)) := by
  unfold numE at h0
  by_cases h1 : numL (bytesOf y) < 0
  · rw [if_pos h1] at h0; cases h0
  · rw [if_neg h1] at h0
    by_cases h2 : numL (bytesOf y) < lo ∨ hi < numL (bytesOf y)
    · rw [if_pos h2] at h0; cases h0
    · exact ⟨by omega, h2⟩
theorem numsE_cons (ys : List ByteArray) (ls hs : List Int) : numsE (y :: ys) (lo :: ls) (hi :: hs) = if numE y lo hi ≠ 0 then numE y lo hi else numsE ys ls hs := by
  rw [numsE]
  unfold numE
  by_cases h1 : numL (bytesOf y) < 0
  · simp [h1]
  · by_cases h2 : numL (bytesOf y) < lo ∨ hi < numL (bytesOf y)
    · simp [h1, h2]
    · simp only [if_neg h1, if_neg h2]
      simp
theorem numsE_nil (ls hs : List Int) : numsE [] ls hs = 0 := by
  rw [numsE]
  intros
  simp_all
end
end Go.Proofs.YtpbalclhdhjnoaaGreatDoor
namespace Go.Proofs.YtpbalclhdhjnoaaGreatDoor
open Go.RowKit Go.Maps
open scoped Classical

/-- What a line comes to: it gives up with E, or, where E is 0, the state is that of the network N'. -/
def Out (B K M c : Nat) (N' : NetM) (E at_ : Int) (w : World) (e : Ending) (w' : World) : Prop :=
  Bel B w w' ∧ (E ≠ 0 → e = gaveUp E at_) ∧ (E = 0 → e = .returned (.tuple #[]) ∧ ∃ n' f', n' ≤ c ∧ St w' B w'.heap.size K M N' n' f' at_ [] ∧ Rel f' N')
theorem Out.bad {B K M c : Nat} {N' : NetM} {E at_ : Int} {w w' : World} (hb : Bel B w w') (h : E ≠ 0) : Out B K M c N' E at_ w (gaveUp E at_) w' := ⟨hb, fun _ => rfl, fun h' => absurd h' h⟩
theorem Out.good {B K M c n' : Nat} {N' : NetM} {E at_ : Int} {f' : Taken} {w w' : World} (hb : Bel B w w') (h : E = 0) (hn : n' ≤ c) (hs : St w' B w'.heap.size K M N' n' f' at_ []) (hr : Rel f' N') : Out B K M c N' E at_ w (.returned (.tuple #[])) w' :=
  ⟨hb, fun h' => absurd h h', fun _ => ⟨rfl, n', f', hn, hs, hr⟩⟩
theorem bus_out (B Z K M n : Nat) (N : NetM) (f : Taken) (x : ByteArray) (at_ : Int) (w : World) (hs : St w B Z K M N n f at_ [x]) (hr : Rel f N) (hx : x.size ≤ 20000) (hn : n ≤ 5000) :
    Calls Tryz.prog 65 #[.pointer (some ⟨K, 0, none⟩)] w (Out B K M (n + 2) { N with buses := N.buses ++ [x] } (newNameE N x N.buses.length 16) at_ w) := by
  by_cases e0 : newNameE N x N.buses.length 16 ≠ 0
  · refine (bus_err B Z K M n N f [x] at_ _ w hs (newName_wrong hr hx e0 w hs)).mono ?_
    rintro e w' ⟨rfl, hb⟩
    exact .bad hb e0
  · have e1 : newNameE N x N.buses.length 16 = 0 := Classical.not_not.1 e0
    obtain ⟨h1, h2, h3, h4⟩ := newName_right hr e1
    refine (bus_ok B Z K M n N f x at_ w hs hx hn h1 h2 (by omega)).mono ?_
    rintro e w' ⟨rfl, hs', hb⟩
    exact .good hb e1 (Nat.le_refl _) hs' (hr.bus h4)

theorem loadE_eq (N : NetM) (x p y : ByteArray) : loadE N x p y = (if newNameE N x N.loads.length 16 ≠ 0 then newNameE N x N.loads.length 16 else (if placeL N.buses p < 0 then 9 else (if numE y 0 100000 ≠ 0 then numE y 0 100000 else 0))) := by
  unfold loadE
  rw [numsE_cons, numsE_nil]
theorem load_out (B Z K M n : Nat) (N : NetM) (f : Taken) (x p y : ByteArray) (at_ : Int) (w : World) (hs : St w B Z K M N n f at_ [x, p, y]) (hZ : Z ≤ w.heap.size) (hr : Rel f N) (hsx : x.size ≤ 20000) (hsp : p.size ≤ 20000) (hsy : y.size ≤ 20000) (hn : n ≤ 5000) :
    Calls Tryz.prog 68 #[.pointer (some ⟨K, 0, none⟩)] w (Out B K M (n + 2) { N with loads := N.loads ++ [loadM N x p y] } (loadE N x p y) at_ w) := by
  rw [loadE_eq]
  by_cases e0 : newNameE N x N.loads.length 16 ≠ 0
  · rw [if_pos e0]
    refine (load_err0 B Z K M n N f x p y at_ _ w hs hZ (newName_wrong hr hsx e0)).mono ?_
    rintro e w' ⟨rfl, hb⟩
    exact .bad hb e0
  rw [if_neg e0]
  obtain ⟨h1, h2, h3, h4⟩ := newName_right hr (Classical.not_not.1 e0)
  have hl : N.loads.length < 16 := by omega
  by_cases c1 : placeL N.buses p < 0
  · rw [if_pos c1]
    refine (load_err1 B Z K M n N f x p y at_ _ w hs hZ hsx hn h1 h2 hl (place_wrong hr hsp c1)).mono ?_
    rintro e w' ⟨rfl, hb⟩
    exact .bad hb (by decide)
  rw [if_neg c1]
  obtain ⟨p1, p2⟩ := hr.place h4 (nonneg_mem c1)
  by_cases c2 : numE y 0 100000 ≠ 0
  · rw [if_pos c2]
    refine (load_err2 B Z K M n N f x p y at_ _ _ w hs hZ hsx hn h1 h2 hl hsp p1 p2 (num_wrong hsy c2)).mono ?_
    rintro e w' ⟨rfl, hb⟩
    exact .bad hb c2
  rw [if_neg c2]
  obtain ⟨a2, b2⟩ := num_right (Classical.not_not.1 c2)
  refine (load_ok B Z K M n N f x p y at_ _ w hs hZ hsx hsp hsy hn h1 h2 hl p1 p2 a2 b2).mono ?_
  rintro e w' ⟨rfl, hs', hb⟩
  refine .good hb rfl (Nat.le_succ _) hs' (hr.more h4 rfl fun v => ?_)
  by_cases hvx : v = x <;> simp [namesM, loadM, hvx]

theorem genE_eq (N : NetM) (x p y z r : ByteArray) : genE N x p y z r = (if newNameE N x N.gens.length 12 ≠ 0 then newNameE N x N.gens.length 12 else (if placeL N.buses p < 0 then 9 else (if numE y 0 100000 ≠ 0 then numE y 0 100000 else (if numE z (numL (bytesOf y)) 100000 ≠ 0 then numE z (numL (bytesOf y)) 100000 else (if numE r 0 100000 ≠ 0 then numE r 0 100000 else 0))))) := by
  unfold genE
  rw [numsE_cons, numsE_nil, numsE_cons, numsE_cons, numsE_nil]
  by_cases h : numE y 0 100000 ≠ 0
  · simp only [if_pos h]
  · simp only [if_neg h, ne_eq, not_true_eq_false, if_false]
theorem gen_out (B Z K M n : Nat) (N : NetM) (f : Taken) (x p y z r : ByteArray) (at_ : Int) (w : World) (hs : St w B Z K M N n f at_ [x, p, y, z, r]) (hZ : Z ≤ w.heap.size) (hr : Rel f N) (hsx : x.size ≤ 20000) (hsp : p.size ≤ 20000) (hsy : y.size ≤ 20000) (hsz : z.size ≤ 20000) (hsr : r.size ≤ 20000) (hn : n ≤ 5000) :
    Calls Tryz.prog 67 #[.pointer (some ⟨K, 0, none⟩)] w (Out B K M (n + 2) { N with gens := N.gens ++ [genM N x p y z r] } (genE N x p y z r) at_ w) := by
  rw [genE_eq]
  by_cases e0 : newNameE N x N.gens.length 12 ≠ 0
  · rw [if_pos e0]
    refine (gen_err0 B Z K M n N f x p y z r at_ _ w hs hZ (newName_wrong hr hsx e0)).mono ?_
    rintro e w' ⟨rfl, hb⟩
    exact .bad hb e0
  rw [if_neg e0]
  obtain ⟨h1, h2, h3, h4⟩ := newName_right hr (Classical.not_not.1 e0)
  have hl : N.gens.length < 12 := by omega
  by_cases c1 : placeL N.buses p < 0
  · rw [if_pos c1]
    refine (gen_err1 B Z K M n N f x p y z r at_ _ w hs hZ hsx hn h1 h2 hl (place_wrong hr hsp c1)).mono ?_
    rintro e w' ⟨rfl, hb⟩
    exact .bad hb (by decide)
  rw [if_neg c1]
  obtain ⟨p1, p2⟩ := hr.place h4 (nonneg_mem c1)
  by_cases c2 : numE y 0 100000 ≠ 0
  · rw [if_pos c2]
    refine (gen_err2 B Z K M n N f x p y z r at_ _ _ w hs hZ hsx hn h1 h2 hl hsp p1 p2 (num_wrong hsy c2)).mono ?_
    rintro e w' ⟨rfl, hb⟩
    exact .bad hb c2
  rw [if_neg c2]
  obtain ⟨a2, b2⟩ := num_right (Classical.not_not.1 c2)
  by_cases c3 : numE z (numL (bytesOf y)) 100000 ≠ 0
  · rw [if_pos c3]
    refine (gen_err3 B Z K M n N f x p y z r at_ _ _ w hs hZ hsx hn h1 h2 hl hsp p1 p2 hsy a2 b2 (num_wrong hsz c3)).mono ?_
    rintro e w' ⟨rfl, hb⟩
    exact .bad hb c3
  rw [if_neg c3]
  obtain ⟨a3, b3⟩ := num_right (Classical.not_not.1 c3)
  by_cases c4 : numE r 0 100000 ≠ 0
  · rw [if_pos c4]
    refine (gen_err4 B Z K M n N f x p y z r at_ _ _ w hs hZ hsx hn h1 h2 hl hsp p1 p2 hsy a2 b2 hsz a3 b3 (num_wrong hsr c4)).mono ?_
    rintro e w' ⟨rfl, hb⟩
    exact .bad hb c4
  rw [if_neg c4]
  obtain ⟨a4, b4⟩ := num_right (Classical.not_not.1 c4)
  refine (gen_ok B Z K M n N f x p y z r at_ _ w hs hZ hsx hsp hsy hsz hsr hn h1 h2 hl p1 p2 a2 b2 a3 b3 a4 b4).mono ?_
  rintro e w' ⟨rfl, hs', hb⟩
  refine .good hb rfl (Nat.le_succ _) hs' (hr.more h4 rfl fun v => ?_)
  by_cases hvx : v = x <;> simp [namesM, genM, hvx]

theorem lineE_eq (N : NetM) (x p r y z : ByteArray) : lineE N x p r y z = (if newNameE N x N.lines.length 30 ≠ 0 then newNameE N x N.lines.length 30 else (if twoE N.buses p r ≠ 0 then twoE N.buses p r else (if numE y 1 10000 ≠ 0 then numE y 1 10000 else (if numE z 0 100000 ≠ 0 then numE z 0 100000 else 0)))) := by
  unfold lineE
  rw [numsE_cons, numsE_cons, numsE_nil]
theorem line_out (B Z K M n : Nat) (N : NetM) (f : Taken) (x p r y z : ByteArray) (at_ : Int) (w : World) (hs : St w B Z K M N n f at_ [x, p, r, y, z]) (hZ : Z ≤ w.heap.size) (hr : Rel f N) (hsx : x.size ≤ 20000) (hsp : p.size ≤ 20000) (hsr : r.size ≤ 20000) (hsy : y.size ≤ 20000) (hsz : z.size ≤ 20000) (hn : n ≤ 5000) :
    Calls Tryz.prog 66 #[.pointer (some ⟨K, 0, none⟩)] w (Out B K M (n + 2) { N with lines := N.lines ++ [lineM N x p r y z] } (lineE N x p r y z) at_ w) := by
  rw [lineE_eq]
  by_cases e0 : newNameE N x N.lines.length 30 ≠ 0
  · rw [if_pos e0]
    refine (line_err0 B Z K M n N f x p r y z at_ _ w hs hZ (newName_wrong hr hsx e0)).mono ?_
    rintro e w' ⟨rfl, hb⟩
    exact .bad hb e0
  rw [if_neg e0]
  obtain ⟨h1, h2, h3, h4⟩ := newName_right hr (Classical.not_not.1 e0)
  have hl : N.lines.length < 30 := by omega
  by_cases c1 : twoE N.buses p r ≠ 0
  · rw [if_pos c1]
    refine (line_err1 B Z K M n N f x p r y z at_ _ w hs hZ hsx hn h1 h2 hl (ends_wrong hr h4 hsp hsr c1)).mono ?_
    rintro e w' ⟨rfl, hb⟩
    exact .bad hb c1
  rw [if_neg c1]
  obtain ⟨m1, m2, m3⟩ := ends_right (Classical.not_not.1 c1)
  obtain ⟨p1, p2⟩ := hr.place h4 m1
  obtain ⟨p3, p4⟩ := hr.place h4 m2
  by_cases c2 : numE y 1 10000 ≠ 0
  · rw [if_pos c2]
    refine (line_err2 B Z K M n N f x p r y z at_ _ _ _ w hs hZ hsx hn h1 h2 hl hsp hsr p1 p2 p3 p4 m3 (num_wrong hsy c2)).mono ?_
    rintro e w' ⟨rfl, hb⟩
    exact .bad hb c2
  rw [if_neg c2]
  obtain ⟨a2, b2⟩ := num_right (Classical.not_not.1 c2)
  by_cases c3 : numE z 0 100000 ≠ 0
  · rw [if_pos c3]
    refine (line_err3 B Z K M n N f x p r y z at_ _ _ _ w hs hZ hsx hn h1 h2 hl hsp hsr p1 p2 p3 p4 m3 hsy a2 b2 (num_wrong hsz c3)).mono ?_
    rintro e w' ⟨rfl, hb⟩
    exact .bad hb c3
  rw [if_neg c3]
  obtain ⟨a3, b3⟩ := num_right (Classical.not_not.1 c3)
  refine (line_ok B Z K M n N f x p r y z at_ _ _ w hs hZ hsx hsp hsr hsy hsz hn h1 h2 hl p1 p2 p3 p4 m3 a2 b2 a3 b3).mono ?_
  rintro e w' ⟨rfl, hs', hb⟩
  refine .good hb rfl (Nat.le_succ _) hs' (hr.more h4 rfl fun v => ?_)
  by_cases hvx : v = x <;> simp [namesM, lineM, hvx]

theorem tieE_eq (N : NetM) (x p r y : ByteArray) : tieE N x p r y = (if newNameE N x N.ties.length 24 ≠ 0 then newNameE N x N.ties.length 24 else (if twoE N.buses p r ≠ 0 then twoE N.buses p r else (if ¬ ((y.toList == [111, 112, 101, 110]) = true ∨ (y.toList == [99, 108, 111, 115, 101, 100]) = true) then 1 else 0))) := by
  unfold tieE
  by_cases a : newNameE N x N.ties.length 24 ≠ 0
  · rw [if_pos a, if_pos a]
  · rw [if_neg a, if_neg a]
    by_cases b : twoE N.buses p r ≠ 0
    · rw [if_pos b, if_pos b]
    · rw [if_neg b, if_neg b]
      by_cases h : (y.toList == [111, 112, 101, 110]) = true ∨ (y.toList == [99, 108, 111, 115, 101, 100]) = true
      · rw [if_pos h, if_neg (fun hn => hn h)]
      · rw [if_neg h, if_pos h]
theorem tie_out (B Z K M n : Nat) (N : NetM) (f : Taken) (x p r y : ByteArray) (at_ : Int) (w : World) (hs : St w B Z K M N n f at_ [x, p, r, y]) (hZ : Z ≤ w.heap.size) (hr : Rel f N) (hsx : x.size ≤ 20000) (hsp : p.size ≤ 20000) (hsr : r.size ≤ 20000) (hn : n ≤ 5000) :
    Calls Tryz.prog 69 #[.pointer (some ⟨K, 0, none⟩)] w (Out B K M (n + 2) { N with ties := N.ties ++ [tieM N x p r y] } (tieE N x p r y) at_ w) := by
  rw [tieE_eq]
  by_cases e0 : newNameE N x N.ties.length 24 ≠ 0
  · rw [if_pos e0]
    refine (tie_err0 B Z K M n N f x p r y at_ _ w hs hZ (newName_wrong hr hsx e0)).mono ?_
    rintro e w' ⟨rfl, hb⟩
    exact .bad hb e0
  rw [if_neg e0]
  obtain ⟨h1, h2, h3, h4⟩ := newName_right hr (Classical.not_not.1 e0)
  have hl : N.ties.length < 24 := by omega
  by_cases c1 : twoE N.buses p r ≠ 0
  · rw [if_pos c1]
    refine (tie_err1 B Z K M n N f x p r y at_ _ w hs hZ hsx hn h1 h2 hl (ends_wrong hr h4 hsp hsr c1)).mono ?_
    rintro e w' ⟨rfl, hb⟩
    exact .bad hb c1
  rw [if_neg c1]
  obtain ⟨m1, m2, m3⟩ := ends_right (Classical.not_not.1 c1)
  obtain ⟨p1, p2⟩ := hr.place h4 m1
  obtain ⟨p3, p4⟩ := hr.place h4 m2
  by_cases c2 : ¬ ((y.toList == [111, 112, 101, 110]) = true ∨ (y.toList == [99, 108, 111, 115, 101, 100]) = true)
  · rw [if_pos c2]
    refine (tie_err2 B Z K M n N f x p r y at_ _ _ _ w hs hZ hsx hn h1 h2 hl hsp hsr p1 p2 p3 p4 m3 (fun W hW => shut_no hW (by simpa using fun h => c2 (.inl h)) (by simpa using fun h => c2 (.inr h)))).mono ?_
    rintro e w' ⟨rfl, hb⟩
    exact .bad hb (by decide)
  rw [if_neg c2]
  refine (tie_ok B Z K M n N f x p r y at_ _ _ w hs hZ hsx hsp hsr hn h1 h2 hl p1 p2 p3 p4 m3 (Classical.not_not.1 c2)).mono ?_
  rintro e w' ⟨rfl, hs', hb⟩
  refine .good hb rfl (Nat.le_succ _) hs' (hr.more h4 rfl fun v => ?_)
  by_cases hvx : v = x <;> simp [namesM, tieM, hvx]
end Go.Proofs.YtpbalclhdhjnoaaGreatDoor
namespace Go.Proofs.YtpbalclhdhjnoaaGreatDoor
open Go.RowKit Go.Maps
open scoped Classical

theorem take_bus_out (B Z K M n c : Nat) (N N' : NetM) (f : Taken) (ws : List ByteArray) (at_ E : Int) (w : World) (hs : St w B Z K M N n f at_ (kBus :: ws)) (hb : N.name.toList.isEmpty = false) (hl : ws.length = 1)
    (hc : ∀ W, St W B Z K M N n f at_ ws → w.heap.size ≤ W.heap.size → Calls Tryz.prog 65 #[.pointer (some ⟨K, 0, none⟩)] W (Out B K M c N' E at_ W)) : Calls Tryz.prog 53 #[.pointer (some ⟨K, 0, none⟩)] w (Out B K M c N' E at_ w) := by
  by_cases h : E = 0
  · refine (take_bus_ok B Z K M n N f ws at_ w (fun w' => Bel B w w' ∧ ∃ n' f', n' ≤ c ∧ St w' B w'.heap.size K M N' n' f' at_ [] ∧ Rel f' N') hs hb hl (fun W hW hfr => ?_)).mono ?_
    · refine (hc W hW hfr.size).mono ?_
      rintro e w' ⟨hb', _, h2⟩
      obtain ⟨he, hrest⟩ := h2 h
      exact ⟨he, (hs.fr hfr).trans hb', hrest⟩
    · rintro e w' ⟨rfl, hb, hrest⟩
      exact ⟨hb, fun h' => absurd h h', fun _ => ⟨rfl, hrest⟩⟩
  · refine (take_bus_err B Z K M n N f ws at_ E w (fun w' => Bel B w w') hs hb hl (fun W hW hfr => ?_)).mono ?_
    · refine (hc W hW hfr.size).mono ?_
      rintro e w' ⟨hb', h1, _⟩
      exact ⟨h1 h, (hs.fr hfr).trans hb'⟩
    · rintro e w' ⟨rfl, hb⟩
      exact .bad hb h
theorem take_line_out (B Z K M n c : Nat) (N N' : NetM) (f : Taken) (ws : List ByteArray) (at_ E : Int) (w : World) (hs : St w B Z K M N n f at_ (kLine :: ws)) (hb : N.name.toList.isEmpty = false) (hl : ws.length = 5)
    (hc : ∀ W, St W B Z K M N n f at_ ws → w.heap.size ≤ W.heap.size → Calls Tryz.prog 66 #[.pointer (some ⟨K, 0, none⟩)] W (Out B K M c N' E at_ W)) : Calls Tryz.prog 53 #[.pointer (some ⟨K, 0, none⟩)] w (Out B K M c N' E at_ w) := by
  by_cases h : E = 0
  · refine (take_line_ok B Z K M n N f ws at_ w (fun w' => Bel B w w' ∧ ∃ n' f', n' ≤ c ∧ St w' B w'.heap.size K M N' n' f' at_ [] ∧ Rel f' N') hs hb hl (fun W hW hfr => ?_)).mono ?_
    · refine (hc W hW hfr.size).mono ?_
      rintro e w' ⟨hb', _, h2⟩
      obtain ⟨he, hrest⟩ := h2 h
      exact ⟨he, (hs.fr hfr).trans hb', hrest⟩
    · rintro e w' ⟨rfl, hb, hrest⟩
      exact ⟨hb, fun h' => absurd h h', fun _ => ⟨rfl, hrest⟩⟩
  · refine (take_line_err B Z K M n N f ws at_ E w (fun w' => Bel B w w') hs hb hl (fun W hW hfr => ?_)).mono ?_
    · refine (hc W hW hfr.size).mono ?_
      rintro e w' ⟨hb', h1, _⟩
      exact ⟨h1 h, (hs.fr hfr).trans hb'⟩
    · rintro e w' ⟨rfl, hb⟩
      exact .bad hb h
theorem take_gen_out (B Z K M n c : Nat) (N N' : NetM) (f : Taken) (ws : List ByteArray) (at_ E : Int) (w : World) (hs : St w B Z K M N n f at_ (kGen :: ws)) (hb : N.name.toList.isEmpty = false) (hl : ws.length = 5)
    (hc : ∀ W, St W B Z K M N n f at_ ws → w.heap.size ≤ W.heap.size → Calls Tryz.prog 67 #[.pointer (some ⟨K, 0, none⟩)] W (Out B K M c N' E at_ W)) : Calls Tryz.prog 53 #[.pointer (some ⟨K, 0, none⟩)] w (Out B K M c N' E at_ w) := by
  by_cases h : E = 0
  · refine (take_gen_ok B Z K M n N f ws at_ w (fun w' => Bel B w w' ∧ ∃ n' f', n' ≤ c ∧ St w' B w'.heap.size K M N' n' f' at_ [] ∧ Rel f' N') hs hb hl (fun W hW hfr => ?_)).mono ?_
    · refine (hc W hW hfr.size).mono ?_
      rintro e w' ⟨hb', _, h2⟩
      obtain ⟨he, hrest⟩ := h2 h
      exact ⟨he, (hs.fr hfr).trans hb', hrest⟩
    · rintro e w' ⟨rfl, hb, hrest⟩
      exact ⟨hb, fun h' => absurd h h', fun _ => ⟨rfl, hrest⟩⟩
  · refine (take_gen_err B Z K M n N f ws at_ E w (fun w' => Bel B w w') hs hb hl (fun W hW hfr => ?_)).mono ?_
    · refine (hc W hW hfr.size).mono ?_
      rintro e w' ⟨hb', h1, _⟩
      exact ⟨h1 h, (hs.fr hfr).trans hb'⟩
    · rintro e w' ⟨rfl, hb⟩
      exact .bad hb h
theorem take_load_out (B Z K M n c : Nat) (N N' : NetM) (f : Taken) (ws : List ByteArray) (at_ E : Int) (w : World) (hs : St w B Z K M N n f at_ (kLoad :: ws)) (hb : N.name.toList.isEmpty = false) (hl : ws.length = 3)
    (hc : ∀ W, St W B Z K M N n f at_ ws → w.heap.size ≤ W.heap.size → Calls Tryz.prog 68 #[.pointer (some ⟨K, 0, none⟩)] W (Out B K M c N' E at_ W)) : Calls Tryz.prog 53 #[.pointer (some ⟨K, 0, none⟩)] w (Out B K M c N' E at_ w) := by
  by_cases h : E = 0
  · refine (take_load_ok B Z K M n N f ws at_ w (fun w' => Bel B w w' ∧ ∃ n' f', n' ≤ c ∧ St w' B w'.heap.size K M N' n' f' at_ [] ∧ Rel f' N') hs hb hl (fun W hW hfr => ?_)).mono ?_
    · refine (hc W hW hfr.size).mono ?_
      rintro e w' ⟨hb', _, h2⟩
      obtain ⟨he, hrest⟩ := h2 h
      exact ⟨he, (hs.fr hfr).trans hb', hrest⟩
    · rintro e w' ⟨rfl, hb, hrest⟩
      exact ⟨hb, fun h' => absurd h h', fun _ => ⟨rfl, hrest⟩⟩
  · refine (take_load_err B Z K M n N f ws at_ E w (fun w' => Bel B w w') hs hb hl (fun W hW hfr => ?_)).mono ?_
    · refine (hc W hW hfr.size).mono ?_
      rintro e w' ⟨hb', h1, _⟩
      exact ⟨h1 h, (hs.fr hfr).trans hb'⟩
    · rintro e w' ⟨rfl, hb⟩
      exact .bad hb h
theorem take_tie_out (B Z K M n c : Nat) (N N' : NetM) (f : Taken) (ws : List ByteArray) (at_ E : Int) (w : World) (hs : St w B Z K M N n f at_ (kTie :: ws)) (hb : N.name.toList.isEmpty = false) (hl : ws.length = 4)
    (hc : ∀ W, St W B Z K M N n f at_ ws → w.heap.size ≤ W.heap.size → Calls Tryz.prog 69 #[.pointer (some ⟨K, 0, none⟩)] W (Out B K M c N' E at_ W)) : Calls Tryz.prog 53 #[.pointer (some ⟨K, 0, none⟩)] w (Out B K M c N' E at_ w) := by
  by_cases h : E = 0
  · refine (take_tie_ok B Z K M n N f ws at_ w (fun w' => Bel B w w' ∧ ∃ n' f', n' ≤ c ∧ St w' B w'.heap.size K M N' n' f' at_ [] ∧ Rel f' N') hs hb hl (fun W hW hfr => ?_)).mono ?_
    · refine (hc W hW hfr.size).mono ?_
      rintro e w' ⟨hb', _, h2⟩
      obtain ⟨he, hrest⟩ := h2 h
      exact ⟨he, (hs.fr hfr).trans hb', hrest⟩
    · rintro e w' ⟨rfl, hb, hrest⟩
      exact ⟨hb, fun h' => absurd h h', fun _ => ⟨rfl, hrest⟩⟩
  · refine (take_tie_err B Z K M n N f ws at_ E w (fun w' => Bel B w w') hs hb hl (fun W hW hfr => ?_)).mono ?_
    · refine (hc W hW hfr.size).mono ?_
      rintro e w' ⟨hb', h1, _⟩
      exact ⟨h1 h, (hs.fr hfr).trans hb'⟩
    · rintro e w' ⟨rfl, hb⟩
      exact .bad hb h

/-- How many entries the map of names may have behind a line. -/
def moreN (k : ByteArray) (n : Nat) : Nat := if k = kNet then n else n + 2
/-- What is wrong with a line, if anything. -/
def lineErr (N : NetM) (k : ByteArray) (r : List ByteArray) : Int := if (k :: r).length ≠ longK k ∨ decide (k = kNet) = !N.name.toList.isEmpty then 1 else stepE N (k :: r)
theorem l1 {r : List ByteArray} (h : r.length = 1) : ∃ a, r = [a] := by
  match r, h with
  | [a], _ => exact ⟨a, rfl⟩
theorem l3 {r : List ByteArray} (h : r.length = 3) : ∃ a b c, r = [a, b, c] := by
  match r, h with
  | [a, b, c], _ => exact ⟨a, b, c, rfl⟩
theorem l4 {r : List ByteArray} (h : r.length = 4) : ∃ a b c d, r = [a, b, c, d] := by
  match r, h with
  | [a, b, c, d], _ => exact ⟨a, b, c, d, rfl⟩
theorem l5 {r : List ByteArray} (h : r.length = 5) : ∃ a b c d e, r = [a, b, c, d, e] := by
  match r, h with
  | [a, b, c, d, e], _ => exact ⟨a, b, c, d, e, rfl⟩
theorem take_any (B Z K M n : Nat) (N : NetM) (f : Taken) (k : ByteArray) (r : List ByteArray) (at_ : Int) (w : World) (hs : St w B Z K M N n f at_ (k :: r)) (hZ : Z ≤ w.heap.size) (hr : Rel f N) (hsz : ∀ v ∈ r, v.size ≤ 20000) (hn : n ≤ 5000) :
    Calls Tryz.prog 53 #[.pointer (some ⟨K, 0, none⟩)] w (Out B K M (moreN k n) (stepN N (k :: r)) (lineErr N k r) at_ w) := by
  unfold lineErr
  by_cases h1 : (k :: r).length ≠ longK k
  · rw [if_pos (.inl h1)]
    refine (take_count B Z K M n N f k r at_ w hs (fun h => h1 (by simpa using Int.ofNat.inj h))).mono ?_
    rintro e w' ⟨rfl, hf⟩
    exact .bad (hs.fr hf) (by decide)
  have hlen : (k :: r).length = longK k := Classical.not_not.1 h1
  have hk := kindCase k
  have hnet : (k.toList == [110, 101, 116]) = decide (k = kNet) := lit_beq k _
  by_cases h2 : decide (k = kNet) = !N.name.toList.isEmpty
  · rw [if_pos (.inr h2)]
    refine (take_turn B Z K M n N f k r at_ w hs (by rw [← hlen]; rfl) (hnet.trans h2)).mono ?_
    rintro e w' ⟨rfl, hf⟩
    exact .bad (hs.fr hf) (by decide)
  rw [if_neg (fun h => h.elim h1 h2)]
  rcases hk with ⟨rfl, hk, -⟩ | ⟨rfl, hk, -⟩ | ⟨rfl, hk, -⟩ | ⟨rfl, hk, -⟩ | ⟨rfl, hk, -⟩ | ⟨rfl, hk, -⟩ | ⟨⟨hk0, -⟩, hk, -⟩
  · rw [hk] at hlen
    obtain ⟨x, rfl⟩ := l1 (r := r) (by simpa using hlen)
    have hb : N.name.toList.isEmpty = true := by
      cases h : N.name.toList.isEmpty with
      | true => rfl
      | false => rw [h] at h2; exact absurd (decide_eq_true rfl) h2
    have hE : stepE N [kNet, x] = netE x := by rw [stepE, if_pos rfl]
    have hN : stepN N [kNet, x] = { N with name := x } := by rw [stepN, if_pos rfl]
    rw [hE, hN, show moreN kNet n = n from if_pos rfl]
    unfold netE
    cases hv : nameL (bytesOf x) with
    | true =>
      rw [if_pos rfl]
      refine (take_net_ok B Z K M n N f x at_ w hs hb (hsz x (by simp)) hv).mono ?_
      rintro e w' ⟨rfl, hs', hb'⟩
      exact .good hb' rfl (Nat.le_refl _) hs' (hr.name x)
    | false =>
      rw [if_neg (by decide)]
      refine (take_net_err B Z K M n N f x at_ w hs hb (hsz x (by simp)) hv).mono ?_
      rintro e w' ⟨rfl, hf⟩
      exact .bad (hs.fr hf) (by decide)
  all_goals
    have hb : N.name.toList.isEmpty = false := by
      cases h : N.name.toList.isEmpty with
      | false => rfl
      | true => rw [h] at h2; exact absurd (decide_eq_false (by first | decide | exact hk0)) h2
    rw [hk] at hlen
  · obtain ⟨x, rfl⟩ := l1 (r := r) (by simpa using hlen)
    have hE : stepE N [kBus, x] = newNameE N x N.buses.length 16 := by rw [stepE, if_neg (by decide)]
    have hN : stepN N [kBus, x] = { N with buses := N.buses ++ [x] } := by rw [stepN, if_neg (by decide)]
    rw [hE, hN]
    rw [show moreN kBus n = n + 2 from if_neg (by decide)]
    exact take_bus_out B Z K M n (n + 2) N _ f [x] at_ _ w hs hb rfl fun W hW hle => bus_out B Z K M n N f x at_ W hW hr (hsz x (by simp)) hn
  · obtain ⟨x, p, q, y, z, rfl⟩ := l5 (r := r) (by simpa using hlen)
    have hE : stepE N [kLine, x, p, q, y, z] = lineE N x p q y z := by rw [stepE, if_pos rfl]
    have hN : stepN N [kLine, x, p, q, y, z] = { N with lines := N.lines ++ [lineM N x p q y z] } := by rw [stepN, if_pos rfl]
    rw [hE, hN]
    rw [show moreN kLine n = n + 2 from if_neg (by decide)]
    exact take_line_out B Z K M n (n + 2) N _ f [x, p, q, y, z] at_ _ w hs hb rfl fun W hW hle => line_out B Z K M n N f x p q y z at_ W hW (Nat.le_trans hZ hle) hr (hsz x (by simp)) (hsz p (by simp)) (hsz q (by simp)) (hsz y (by simp)) (hsz z (by simp)) hn
  · obtain ⟨x, p, q, y, z, rfl⟩ := l5 (r := r) (by simpa using hlen)
    have hE : stepE N [kGen, x, p, q, y, z] = genE N x p q y z := by rw [stepE, if_neg (by decide)]
    have hN : stepN N [kGen, x, p, q, y, z] = { N with gens := N.gens ++ [genM N x p q y z] } := by rw [stepN, if_neg (by decide)]
    rw [hE, hN]
    rw [show moreN kGen n = n + 2 from if_neg (by decide)]
    exact take_gen_out B Z K M n (n + 2) N _ f [x, p, q, y, z] at_ _ w hs hb rfl fun W hW hle => gen_out B Z K M n N f x p q y z at_ W hW (Nat.le_trans hZ hle) hr (hsz x (by simp)) (hsz p (by simp)) (hsz q (by simp)) (hsz y (by simp)) (hsz z (by simp)) hn
  · obtain ⟨x, p, y, rfl⟩ := l3 (r := r) (by simpa using hlen)
    rw [show moreN kLoad n = n + 2 from if_neg (by decide)]
    exact take_load_out B Z K M n (n + 2) N _ f [x, p, y] at_ _ w hs hb rfl fun W hW hle => load_out B Z K M n N f x p y at_ W hW (Nat.le_trans hZ hle) hr (hsz x (by simp)) (hsz p (by simp)) (hsz y (by simp)) hn
  · obtain ⟨x, p, q, y, rfl⟩ := l4 (r := r) (by simpa using hlen)
    rw [show moreN kTie n = n + 2 from if_neg (by decide)]
    exact take_tie_out B Z K M n (n + 2) N _ f [x, p, q, y] at_ _ w hs hb rfl fun W hW hle => tie_out B Z K M n N f x p q y at_ W hW (Nat.le_trans hZ hle) hr (hsz x (by simp)) (hsz p (by simp)) (hsz q (by simp)) hn
  · simp at hlen
end Go.Proofs.YtpbalclhdhjnoaaGreatDoor
namespace Go.Proofs.YtpbalclhdhjnoaaGreatDoor
open Go.RowKit Go.Maps
open scoped Classical

theorem lineErr_zero {N : NetM} {k : ByteArray} {r : List ByteArray} (h : lineErr N k r = 0) : (k :: r).length = longK k ∧ (decide (k = kNet) ≠ !N.name.toList.isEmpty) ∧ stepE N (k :: r) = 0 := by
  unfold lineErr at h
  by_cases h1 : (k :: r).length ≠ longK k ∨ decide (k = kNet) = !N.name.toList.isEmpty
  · rw [if_pos h1] at h; cases h
  · rw [if_neg h1] at h
    exact ⟨Classical.not_not.1 fun h2 => h1 (.inl h2), fun h2 => h1 (.inr h2), h⟩
theorem moreN_le {N : NetM} {k : ByteArray} {r : List ByteArray} {n : Nat} (hl : (k :: r).length = longK k) (hn : n ≤ 2 * (namesM N).length) : moreN k n ≤ 2 * (namesM (stepN N (k :: r))).length := by
  unfold moreN
  rcases kindCase k with ⟨rfl, hk, -⟩ | ⟨rfl, hk, -⟩ | ⟨rfl, hk, -⟩ | ⟨rfl, hk, -⟩ | ⟨rfl, hk, -⟩ | ⟨rfl, hk, -⟩ | ⟨-, hk, -⟩
  all_goals rw [hk] at hl
  · obtain ⟨x, rfl⟩ := l1 (r := r) (by simpa using hl)
    rw [if_pos rfl, stepN, if_pos rfl]
    exact hn
  · obtain ⟨x, rfl⟩ := l1 (r := r) (by simpa using hl)
    rw [if_neg (by decide), stepN, if_neg (by decide)]
    simp [namesM] at hn ⊢; omega
  · obtain ⟨x, p, q, y, z, rfl⟩ := l5 (r := r) (by simpa using hl)
    rw [if_neg (by decide), stepN, if_pos rfl]
    simp [namesM] at hn ⊢; omega
  · obtain ⟨x, p, q, y, z, rfl⟩ := l5 (r := r) (by simpa using hl)
    rw [if_neg (by decide), stepN, if_neg (by decide)]
    simp [namesM] at hn ⊢; omega
  · obtain ⟨x, p, y, rfl⟩ := l3 (r := r) (by simpa using hl)
    rw [if_neg (by decide), stepN]
    simp [namesM] at hn ⊢; omega
  · obtain ⟨x, p, q, y, rfl⟩ := l4 (r := r) (by simpa using hl)
    rw [if_neg (by decide), stepN]
    simp [namesM] at hn ⊢; omega
  · simp at hl
theorem named_step {N : NetM} {k : ByteArray} {r : List ByteArray} (h : lineErr N k r = 0) (hnm : ∀ x : ByteArray, nameL (bytesOf x) = true → x.toList.isEmpty = false) : (stepN N (k :: r)).name.toList.isEmpty = false := by
  obtain ⟨hl, h2, h3⟩ := lineErr_zero h
  have hb : ∀ k', ¬ k' = kNet → (decide (k' = kNet) ≠ !N.name.toList.isEmpty) → N.name.toList.isEmpty = false := fun k' hk' h' => by
    cases hh : N.name.toList.isEmpty with
    | false => rfl
    | true => rw [hh, decide_eq_false hk'] at h'; exact absurd rfl h'
  rcases kindCase k with ⟨rfl, hk, -⟩ | ⟨rfl, hk, -⟩ | ⟨rfl, hk, -⟩ | ⟨rfl, hk, -⟩ | ⟨rfl, hk, -⟩ | ⟨rfl, hk, -⟩ | ⟨-, hk, -⟩
  all_goals rw [hk] at hl
  · obtain ⟨x, rfl⟩ := l1 (r := r) (by simpa using hl)
    rw [stepE, if_pos rfl] at h3
    rw [stepN, if_pos rfl]
    refine hnm x ?_
    unfold netE at h3
    cases hv : nameL (bytesOf x) with
    | true => rfl
    | false => rw [hv, if_neg (by decide)] at h3; cases h3
  · obtain ⟨x, rfl⟩ := l1 (r := r) (by simpa using hl)
    rw [stepN, if_neg (by decide)]
    exact hb kBus (by decide) h2
  · obtain ⟨x, p, q, y, z, rfl⟩ := l5 (r := r) (by simpa using hl)
    rw [stepN, if_pos rfl]
    exact hb kLine (by decide) h2
  · obtain ⟨x, p, q, y, z, rfl⟩ := l5 (r := r) (by simpa using hl)
    rw [stepN, if_neg (by decide)]
    exact hb kGen (by decide) h2
  · obtain ⟨x, p, y, rfl⟩ := l3 (r := r) (by simpa using hl)
    rw [stepN]
    exact hb kLoad (by decide) h2
  · obtain ⟨x, p, q, y, rfl⟩ := l4 (r := r) (by simpa using hl)
    rw [stepN]
    exact hb kTie (by decide) h2
  · simp at hl
end Go.Proofs.YtpbalclhdhjnoaaGreatDoor
namespace Go.Proofs.YtpbalclhdhjnoaaGreatDoor
open Go.RowKit Go.Maps

theorem named_not_empty (x : ByteArray) (h : nameL (bytesOf x) = true) : x.toList.isEmpty = false := by
  cases hb : bytesOf x with
  | nil => rw [hb] at h; exact absurd h (by decide)
  | cons a r =>
    rw [Lib.toList_data]
    show (bytesOf x).isEmpty = false
    rw [hb]
    rfl
end Go.Proofs.YtpbalclhdhjnoaaGreatDoor
