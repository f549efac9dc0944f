/- Yards, as plain words: which points are together. -/
import Derived.Test.YtcnoipcpifackahB0
namespace Go.Proofs.Ytcnoipcpifackah
open Go.RowKit Go.Shelf

structure DevM where
  kind : Int
  a : Int
  b : Int
  shut : Bool
def DevM.cells (d : DevM) : List Value := [.int .i64 d.kind, .int .i64 d.a, .int .i64 d.b, .bool d.shut]
/-- A closed device that joins its points. -/
def DevM.joins (d : DevM) : Bool := d.shut && (d.kind != 3)
structure YardM where
  points : Int
  fed : List Int
  drawn : List Int
  devs : List DevM
/-- Points that there are, rising: the first k of a list. -/
def RisingTo (n : Int) (l : List Int) (k : Nat) : Prop := ∀ (i : Nat) (x : Int), i < k → l[i]? = some x → 0 ≤ x ∧ x < n ∧ ∀ y, 0 < i → l[i - 1]? = some y → y < x
def Rising (n : Int) (l : List Int) : Prop := RisingTo n l l.length
def DevOk (n : Int) (d : DevM) : Prop := ((d.kind = 1 ∨ d.kind = 2) ∧ (0 ≤ d.a ∧ d.a < n) ∧ (0 ≤ d.b ∧ d.b < n) ∧ d.a ≠ d.b) ∨ (d.kind = 3 ∧ (0 ≤ d.a ∧ d.a < n) ∧ d.b = 0)
/-- P10.1. -/
structure MayY (y : YardM) : Prop where
  p : 1 ≤ y.points ∧ y.points ≤ 10
  d : y.devs.length ≤ 10
  f : Rising y.points y.fed
  w : Rising y.points y.drawn
  o : ∀ d ∈ y.devs, DevOk y.points d
theorem Rising.at {n : Int} {l : List Int} (h : Rising n l) {x : Int} (hx : x ∈ l) : 0 ≤ x ∧ x < n := by
  obtain ⟨i, hi, rfl⟩ := List.mem_iff_getElem.1 hx
  have := h i l[i] hi (List.getElem?_eq_getElem hi)
  exact ⟨this.1, this.2.1⟩
/-- Each point by itself. -/
def grp0 (n : Nat) : List Int := (List.range n).map Int.ofNat
def joinL (g : List Int) (a b : Nat) : List Int := g.map fun x => if x = g.getD b 0 then g.getD a 0 else x
def stepG (g : List Int) (d : DevM) : List Int := if d.joins then joinL g d.a.toNat d.b.toNat else g
def grpF (g : List Int) (ds : List DevM) : List Int := ds.foldl stepG g
def grpL (n : Nat) (ds : List DevM) : List Int := grpF (grp0 n) ds
theorem grp0_len (n : Nat) : (grp0 n).length = n := by simp [grp0]
theorem joinL_len (g : List Int) (a b : Nat) : (joinL g a b).length = g.length := by simp [joinL]
theorem stepG_len (g : List Int) (d : DevM) : (stepG g d).length = g.length := by
  unfold stepG; split
  · exact joinL_len _ _ _
  · rfl
theorem grpF_len : ∀ (ds : List DevM) (g : List Int), (grpF g ds).length = g.length
  | [], _ => rfl
  | d :: ds, g => (grpF_len ds (stepG g d)).trans (stepG_len g d)
theorem grpL_len (n : Nat) (ds : List DevM) : (grpL n ds).length = n := (grpF_len ds _).trans (grp0_len n)
theorem map_getD {g : List Int} (f : Int → Int) {p : Nat} (hp : p < g.length) : (g.map f).getD p 0 = f (g.getD p 0) := by
  rw [List.getD_eq_getElem?_getD, List.getElem?_map, List.getD_eq_getElem?_getD, List.getElem?_eq_getElem hp]; rfl
theorem grp0_get {n p : Nat} (hp : p < n) : (grp0 n).getD p 0 = p := by
  rw [grp0, List.getD_eq_getElem?_getD, List.getElem?_map, List.getElem?_range hp]; rfl
theorem joinL_get {g : List Int} {a b p : Nat} (hp : p < g.length) : (joinL g a b).getD p 0 = if g.getD p 0 = g.getD b 0 then g.getD a 0 else g.getD p 0 := map_getD _ hp
theorem joinL_same {g : List Int} {a b p q : Nat} (hp : p < g.length) (hq : q < g.length) : (joinL g a b).getD p 0 = (joinL g a b).getD q 0 ↔ g.getD p 0 = g.getD q 0 ∨ (g.getD p 0 = g.getD a 0 ∧ g.getD q 0 = g.getD b 0) ∨ (g.getD p 0 = g.getD b 0 ∧ g.getD q 0 = g.getD a 0) := by
  rw [joinL_get hp, joinL_get hq]
  split <;> split <;> omega
theorem stepG_keep {g : List Int} {d : DevM} {p q : Nat} (hp : p < g.length) (hq : q < g.length) (h : g.getD p 0 = g.getD q 0) : (stepG g d).getD p 0 = (stepG g d).getD q 0 := by
  unfold stepG; split
  · exact (joinL_same hp hq).2 (.inl h)
  · exact h
theorem grpF_keep : ∀ (ds : List DevM) {g : List Int} {p q : Nat}, p < g.length → q < g.length → g.getD p 0 = g.getD q 0 → (grpF g ds).getD p 0 = (grpF g ds).getD q 0
  | [], _, _, _, _, _, h => h
  | d :: ds, g, p, q, hp, hq, h => grpF_keep ds (g := stepG g d) (by rw [stepG_len]; exact hp) (by rw [stepG_len]; exact hq) (stepG_keep hp hq h)
/-- What a closed device joins is together. -/
theorem grpF_joins : ∀ (ds : List DevM) (g : List Int) (d : DevM), d ∈ ds → d.joins = true → d.a.toNat < g.length → d.b.toNat < g.length → (grpF g ds).getD d.a.toNat 0 = (grpF g ds).getD d.b.toNat 0
  | d' :: ds, g, d, hd, hj, ha, hb => by
    rcases List.mem_cons.1 hd with rfl | hd
    · refine grpF_keep ds (g := stepG g d) (by rw [stepG_len]; exact ha) (by rw [stepG_len]; exact hb) ?_
      unfold stepG
      rw [if_pos hj]
      exact (joinL_same ha hb).2 (.inr (.inl ⟨rfl, rfl⟩))
    · exact grpF_joins ds (stepG g d') d hd hj (by rw [stepG_len]; exact ha) (by rw [stepG_len]; exact hb)
/-- What is together is alike in all that no closed device parts. -/
theorem grpF_only (T : Nat → Prop) : ∀ (ds : List DevM) (g : List Int), (∀ d ∈ ds, d.joins = true → d.a.toNat < g.length ∧ d.b.toNat < g.length ∧ (T d.a.toNat ↔ T d.b.toNat)) → (∀ p q, p < g.length → q < g.length → g.getD p 0 = g.getD q 0 → (T p ↔ T q)) → ∀ p q, p < g.length → q < g.length → (grpF g ds).getD p 0 = (grpF g ds).getD q 0 → (T p ↔ T q)
  | [], _, _, h => h
  | d :: ds, g, hd, h => by
    have hl := stepG_len g d
    intro p q hp hq
    refine grpF_only T ds (stepG g d) (fun d' h' hj => by rw [hl]; exact hd d' (List.mem_cons_of_mem _ h') hj) ?_ p q (by rw [hl]; exact hp) (by rw [hl]; exact hq)
    rw [hl]
    intro p q hp hq he
    unfold stepG at he
    split at he
    · rename_i hj
      obtain ⟨ha, hb, hab⟩ := hd d (List.mem_cons_self ..) hj
      rcases (joinL_same hp hq).1 he with e | ⟨e1, e2⟩ | ⟨e1, e2⟩
      · exact h p q hp hq e
      · exact (h p _ hp ha e1).trans (hab.trans (h q _ hq hb e2).symm)
      · exact (h p _ hp hb e1).trans (hab.symm.trans (h q _ hq ha e2).symm)
    · exact h p q hp hq he
/-- Closed devices' points are there. -/
def Ends (n : Nat) (ds : List DevM) : Prop := ∀ d ∈ ds, d.joins = true → d.a.toNat < n ∧ d.b.toNat < n
theorem grpL_joins {n : Nat} {ds : List DevM} (he : Ends n ds) {d : DevM} (hd : d ∈ ds) (hj : d.joins = true) : (grpL n ds).getD d.a.toNat 0 = (grpL n ds).getD d.b.toNat 0 := by
  have h := he d hd hj
  exact grpF_joins ds _ d hd hj (by rw [grp0_len]; exact h.1) (by rw [grp0_len]; exact h.2)
theorem grpL_only {n : Nat} {ds : List DevM} (he : Ends n ds) (T : Nat → Prop) (hT : ∀ d ∈ ds, d.joins = true → (T d.a.toNat ↔ T d.b.toNat)) {p q : Nat} (hp : p < n) (hq : q < n) (h : (grpL n ds).getD p 0 = (grpL n ds).getD q 0) : T p ↔ T q := by
  refine grpF_only T ds (grp0 n) (fun d hd hj => ?_) (fun p q hp hq e => ?_) p q (by rw [grp0_len]; exact hp) (by rw [grp0_len]; exact hq) h
  · rw [grp0_len]
    exact ⟨(he d hd hj).1, (he d hd hj).2, hT d hd hj⟩
  · rw [grp0_len] at hp hq
    rw [grp0_get hp, grp0_get hq] at e
    have : p = q := by omega
    rw [this]
/-- Of each point whether it is together with one of these. -/
def withL (g : List Int) (n : Nat) (l : List Int) : List Bool := (List.range n).map fun p => l.any fun q => g.getD q.toNat 0 == g.getD p 0
theorem withL_len (g : List Int) (n : Nat) (l : List Int) : (withL g n l).length = n := by simp [withL]
theorem withL_get {g : List Int} {n : Nat} {l : List Int} {p : Nat} (hp : p < n) : (withL g n l).getD p false = l.any fun q => g.getD q.toNat 0 == g.getD p 0 := by
  rw [withL, List.getD_eq_getElem?_getD, List.getElem?_map, List.getElem?_range hp]; rfl
theorem withL_iff {g : List Int} {n : Nat} {l : List Int} {p : Nat} (hp : p < n) : (withL g n l).getD p false = true ↔ ∃ q ∈ l, g.getD q.toNat 0 = g.getD p 0 := by
  rw [withL_get hp, List.any_eq_true]
  simp
/-- The points at which a closed Earth stands. -/
def earthsL (ds : List DevM) : List Int := (ds.filter fun d => d.shut && (d.kind == 3)).map DevM.a
def YardM.n (y : YardM) : Nat := y.points.toNat
def YardM.grp (y : YardM) : List Int := grpL y.n y.devs
def YardM.live (y : YardM) : List Bool := withL y.grp y.n y.fed
def YardM.earthed (y : YardM) : List Bool := withL y.grp y.n (earthsL y.devs)
def YardM.load (y : YardM) : List Bool := withL y.grp y.n y.drawn
theorem MayY.ends {y : YardM} (h : MayY y) : Ends y.n y.devs := fun d hd hj => by
  have h1 := h.o d hd
  have h2 := h.p
  unfold DevM.joins at hj
  unfold YardM.n
  rcases h1 with ⟨_, h3, h4, _⟩ | ⟨h3, _⟩
  · omega
  · rw [h3] at hj
    simp at hj
theorem MayY.n_le {y : YardM} (h : MayY y) : 1 ≤ y.n ∧ y.n ≤ 10 ∧ y.points = (y.n : Int) := by
  have h2 := h.p
  unfold YardM.n
  omega
theorem MayY.earths {y : YardM} (h : MayY y) {x : Int} (hx : x ∈ earthsL y.devs) : 0 ≤ x ∧ x < y.points := by
  unfold earthsL at hx
  obtain ⟨d, hd, rfl⟩ := List.mem_map.1 hx
  have hd' := List.mem_filter.1 hd
  rcases h.o d hd'.1 with ⟨_, h3, _⟩ | ⟨_, h3, _⟩ <;> exact h3
end Go.Proofs.Ytcnoipcpifackah
