/- Plain facts: what the raw network's builder tells is a good network. -/
import Derived.Test.YtefkgllanghmfabDoorNf1
import Derived.Laws.BitsLemmas
namespace Go.Proofs.YtefkgllanghmfabDoor
open Go.RowKit Go.Shelf

def busN (k : Nat) : NetM := ⟨⟨#[110]⟩, (List.range k).map (nm 98), [], [], [], []⟩
theorem busN_snoc (k : Nat) : { busN k with buses := (busN k).buses ++ [nm 98 k] } = busN (k + 1) := by
  simp [busN, List.range_succ]
theorem wrap_small (z : Int) (h0 : -1000000 ≤ z) (h1 : z ≤ 1000000) : IntKind.i64.wrap z = z := by
  rw [IntKind.wrap_i64]
  omega
theorem other_end {bn p1 p2 : Nat} (h1 : p1 < bn) (h2 : p2 < bn - 1) : ∃ q : Nat, ((p1 : Int) + 1 + p2).tmod bn = q ∧ ((p1 : Int) + 1 + p2) % bn = q ∧ q < bn ∧ q ≠ p1 := by
  have e : ((p1 : Int) + 1 + p2) % bn = ((p1 + 1 + p2) % bn : Nat) := by push_cast; rfl
  refine ⟨(p1 + 1 + p2) % bn, ?_, e, Nat.mod_lt _ (by omega), ?_⟩
  · rw [Int.tmod_eq_emod_of_nonneg (by omega), e]
  · by_cases hlt : p1 + 1 + p2 < bn
    · rw [Nat.mod_eq_of_lt hlt]; omega
    · rw [Nat.mod_eq_sub_mod (by omega), Nat.mod_eq_of_lt (by omega)]; omega
/-- A line that the builder tells: number i. -/
def LineOk (bn i : Nat) (x : LineM) : Prop := x.name = nm 108 i ∧ 0 ≤ x.frm ∧ x.frm < bn ∧ 0 ≤ x.to ∧ x.to < bn ∧ x.frm ≠ x.to ∧ 1 ≤ x.worth ∧ x.worth < 100 ∧ x.limit = 0
def TieOk (bn i : Nat) (x : TieM) : Prop := x.name = nm 116 i ∧ 0 ≤ x.frm ∧ x.frm < bn ∧ 0 ≤ x.to ∧ x.to < bn ∧ x.frm ≠ x.to
def AllOk {α : Type} (f : Nat → α → Prop) (xs : List α) : Prop := ∀ (i : Nat) (h : i < xs.length), f i xs[i]
theorem AllOk.nil {α : Type} (f : Nat → α → Prop) : AllOk f [] := fun i h => by simp at h
theorem AllOk.snoc {α : Type} {f : Nat → α → Prop} {xs : List α} {x : α} (h : AllOk f xs) (hx : f xs.length x) : AllOk f (xs ++ [x]) := by
  intro i hi
  by_cases hlt : i < xs.length
  · rw [List.getElem_append_left hlt]
    exact h i hlt
  · have e : i = xs.length := by simp at hi; omega
    subst e
    simpa using hx
def lineN (bn : Nat) (Ls : List LineM) : NetM := { busN bn with lines := Ls }
def tieN (bn : Nat) (Ls : List LineM) (Ts : List TieM) : NetM := { lineN bn Ls with ties := Ts }

theorem bytes_nm (c : UInt8) {k : Nat} (hk : k < 100) : bytesOf (nm c k) = c :: digs k := by
  unfold nm
  rw [← digs_text hk]
  show bytesOf (textOf [c] ++ textOf (digs k)) = _
  rw [textOf_cons, bytesOf_textOf]
theorem names_map {α : Type} (f : α → ByteArray) (c : UInt8) (xs : List α) (h : ∀ (i : Nat) (hi : i < xs.length), f xs[i] = nm c i) : xs.map f = (List.range xs.length).map (nm c) := by
  refine List.ext_getElem (by simp) fun i h1 h2 => ?_
  simp only [List.getElem_map, List.getElem_range]
  exact h i (by simpa using h1)
/-- The names' bytes. -/
def bys (a b c : Nat) : List (List UInt8) := (List.range a).map (fun i => (98 : UInt8) :: digs i) ++ (List.range b).map (fun i => (108 : UInt8) :: digs i) ++ (List.range c).map (fun i => (116 : UInt8) :: digs i)
theorem bys_nodup : (bys 8 12 8).Nodup := by decide +kernel
theorem bys_good : ∀ x ∈ bys 8 12 8, nameL x = true ∧ (!x.isEmpty && x.all (fun c => !blankU c && c != 10 && c != 35)) = true ∧ x.length ≤ 32 := by decide +kernel
theorem bys_sub {a b c : Nat} (ha : a ≤ 8) (hb : b ≤ 12) (hc : c ≤ 8) : (bys a b c).Sublist (bys 8 12 8) :=
  List.Sublist.append (List.Sublist.append ((List.range_sublist.2 ha).map _) ((List.range_sublist.2 hb).map _)) ((List.range_sublist.2 hc).map _)
theorem good_names_eq {bn : Nat} {Ls : List LineM} {Ts : List TieM} (hL : AllOk (LineOk bn) Ls) (hT : AllOk (TieOk bn) Ts) (h8 : bn ≤ 8) (h12 : Ls.length ≤ 12) (ht8 : Ts.length ≤ 8) : (namesM (tieN bn Ls Ts)).map bytesOf = bys bn Ls.length Ts.length := by
  have e : namesM (tieN bn Ls Ts) = (List.range bn).map (nm 98) ++ (List.range Ls.length).map (nm 108) ++ (List.range Ts.length).map (nm 116) := by
    rw [← names_map LineM.name 108 Ls (fun i hi => (hL i hi).1), ← names_map TieM.name 116 Ts (fun i hi => (hT i hi).1)]
    simp [namesM, tieN, lineN, busN]
  have hm : ∀ (c : UInt8) (m : Nat), m ≤ 12 → ((List.range m).map (nm c)).map bytesOf = (List.range m).map (fun i => c :: digs i) := fun c m hm => by
    rw [List.map_map]
    refine List.map_congr_left fun i hi => ?_
    exact bytes_nm c (by have := List.mem_range.1 hi; omega)
  rw [e, List.map_append, List.map_append, hm 98 bn (by omega), hm 108 _ h12, hm 116 _ (by omega)]
  rfl
theorem good_tieN {bn : Nat} {Ls : List LineM} {Ts : List TieM} (h8 : bn ≤ 8) (hL : AllOk (LineOk bn) Ls) (hT : AllOk (TieOk bn) Ts) (h12 : Ls.length ≤ 12) (ht8 : Ts.length ≤ 8) : GoodM (tieN bn Ls Ts) := by
  have hn := good_names_eq hL hT h8 h12 ht8
  have hsub := bys_sub h8 h12 ht8
  have hmem : ∀ x ∈ namesM (tieN bn Ls Ts), bytesOf x ∈ bys 8 12 8 := fun x hx => hsub.subset (by rw [← hn]; exact List.mem_map.2 ⟨x, hx, rfl⟩)
  have hbl : (tieN bn Ls Ts).buses.length = bn := by simp [tieN, lineN, busN]
  have hnm : (tieN bn Ls Ts).name = ⟨#[110]⟩ := rfl
  refine ⟨by rw [hnm]; decide +kernel, rfl, rfl, ⟨by rw [hbl]; omega, ?_, ?_⟩, fun x hx => (bys_good _ (hmem x hx)).1, ?_, ?_, ?_, ?_⟩
  · show Ls.length ≤ 30; omega
  · show Ts.length ≤ 24; omega
  · have h1 : ((namesM (tieN bn Ls Ts)).map bytesOf).Nodup := by rw [hn]; exact bys_nodup.sublist hsub
    exact (List.pairwise_map.1 h1).imp fun h e => h (by rw [e])
  · intro x hx
    rcases List.mem_cons.1 hx with rfl | hx
    · rw [hnm]
      exact ⟨wordy_dec (by decide +kernel), by decide⟩
    · obtain ⟨_, h2, h3⟩ := bys_good _ (hmem x hx)
      rw [length_bytesOf] at h3
      exact ⟨wordy_dec h2, h3⟩
  · intro x hx
    obtain ⟨i, hi, rfl⟩ := List.mem_iff_getElem.1 hx
    obtain ⟨_, c1, c2, c3, c4, c5, c6, c7, c8⟩ := hL i hi
    rw [hbl]
    refine ⟨c1, c2, c3, c4, c5, c6, c7, ?_, ?_⟩
    · show 0 ≤ Ls[i].limit
      omega
    · show Ls[i].limit < 100
      omega
  · intro x hx
    obtain ⟨i, hi, rfl⟩ := List.mem_iff_getElem.1 hx
    obtain ⟨_, c1, c2, c3, c4, c5⟩ := hT i hi
    rw [hbl]
    exact ⟨c1, c2, c3, c4, c5⟩
end Go.Proofs.YtefkgllanghmfabDoor
