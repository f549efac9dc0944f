/- Where each way to stand has its place: the map of the document's search; rows of ways to stand that grow and change. -/
import Derived.Test.YtnhddmcdmcpkeajZ6
import Derived.Test.YtnhddmcdmcpkeajV6
namespace Go.Proofs.Ytnhddmcdmcpkeaj
open Go.RowKit Go.Shelf Go.ChangeMaps

theorem keyed3 : Maps.Keyed Try.prog 3 := Maps.int_keyed Try.underlying3
/-- The number of a stand. -/
def codeS (L : Nat) (s : Stnd) : Int := codeK (listOf s.l0 s.l1 L) (listOf s.u0 s.u1 L) L
/-- The map tells of each stand its place and one. -/
structure Placed (L : Nat) (nx : List Wet) (es : List MapEntry) : Prop where
  len : es.length = nx.length
  pl : ∀ (j : Nat) (e : MapEntry) (x : Wet), es[j]? = some e → nx[j]? = some x → e.key = .int .i64 (codeS L x.s) ∧ e.val = .int .i64 ((j : Int) + 1)
theorem key3 {x : Int} (h : I6 x) : keyOf Try.prog 3 (.int .i64 x) = some (.int .i64 x) := Maps.keyOf_int_mk Try.underlying3 (by
  unfold I6 at h
  simp [Lit.wf, IntKind.min, IntKind.max, IntKind.signed, IntKind.bits]
  omega)
theorem Placed.keys {L : Nat} {nx : List Wet} {es : List MapEntry} (h : Placed L nx es) (hc : ∀ x ∈ nx, I6 (codeS L x.s)) : ∀ e ∈ es, ∃ l, keyOf Try.prog 3 e.key = some l := fun e he => by
  obtain ⟨j, hj⟩ := List.mem_iff_getElem?.1 he
  have hlt : j < nx.length := by rw [← h.len]; exact (List.getElem?_eq_some_iff.1 hj).1
  rw [(h.pl j e nx[j] hj (List.getElem?_eq_getElem hlt)).1]
  exact ⟨_, key3 (hc _ (List.getElem_mem hlt))⟩
theorem Placed.nil (L : Nat) : Placed L [] [] := ⟨rfl, fun j e x h => by simp at h⟩
/-- Either no stand is alike, and the map tells nought; or it tells the place of the one that is. -/
theorem place_look {L M clock : Nat} {nx : List Wet} {es : Array MapEntry} {W : World} (hb : W.heap[M]? = some (.map es clock)) (hp : Placed L nx es.toList) (hc : ∀ x ∈ nx, I6 (codeS L x.s)) {s : Stnd} (hs : I6 (codeS L s)) :
    ((∀ x ∈ nx, codeS L x.s ≠ codeS L s) ∧ (Instr.lookup 96 (.map (some M)) (.int .i64 (codeS L s)) false).run Try.prog W = .ok (.int .i64 0) W) ∨
    (∃ (j : Nat) (x : Wet), nx[j]? = some x ∧ codeS L x.s = codeS L s ∧ (Instr.lookup 96 (.map (some M)) (.int .i64 (codeS L s)) false).run Try.prog W = .ok (.int .i64 ((j : Int) + 1)) W) := by
  have hkey := key3 hs
  rcases keyed3.find W hkey es.toList (hp.keys hc) with ⟨h1, h2⟩ | ⟨j, e0, h1, h2, h3⟩
  · left
    refine ⟨fun x hx he => ?_, ?_⟩
    · obtain ⟨j, hj⟩ := List.mem_iff_getElem?.1 hx
      have hlt : j < es.toList.length := by rw [hp.len]; exact (List.getElem?_eq_some_iff.1 hj).1
      have h := (hp.pl j _ x (List.getElem?_eq_getElem hlt) hj).1
      rw [he] at h
      exact h2 _ (List.getElem_mem hlt) h
    · simp [Instr.lookup, run_underlying Try.underlying96, MapKept.run_getObj_map hb, keyed3.check W _ hkey, h1, Try.zeroValue3, Result.andThen]
  · right
    have hlt : j < nx.length := by rw [← hp.len]; exact (List.getElem?_eq_some_iff.1 h2).1
    have h := hp.pl j e0 nx[j] h2 (List.getElem?_eq_getElem hlt)
    refine ⟨j, nx[j], List.getElem?_eq_getElem hlt, ?_, ?_⟩
    · have e := h.1.symm.trans h3
      injection e
    · simp [Instr.lookup, run_underlying Try.underlying96, MapKept.run_getObj_map hb, keyed3.check W _ hkey, h1, Result.andThen, h.2]
theorem place_put {L M clock : Nat} {nx : List Wet} {es : Array MapEntry} {W : World} (hb : W.heap[M]? = some (.map es clock)) (hp : Placed L nx es.toList) (hc : ∀ x ∈ nx, I6 (codeS L x.s)) {w : Wet} (hs : I6 (codeS L w.s)) (hn : ∀ x ∈ nx, codeS L x.s ≠ codeS L w.s) :
    ∃ es' clock', (Instr.mapUpdate 96 (.map (some M)) (.int .i64 (codeS L w.s)) (.int .i64 ((nx.length : Int) + 1))).run Try.prog W = .ok () (setBlock W M (.map es' clock')) ∧ Placed L (nx ++ [w]) es'.toList := by
  have hkey := key3 hs
  rcases keyed3.find W hkey es.toList (hp.keys hc) with ⟨h1, h2⟩ | ⟨j, e0, h1, h2, h3⟩
  · refine ⟨es.push ⟨.int .i64 (codeS L w.s), .int .i64 ((nx.length : Int) + 1), clock⟩, clock + 1, ?_, ?_⟩
    · simp [Instr.mapUpdate, run_underlying Try.underlying96, MapKept.run_getObj_map hb, keyed3.check W false hkey, h1, MapKept.run_setObj_map _ hb, Result.andThen, setBlock]
    · refine ⟨by rw [Array.toList_push, List.length_append, List.length_append, hp.len]; rfl, fun j e x hj hx => ?_⟩
      rw [Array.toList_push] at hj
      by_cases hl : j < nx.length
      · rw [List.getElem?_append_left (by rw [hp.len]; exact hl)] at hj
        rw [List.getElem?_append_left hl] at hx
        exact hp.pl j e x hj hx
      · rw [List.getElem?_append_right (by rw [hp.len]; omega)] at hj
        rw [List.getElem?_append_right (by omega)] at hx
        have hlt := (List.getElem?_eq_some_iff.1 hx).1
        simp at hlt
        have e0 : j - nx.length = 0 := by omega
        rw [e0] at hx
        rw [hp.len, e0] at hj
        simp at hx hj
        subst hx hj
        have ej : j = nx.length := by omega
        subst ej
        exact ⟨rfl, rfl⟩
  · exfalso
    have hlt : j < nx.length := by rw [← hp.len]; exact (List.getElem?_eq_some_iff.1 h2).1
    have h := (hp.pl j e0 nx[j] h2 (List.getElem?_eq_getElem hlt)).1
    rw [h3] at h
    injection h with _ h
    exact hn _ (List.getElem_mem hlt) h.symm
theorem Placed.set {L : Nat} {nx : List Wet} {es : List MapEntry} (h : Placed L nx es) {k : Nat} {x w : Wet} (hk : nx[k]? = some x) (hs : x.s = w.s) : Placed L (nx.set k w) es := by
  refine ⟨by rw [List.length_set]; exact h.len, fun j e y hj hy => ?_⟩
  rw [List.getElem?_set] at hy
  split at hy
  · next e1 =>
    subst e1
    split at hy
    · cases hy
      have := h.pl k e x hj hk
      rw [hs] at this
      exact this
    · cases hy
  · exact h.pl j e y hj hy
/-- One cell of a row of its own is changed. -/
theorem own_row_set {w : World} {B G n cg e sz : Nat} {xs : List Value} (h : w.ownsRow B e sz (.slice (some ⟨G, 0, none⟩) n cg) n xs) (i : Nat) (x : Value) : (w.setCell ⟨G, i, none⟩ x).ownsRow B e sz (.slice (some ⟨G, 0, none⟩) n cg) n (xs.set i x) := by
  rcases h.2 with ⟨h1, _⟩ | ⟨g, cap, cur, h1, h0, h2, h3, h3', h4, h5⟩
  · cases h1
  · cases h1
    refine ⟨by rw [List.length_set]; exact h.1, .inr ⟨G, cg, _, rfl, h0, set_any h2 i _, h3, h3', by simpa using h4, ?_⟩⟩
    rw [Array.toList_setIfInBounds, List.take_set, h5]
theorem WetsAt.more {W W' : World} {B L n : Nat} {v' : Value} {xs : List Wet} {x : Wet} {c : List Value} {cs : List (List Value)} (h1 : cs.length = xs.length) (h2 : ∀ c ∈ cs, c.length = 4) (h4 : ∀ (j : Nat) x c, xs[j]? = some x → cs[j]? = some c → WetAt W L x c) (hx : WetAt W L x c) (hk : KeepE 93 W W') (hown : W'.ownsRow B 93 4 v' n (cs.flatten ++ c)) (hn : n = xs.length + 1) (hc : c.length = 4) : WetsAt W' B v' L (xs ++ [x]) := by
  refine ⟨cs ++ [c], by rw [List.length_append, List.length_append, h1]; rfl, fun d hd => ?_, ?_, fun j y d hy hd => ?_⟩
  · rcases List.mem_append.1 hd with hd | hd
    · exact h2 d hd
    · rw [List.mem_singleton.1 hd]; exact hc
  · rw [List.flatten_append, List.length_append, List.length_singleton, ← hn]
    simpa using hown
  · by_cases hl : j < xs.length
    · rw [List.getElem?_append_left hl] at hy
      rw [List.getElem?_append_left (by rw [h1]; exact hl)] at hd
      exact (h4 j y d hy hd).keep hk (by decide) (by decide)
    · rw [List.getElem?_append_right (by omega)] at hy
      rw [List.getElem?_append_right (by rw [h1]; omega)] at hd
      have hlt := (List.getElem?_eq_some_iff.1 hy).1
      simp at hlt
      have e0 : j - xs.length = 0 := by omega
      rw [e0] at hy
      rw [h1, e0] at hd
      simp at hy hd
      subst hy hd
      exact hx.keep hk (by decide) (by decide)
end Go.Proofs.Ytnhddmcdmcpkeaj
