/- What is known of moments, kept in a map. -/
import Derived.Test.YtnhddmcdmcpkeajV5
namespace Go.Proofs.Ytnhddmcdmcpkeaj
open Go.RowKit Go.Shelf Go.ChangeMaps

theorem But.cell {M : Nat} {W W' : World} {es : Array MapEntry} {clock : Nat} (h : But M W W') (hm : W.heap[M]? = some (.map es clock)) {b o : Nat} {u : Value} (hc : W.cell? ⟨b, o, none⟩ = some u) : W'.cell? ⟨b, o, none⟩ = some u := by
  have hlt := World.block_lt_of_cell? W _ hc
  have hne : b ≠ M := by
    intro e
    subst e
    simp [World.cell?, hm] at hc
  simp only [World.cell?] at hc ⊢
  rw [h.block b hlt hne]
  exact hc
theorem But.row {M : Nat} {W W' : World} {es : Array MapEntry} {clock : Nat} (h : But M W W') (hm : W.heap[M]? = some (.map es clock)) {v : Value} {n sz : Nat} {xs : List Value} (hr : RowAt W v n sz xs) : RowAt W' v n sz xs := by
  obtain ⟨h1, a, c, h2, h3⟩ := hr
  exact ⟨h1, a, c, h2, fun j u hj => by obtain ⟨b, o, e1, e2⟩ := h3 j u hj; exact ⟨b, o, e1, h.cell hm e2⟩⟩
theorem But.tab {M : Nat} {W W' : World} {es : Array MapEntry} {clock : Nat} (h : But M W W') (hm : W.heap[M]? = some (.map es clock)) {v : Value} {t : List (List Int)} (hr : TabAt W v t) : TabAt W' v t := by
  obtain ⟨vals, h1, h2, h3⟩ := hr
  exact ⟨vals, h1, h.row hm h2, fun j x l hx hl => h.row hm (h3 j x l hx hl)⟩
/-- A moment, and an outlook, as they are told. -/
def momS (h : Nat) (s : Stnd) : Value := .agg #[.int .i64 h, .int .i64 s.l0, .int .i64 s.l1, .int .i64 s.u0, .int .i64 s.u1]
def outS (o : Int × Pair2) : Value := .agg #[.int .i64 o.1, .int .i64 o.2.a, .int .i64 o.2.b]
theorem momS_inj {h h' : Nat} {s s' : Stnd} (he : momS h s = momS h' s') : h = h' ∧ s = s' := by
  obtain ⟨a, b, c, d⟩ := s
  obtain ⟨a', b', c', d'⟩ := s'
  unfold momS at he
  simp only [Value.agg.injEq, Array.mk.injEq, List.cons.injEq, Value.int.injEq, true_and, and_true] at he
  obtain ⟨h1, rfl, rfl, rfl, rfl⟩ := he
  exact ⟨by omega, rfl⟩
theorem laidOutW : laidOutB Try.prog = true := by kernel_rfl
theorem types_size : Try.prog.types.size = 178 := by kernel_rfl
theorem keyed88 : Maps.Keyed Try.prog 129 := Maps.Keyed.of_law (Go.deep_law_laid laidOutW (m := 4) (by decide) (by rw [types_size]; decide) (by kernel_rfl) (by kernel_rfl))
theorem wf_small {x : Int} (h : -1000 ≤ x ∧ x ≤ 1000) : (Lit.int .i64 x).wf = true := by
  simp [Lit.wf, IntKind.min, IntKind.max, IntKind.signed, IntKind.bits]
  omega
theorem cells3 : Try.prog.cellsOf 3 = 1 := by kernel_rfl
theorem cells83 : Try.prog.cellsOf 117 = 2 := by kernel_rfl
theorem cells85 : Try.prog.cellsOf 119 = 4 := by kernel_rfl
theorem cells88 : Try.prog.cellsOf 129 = 5 := by kernel_rfl
theorem key_is {h : Nat} {a b c d : Int} (hh : h ≤ 8) (ha : -1000 ≤ a ∧ a ≤ 1000) (hb : -1000 ≤ b ∧ b ≤ 1000) (hc : -1000 ≤ c ∧ c ≤ 1000) (hd : -1000 ≤ d ∧ d ≤ 1000) : ∃ l, keyOf Try.prog 129 (.agg #[.int .i64 h, .int .i64 a, .int .i64 b, .int .i64 c, .int .i64 d]) = some l := by
  have hk : Try.prog.keyType 129 = true := by kernel_rfl
  have hl : Try.prog.keyLits (Try.prog.types.size + 1) 129 [.int .i64 h, .int .i64 a, .int .i64 b, .int .i64 c, .int .i64 d] = some [.int .i64 h, .int .i64 a, .int .i64 b, .int .i64 c, .int .i64 d] := by
    rw [types_size, show 178 + 1 = 175 + 1 + 1 + 1 + 1 from rfl]
    generalize 175 = m
    simp [Program.keyLits, Try.underlying129, Try.underlying119, Try.underlying117, Try.underlying3, cells88, cells85, cells83, cells3, List.range_succ, wf_small (x := (h : Int)) (by omega), wf_small ha, wf_small hb, wf_small hc, wf_small hd]
    rw [if_pos (by
      intro i hi
      match i, hi with
      | 0, _ => simp
      | 1, _ => simp)]
    rfl
  unfold keyOf
  rw [Try.underlying129]
  simp only [Value.formed, Try.underlying129, cells88, hk, Value.cells]
  rw [hl]
  exact ⟨_, rfl⟩
theorem momS_key {ls : List LakeM} {L h : Nat} {s : Stnd} (hok : ∀ k ∈ ls, LakeOk k) (hl : ls.length = L) (hh : h ≤ 8) (g : Good ls L s) : ∃ l, keyOf Try.prog 129 (momS h s) = some l := by
  have gb := good_bounds hok hl g
  exact key_is hh (by omega) (by omega) (by omega) (by omega)
/-- All that is known is right. -/
def Known (ls : List LakeM) (L H : Nat) (ti : List (List Int)) (pr en : List Int) (es : List MapEntry) : Prop := ∀ e ∈ es, ∃ h s, h ≤ 8 ∧ Good ls L s ∧ e.key = momS h s ∧ e.val = outS (lookD ls L ti pr en (H - h) h s)
section
variable {ls : List LakeM} {L H : Nat} {ti : List (List Int)} {pr en : List Int}
theorem Known.keys (hp : PlanOk ls L H ti pr en) {es : List MapEntry} (h : Known ls L H ti pr en es) : ∀ e ∈ es, ∃ l, keyOf Try.prog 129 e.key = some l := fun e he => by
  obtain ⟨k, s, h1, h2, h5, _⟩ := h e he
  rw [h5]
  exact momS_key hp.ok hp.l h1 h2
theorem known_look (hp : PlanOk ls L H ti pr en) {W : World} {M clock h : Nat} {es : Array MapEntry} {s : Stnd} (hb : W.heap[M]? = some (.map es clock)) (hk : Known ls L H ti pr en es.toList) (hh : h ≤ 8) (g : Good ls L s) :
    (Instr.lookup 86 (.map (some M)) (momS h s) true).run Try.prog W = .ok (.tuple #[outS (lookD ls L ti pr en (H - h) h s), .bool true]) W ∨
    (Instr.lookup 86 (.map (some M)) (momS h s) true).run Try.prog W = .ok (.tuple #[.agg #[.int .i64 0, .int .i64 0, .int .i64 0], .bool false]) W := by
  obtain ⟨l, hkey⟩ := momS_key hp.ok hp.l hh g
  rcases keyed88.find W hkey es.toList (hk.keys hp) with ⟨h1, h2⟩ | ⟨j, e0, h1, h2, h3⟩
  · right
    simp [Instr.lookup, run_underlying Try.underlying86, MapKept.run_getObj_map hb, keyed88.check W _ hkey, h1, Try.zeroValue131, Result.andThen]
  · left
    obtain ⟨k, t', g1, g2, g4, g5⟩ := hk e0 (List.mem_of_getElem? h2)
    rw [g4] at h3
    obtain ⟨rfl, rfl⟩ := momS_inj h3
    simp [Instr.lookup, run_underlying Try.underlying86, MapKept.run_getObj_map hb, keyed88.check W _ hkey, h1, Result.andThen, g5]
theorem known_put (hp : PlanOk ls L H ti pr en) {W : World} {M clock h : Nat} {es : Array MapEntry} {s : Stnd} (hb : W.heap[M]? = some (.map es clock)) (hk : Known ls L H ti pr en es.toList) (hh : h ≤ 8) (g : Good ls L s) :
    ∃ es' clock', (Instr.mapUpdate 86 (.map (some M)) (momS h s) (outS (lookD ls L ti pr en (H - h) h s))).run Try.prog W = .ok () (setBlock W M (.map es' clock')) ∧ Known ls L H ti pr en es'.toList := by
  obtain ⟨l, hkey⟩ := momS_key hp.ok hp.l hh g
  rcases keyed88.find W hkey es.toList (hk.keys hp) with ⟨h1, h2⟩ | ⟨j, e0, h1, h2, h3⟩
  · refine ⟨es.push ⟨momS h s, outS (lookD ls L ti pr en (H - h) h s), clock⟩, clock + 1, ?_, fun e he => ?_⟩
    · simp [Instr.mapUpdate, run_underlying Try.underlying86, MapKept.run_getObj_map hb, keyed88.check W false hkey, h1, MapKept.run_setObj_map _ hb, Result.andThen, setBlock]
    · rw [Array.toList_push] at he
      rcases List.mem_append.1 he with he | he
      · exact hk e he
      · rw [List.mem_singleton.1 he]
        exact ⟨h, s, hh, g, rfl, rfl⟩
  · have hj : es[j]? = some e0 := by rw [← Array.getElem?_toList]; exact h2
    refine ⟨es.modify j fun e => { e with key := momS h s, val := outS (lookD ls L ti pr en (H - h) h s) }, clock, ?_, fun e he => ?_⟩
    · simp [Instr.mapUpdate, run_underlying Try.underlying86, MapKept.run_getObj_map hb, keyed88.check W false hkey, h1, hj, h3, keyed88.stays W hkey, MapKept.run_setObj_map _ hb, Result.andThen, setBlock]
    · rw [Array.toList_modify] at he
      obtain ⟨i, hi⟩ := List.mem_iff_getElem?.1 he
      rw [List.getElem?_modify] at hi
      by_cases e1 : j = i
      · subst e1
        rw [h2] at hi
        simp at hi
        rw [← hi]
        exact ⟨h, s, hh, g, rfl, rfl⟩
      · simp [e1] at hi
        rw [← Array.getElem?_toList] at hi
        exact hk e (List.mem_of_getElem? hi)
theorem But.put {W : World} {M clock : Nat} {es : Array MapEntry} (hb : W.heap[M]? = some (.map es clock)) (o : Obj) : But M W (setBlock W M o) :=
  ⟨rfl, rfl, rfl, by simp [setBlock], fun _ _ hi => heap_setBlock_other hb _ hi⟩
/-- What a plan lies on. -/
structure PEnv (W : World) (ls : List LakeM) (L H : Nat) (ti : List (List Int)) (pr en : List Int) (al ai ap ae : Option Addr) (cl ci cp ce M : Nat) : Prop where
  lakes : RowAt W (.slice al L cl) ls.length 5 (ls.flatMap LakeM.cells)
  inflow : TabAt W (.slice ai H ci) ti
  price : RowAt W (.slice ap H cp) H 1 (ints pr)
  last : RowAt W (.slice ae L ce) L 1 (ints en)
  known : ∃ es clock, W.heap[M]? = some (.map es clock) ∧ Known ls L H ti pr en es.toList
variable {al ai ap ae : Option Addr} {cl ci cp ce M : Nat}
theorem PEnv.but {W W' : World} (h : PEnv W ls L H ti pr en al ai ap ae cl ci cp ce M) (hb : But M W W') (hk : ∃ es clock, W'.heap[M]? = some (.map es clock) ∧ Known ls L H ti pr en es.toList) : PEnv W' ls L H ti pr en al ai ap ae cl ci cp ce M := by
  obtain ⟨es, clock, hm, _⟩ := h.known
  exact ⟨hb.row hm h.lakes, hb.tab hm h.inflow, hb.row hm h.price, hb.row hm h.last, hk⟩
theorem PEnv.below {W W' : World} (h : PEnv W ls L H ti pr en al ai ap ae cl ci cp ce M) (hb : Below W.heap.size W W') : PEnv W' ls L H ti pr en al ai ap ae cl ci cp ce M := by
  obtain ⟨es, clock, hm, hk⟩ := h.known
  exact h.but (But.of hb) ⟨es, clock, (hb.block M (Array.getElem?_eq_some_iff.1 hm).1).trans hm, hk⟩
end
/-- What ahead answers, d hours before the end. -/
def AheadGood (ls : List LakeM) (L H : Nat) (ti : List (List Int)) (pr en : List Int) (al ai ap ae : Option Addr) (cl ci cp ce M : Nat) (d : Nat) : Prop :=
  ∀ (h : Nat) (s : Stnd) (W : World), h + d = H → Good ls L s → PEnv W ls L H ti pr en al ai ap ae cl ci cp ce M →
    Calls Try.prog 68 #[.agg #[.slice al L cl, .slice ai H ci, .slice ap H cp, .slice ae L ce, .map (some M)], momS h s] W fun e w' => e = .returned (outS (lookD ls L ti pr en d h s)) ∧ But M W w' ∧ PEnv w' ls L H ti pr en al ai ap ae cl ci cp ce M
end Go.Proofs.Ytnhddmcdmcpkeaj
