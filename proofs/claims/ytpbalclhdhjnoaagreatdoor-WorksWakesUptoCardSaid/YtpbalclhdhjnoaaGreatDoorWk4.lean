/- The next wave, in the program. -/
import Derived.Test.YtpbalclhdhjnoaaGreatDoorKW1
import Derived.Test.YtpbalclhdhjnoaaGreatDoorKDc9
import Derived.Test.YtpbalclhdhjnoaaGreatDoorKGw3
import Derived.Test.YtpbalclhdhjnoaaGreatDoorKBrd
import Derived.Test.YtpbalclhdhjnoaaGreatDoorKDc5
import Derived.Test.YtpbalclhdhjnoaaGreatDoorKBrb
import Derived.Test.YtpbalclhdhjnoaaGreatDoorKW2
import Derived.WalkKit
import Derived.WalkSpells
import Derived.WalkLawsBesides
import Derived.Maps.AppendAt
import Derived.Laws.RangeAny
import Derived.Deep.QuietTactic
import Derived.BigQuiet
import Derived.Deep.RegionLaw
import Derived.Deep.RegionHeld3
import Derived.OrdersHeld
import Derived.OwnWalk
import Derived.OwnWalkIn
import Derived.Laws.CopyOwn
import Derived.WideMake
import Derived.LoopIn
import Derived.LoopNIn
import Derived.TacticsInMore
import Derived.Shelf.Abstract
import Derived.Sort.LoopGhostIn
import Derived.Laws.EntriesVeiled
import Derived.Deep.CutRange
import Derived.Deep.CutBlock
import Derived.Lib.SliceRun
namespace Go.Proofs.YtpbalclhdhjnoaaGreatDoor.Bar
open Go.RowKit Go.Shelf Doc

theorem below_drewN {B : Nat} {a w : World} (h : Below B a w) (q : Nat) : Below B a (w.drewN q) := ⟨h.os, h.tape, h.output, h.size, h.block⟩
section
variable {P : Program}
end
section
end
section
variable {P : Program} {ops : Array Oper} {Q : Exit → Act → World → Prop} {md : Region.Mode} {S : World → Prop} {tl : Nat}
end
section
variable {P : Program} {ops : Array Oper} {Q : Exit → Act → World → Prop} {md : Region.Mode} {S : World → Prop} {tl : Nat}
end
theorem own_at {w : World} {B e sz m : Nat} {v : Value} {xs : List Value} (h : w.ownsRow B e sz v m xs) : ∀ k, v.ownBlock = some k → B ≤ k := fun k hk => by
  rcases h.2 with ⟨rfl, _⟩ | ⟨g, cp, cur, rfl, h4, _⟩
  · cases hk
  · cases hk; exact h4
/-- What the answer on nodes or islands is: a list, or a fault. -/
def Answers (l : List Int) (code : Int) (w : World) (e : Ending) (w' : World) : Prop := ∃ v, e = .returned (.tuple #[v, .int .i64 code]) ∧ RowAt w' v l.length 1 (ints l) ∧ Below w.heap.size w w'
theorem answers_nil {code : Int} {w w' : World} (hb : Below w.heap.size w w') : Answers [] code w (.returned (.tuple #[.slice none 0 0, .int .i64 code])) w' := ⟨_, rfl, ⟨rfl, none, 0, rfl, fun j u h => by simp [ints] at h⟩, hb⟩
theorem rowAt_ints {w : World} {F n : Nat} {l : List Int} (h : w.heap[F]? = some (.cells (ints l).toArray 3 (0, 0))) (hl : l.length = n) : RowAt w (.slice (some ⟨F, 0, none⟩) n n) l.length 1 (ints l) := by
  subst hl
  refine ⟨by simp [ints], _, _, rfl, fun j u hj => ⟨F, 0, rfl, ?_⟩⟩
  simp only [World.cell?, h]
  show (ints l).toArray[0 + j]? = _
  rw [Nat.zero_add, List.getElem?_toArray, hj]
theorem answers_row {l : List Int} {code : Int} {w : World} {e : Ending} {w' : World} (h : Answers l code w e w') : ∃ a c, e = .returned (.tuple #[.slice a l.length c, .int .i64 code]) ∧ RowAt w' (.slice a l.length c) l.length 1 (ints l) ∧ Below w.heap.size w w' := by
  obtain ⟨v, rfl, hr, hb⟩ := h
  obtain ⟨a, c, rfl⟩ := rowAt_slice hr
  exact ⟨a, c, rfl, hr, hb⟩
theorem ints_one (l : List Int) : ∀ u ∈ ints l, u.oneCell' = true := by
  intro u hu
  obtain ⟨x, _, rfl⟩ := List.mem_map.1 hu
  rfl
theorem ints_len (l : List Int) : (ints l).length = l.length := List.length_map _
theorem ints_cell2 {w : World} {v : Value} {l : List Int} {n : Nat} (h : RowAt w v n 1 (ints l)) (k : Nat) (hk : k < l.length) : ∃ b off c, v = .slice (some ⟨b, off, none⟩) n c ∧ w.cell? ⟨b, off + k, none⟩ = some (.int .i64 (l.getD k 0)) := by
  obtain ⟨-, a, c, rfl, hc⟩ := h
  obtain ⟨b, off, rfl, hcell⟩ := hc k (.int .i64 (l.getD k 0)) (by rw [ints, List.getElem?_map, (getD_in hk).1]; rfl)
  exact ⟨b, off, c, rfl, hcell⟩
theorem bulk_bound {H : Type} {l : List (DataW H)} (hk : Rows.uptoSmall H l = true) : Rows.uptoBulkAll l ≤ 1048576 := of_decide_eq_true hk
/-- Nothing but rows of one kind has changed. -/
def KeepE (e : TypeId) (w w' : World) : Prop := ∀ (k : Nat) (cur : Array Value) (e1 : TypeId) (fz : Nat × Nat), w.heap[k]? = some (.cells cur e1 fz) → e1 ≠ e → w'.heap[k]? = w.heap[k]?
theorem KeepE.refl (e : TypeId) (w : World) : KeepE e w w := fun _ _ _ _ _ _ => rfl
theorem KeepE.trans {e : TypeId} {a b c : World} (h : KeepE e a b) (h' : KeepE e b c) : KeepE e a c := fun k cur e1 fz hk he => by
  have h1 := h k cur e1 fz hk he
  exact (h' k cur e1 fz (h1.trans hk) he).trans h1
theorem KeepE.below {e : TypeId} {B : Nat} {w w' : World} (h : Below B w w') (hb : w.heap.size ≤ B) : KeepE e w w' := fun k _ _ _ hk _ => h.block k (Nat.lt_of_lt_of_le (Array.getElem?_eq_some_iff.1 hk).1 hb)
theorem KeepE.grown {e : TypeId} {B sz n : Nat} {v : Value} {xs : List Value} {w w' : World} (h : w.ownsRow B e sz v n xs) (hg : w.grownBy w' v.ownBlock) : KeepE e w w' := fun k cur e1 fz hk he => by
  refine hg.block k (Array.getElem?_eq_some_iff.1 hk).1 ?_
  rcases h.2 with ⟨rfl, _⟩ | ⟨g, cap, cur', rfl, _, hg', _⟩
  · simp [Value.ownBlock]
  · simp only [Value.ownBlock, ne_eq, Option.some.injEq]
    rintro rfl
    rw [hk] at hg'
    cases hg'
    exact he rfl
theorem KeepE.alloc (e : TypeId) (w : World) (o : Obj) : KeepE e w (w.alloc o) := KeepE.below ((Below.refl _ w).alloc (Nat.le_refl _) o) (Nat.le_refl _)
theorem own_keepE {w w' : World} {B e e1 sz n : Nat} {v : Value} {xs : List Value} (h : w.ownsRow B e1 sz v n xs) (hk : KeepE e w w') (he : e1 ≠ e) : w'.ownsRow B e1 sz v n xs := by
  refine ⟨h.1, ?_⟩
  rcases h.2 with h2 | ⟨g, cap, cur', h3, h4, h5, h6⟩
  · exact .inl h2
  · exact .inr ⟨g, cap, cur', h3, h4, (hk g cur' e1 _ h5 he).trans h5, h6⟩
def IntsO (w : World) (v : Value) (l : List Int) : Prop := w.ownsRow 0 3 1 v l.length (ints l)
def BoolsO (w : World) (v : Value) (l : List Bool) : Prop := w.ownsRow 0 4 1 v l.length (l.map Value.bool)
theorem frozen_no {w : World} {g e : Nat} {cur : Array Value} (h : w.heap[g]? = some (.cells cur e (0, 0))) (j : Nat) : w.frozen? ⟨g, j, none⟩ = false := by
  simp [World.frozen?, h]
theorem wpAnyT_two {P : Program} {md : Region.Mode} {ops : Array Oper} {Q : Exit → Act → World → Prop} {S : World → Prop} {tl : Nat} {i j : Nat} {o o2 : Oper} {fuel : Nat} {listed li lj : Array Bool} {a : Act} {w : World} (hr : Region.ready md ops listed = [i, j]) (ho : ops[i]? = some o) (ho2 : ops[j]? = some o2) (hl : listed.setIfInBounds i true = li) (hl2 : listed.setIfInBounds j true = lj)
    (h : ∀ K' : Act → World → Prop, Hid (∀ a w, (i ≠ tl → S w) → wpAnyT P md ops Q S tl fuel li a w → K' a w) → if Region.wanted o (yielded ops a.tmps) = true then Oper.wp P o a w K' Q else K' (a.put o.dst undef) w)
    (h2 : ∀ K' : Act → World → Prop, Hid (∀ a w, (j ≠ tl → S w) → wpAnyT P md ops Q S tl fuel lj a w → K' a w) → if Region.wanted o2 (yielded ops a.tmps) = true then Oper.wp P o2 a w K' Q else K' (a.put o2.dst undef) w) :
    wpAnyT P md ops Q S tl (fuel + 1) listed a w := by
  subst hl hl2
  refine ⟨fun h0 => (by rw [hr] at h0; cases h0), ?_⟩
  rw [hr]
  intro m hm
  simp at hm
  rcases hm with hm | hm
  · subst hm
    exact wpOp_step ho (fun K' hK => h K' (fun a w hS hW => hK a w ⟨hS, hW⟩))
  · subst hm
    exact wpOp_step ho2 (fun K' hK => h2 K' (fun a w hS hW => hK a w ⟨hS, hW⟩))
theorem wpAnyT_three {P : Program} {md : Region.Mode} {ops : Array Oper} {Q : Exit → Act → World → Prop} {S : World → Prop} {tl : Nat} {i j k : Nat} {o o2 o3 : Oper} {fuel : Nat} {listed li lj lk : Array Bool} {a : Act} {w : World} (hr : Region.ready md ops listed = [i, j, k]) (ho : ops[i]? = some o) (ho2 : ops[j]? = some o2) (ho3 : ops[k]? = some o3) (hl : listed.setIfInBounds i true = li) (hl2 : listed.setIfInBounds j true = lj) (hl3 : listed.setIfInBounds k true = lk)
    (h : ∀ K' : Act → World → Prop, Hid (∀ a w, (i ≠ tl → S w) → wpAnyT P md ops Q S tl fuel li a w → K' a w) → if Region.wanted o (yielded ops a.tmps) = true then Oper.wp P o a w K' Q else K' (a.put o.dst undef) w)
    (h2 : ∀ K' : Act → World → Prop, Hid (∀ a w, (j ≠ tl → S w) → wpAnyT P md ops Q S tl fuel lj a w → K' a w) → if Region.wanted o2 (yielded ops a.tmps) = true then Oper.wp P o2 a w K' Q else K' (a.put o2.dst undef) w)
    (h3 : ∀ K' : Act → World → Prop, Hid (∀ a w, (k ≠ tl → S w) → wpAnyT P md ops Q S tl fuel lk a w → K' a w) → if Region.wanted o3 (yielded ops a.tmps) = true then Oper.wp P o3 a w K' Q else K' (a.put o3.dst undef) w) :
    wpAnyT P md ops Q S tl (fuel + 1) listed a w := by
  subst hl hl2 hl3
  refine ⟨fun h0 => (by rw [hr] at h0; cases h0), ?_⟩
  rw [hr]
  intro m hm
  simp at hm
  rcases hm with hm | hm | hm
  · subst hm
    exact wpOp_step ho (fun K' hK => h K' (fun a w hS hW => hK a w ⟨hS, hW⟩))
  · subst hm
    exact wpOp_step ho2 (fun K' hK => h2 K' (fun a w hS hW => hK a w ⟨hS, hW⟩))
  · subst hm
    exact wpOp_step ho3 (fun K' hK => h3 K' (fun a w hS hW => hK a w ⟨hS, hW⟩))
section
variable {P : Program}
theorem wpList_append_row (w : World) {ops : Array Oper} {rest : List Oper} {o : Oper} {a : Act} {Q : Exit → Act → World → Prop} (hgd : o.guard = none) (s x : Operand) (t : TypeId)
    (ho : o.op = .call { callee := .builtin .append, args := #[s, x], argTypes := #[t, t] })
    (base : Nat) (e : TypeId) (i : TypeInfo) (z : Value) (size bytes : Nat) (ht : P.underlying t = some (.slice e)) (hi : P.info? e = some i) (hz : i.zero = some z)
    (hsize : i.size = size) (hby : i.bytes = bytes) (hzs : z.cells.size = size) (hsz : 0 < size)
    (hs : a.eval s = .slice none 0 0) (xv : Value) (m : Nat) (news : List Value) (hx : a.eval x = xv) (hr : RowAt w xv m size news) (h1 : ∀ u ∈ news, u.oneCell' = true)
    (h63 : m ≤ maxLen) (hbytes : m * bytes ≤ 140737488355328) (hbase : base ≤ w.heap.size)
    (h : ∀ v' w', w'.ownsRow base e size v' m news → w.grownBy w' none → wpList P ops Q rest (a.put o.dst v') w') : wpList P ops Q (o :: rest) a w := by
  obtain ⟨hl, ao, c, rfl, hnews⟩ := hr
  cases ao with
  | some ad =>
    refine wpList_append_own w hgd s x t ho base e i z size bytes ht hi hz hsize hby hzs hsz _ 0 [] hs (World.ownsRow_nil _ _ _ _) ad m c news hx hl (fun j u hj => ?_) h1 (by rw [Nat.zero_add]; exact h63) (by rw [Nat.zero_add]; exact hbytes) hbase ?_
    · obtain ⟨b, off, e1, hc⟩ := hnews j u hj
      cases e1
      rw [add_off]; exact hc
    · intro v' w' ho' hg' _
      rw [Nat.zero_add, List.nil_append] at ho'
      exact h v' w' ho' hg'
  | none =>
    have hm : news = [] := by
      cases news with
      | nil => rfl
      | cons u r => obtain ⟨b, off, e1, _⟩ := hnews 0 u rfl; cases e1
    subst hm
    have hm0 : m = 0 := by
      rcases Nat.mul_eq_zero.1 hl.symm with h | h
      · exact h
      · omega
    subst hm0
    refine wpList_plain hgd fun K hK => ?_
    unfold Oper.wp execOp
    simp only [ho, resolve, invoke, builtin, Sem.run_bind, Sem.run_pure, Result.andThen_ok, List.map_toArray, List.map_cons, List.map_nil, hs, hx, run_append_nils w t o.type e i ht hi c]
    exact hK _ _ (h _ w (World.ownsRow_nil _ _ _ _) ⟨rfl, rfl, rfl, Nat.le_refl _, fun _ _ _ => rfl⟩)
end
theorem alloc_new (w : World) (o : Obj) : (w.alloc o).heap[w.heap.size]? = some o := by
  show (w.heap.push o)[w.heap.size]? = some o
  simp
theorem alloc_old (w : World) (o : Obj) {k : Nat} (h : k < w.heap.size) : (w.alloc o).heap[k]? = w.heap[k]? := by
  show (w.heap.push o)[k]? = _
  rw [Array.getElem?_push, if_neg (by omega)]
theorem own_mono {W : World} {B B' e sz n : Nat} {v : Value} {xs : List Value} (h : W.ownsRow B e sz v n xs) (hb : B' ≤ B) : W.ownsRow B' e sz v n xs := by
  refine ⟨h.1, ?_⟩
  rcases h.2 with h2 | ⟨g, cp, cur, h3, h4, h5⟩
  · exact .inl h2
  · exact .inr ⟨g, cp, cur, h3, Nat.le_trans hb h4, h5⟩
theorem up_cell {w wr : World} (hb : Below w.heap.size w wr) {a : Addr} {u : Value} (hc : w.cell? a = some u) : wr.cell? a = some u := (hb.cell (World.block_lt_of_cell? w _ hc)).trans hc
theorem list4I {L : List Int} (h : L.length = 4) : ∃ a b c d, L = [a, b, c, d] := by
  match L, h with
  | [a, b, c, d], _ => exact ⟨a, b, c, d, rfl⟩
theorem results_cell_row1 {P : Program} {fn : Func} {p u : Tmp} {ty : TypeId} (h : fn.results = #[.cell p ty, .tmp u]) (tmps : Array Value) (w : World) (g : Nat) (t : TypeId) (cs : Array Value) (fr : Nat × Nat) (d : TypeDesc)
    (hp : tmps.getD p undef = .pointer (some ⟨g, 0, none⟩)) (hg : w.heap[g]? = some (.cells cs t fr))
    (hu : P.underlying ty = some d) (hd : (match d with | .struct _ | .array _ _ => true | _ => false) = true) (hi : (P.info? ty).map (·.size) = some cs.size) :
    (results fn tmps).run P w = .ok (.tuple #[.agg cs, tmps.getD u undef]) w := by
  have hp' : tmps[p]?.getD undef = .pointer (some ⟨g, 0, none⟩) := by simpa using hp
  simp [results, h, hp', asAddr, run_loadVar_row w g t ty cs fr d hg hu hd hi]
theorem results_cell_row2 {P : Program} {fn : Func} {p u v : Tmp} {ty : TypeId} (h : fn.results = #[.cell p ty, .tmp u, .tmp v]) (tmps : Array Value) (w : World) (g : Nat) (t : TypeId) (cs : Array Value) (fr : Nat × Nat) (d : TypeDesc)
    (hp : tmps.getD p undef = .pointer (some ⟨g, 0, none⟩)) (hg : w.heap[g]? = some (.cells cs t fr))
    (hu : P.underlying ty = some d) (hd : (match d with | .struct _ | .array _ _ => true | _ => false) = true) (hi : (P.info? ty).map (·.size) = some cs.size) :
    (results fn tmps).run P w = .ok (.tuple #[.agg cs, tmps.getD u undef, tmps.getD v undef]) w := by
  have hp' : tmps[p]?.getD undef = .pointer (some ⟨g, 0, none⟩) := by simpa using hp
  simp [results, h, hp', asAddr, run_loadVar_row w g t ty cs fr d hg hu hd hi]
theorem made_bool (n : Nat) : (madeCells (Value.bool false).cells (n * 1)).toList = List.replicate n (.bool false) := by
  apply List.ext_getElem
  · simp [madeCells]
  · intro i h1 h2
    simp [madeCells, Value.cells, Nat.mod_one]
theorem made_nil (n : Nat) : (madeCells (Value.slice none 0 0).cells (n * 1)).toList = List.replicate n (.slice none 0 0) := by
  apply List.ext_getElem
  · simp [madeCells]
  · intro i h1 h2
    simp [madeCells, Value.cells, Nat.mod_one]
theorem row_cells {w : World} {B e g n : Nat} {xs : List Value} (h : w.ownsRow B e 1 (.slice (some ⟨g, 0, none⟩) n n) n xs) : w.heap[g]? = some (.cells xs.toArray e (0, 0)) := by
  rcases h.2 with ⟨h1, _⟩ | ⟨g', cap, cur, h1, _, h2, _, _, h3, h4⟩
  · cases h1
  · cases h1
    rw [h2]
    have e1 : cur = xs.toArray := by
      apply Array.ext'
      rw [← h4, List.take_of_length_le (by simp; omega)]
    rw [e1]
theorem wpList_append_any {P : Program} (w : World) {ops : Array Oper} {rest : List Oper} {o : Oper} {a : Act} {Q : Exit → Act → World → Prop} (hgd : o.guard = none) (s x : Operand) (t : TypeId)
    (ho : o.op = .call { callee := .builtin .append, args := #[s, x], argTypes := #[t, t] })
    (base : Nat) (e : TypeId) (i : TypeInfo) (z : Value) (size bytes : Nat) (ht : P.underlying t = some (.slice e)) (hi : P.info? e = some i) (hz : i.zero = some z)
    (hsize : i.size = size) (hby : i.bytes = bytes) (hzs : z.cells.size = size) (hsz : 0 < size)
    (v : Value) (n : Nat) (xs : List Value) (hs : a.eval s = v) (hown : w.ownsRow base e size v n xs)
    (xv : Value) (m : Nat) (news : List Value) (hx : a.eval x = xv) (hr : RowAt w xv m size news) (h1 : ∀ u ∈ news, u.oneCell' = true)
    (b1 : n + m ≤ maxLen) (b2 : (n + m) * bytes ≤ 140737488355328) (b3 : base ≤ w.heap.size)
    (h : ∀ v' w', w'.ownsRow base e size v' (n + m) (xs ++ news) → w.grownBy w' v.ownBlock → wpList P ops Q rest (a.put o.dst v') w') : wpList P ops Q (o :: rest) a w := by
  refine wpList_plain hgd fun K' hK' => ?_
  have := step_append_any (P := P) (ops := ops) (o := o) (a := a) (w := w) (K := K') (Q := Q) (E := True) hgd s x t ho base e i z size bytes ht hi hz hsize hby hzs hsz v n xs hs hown xv m news hx hr h1 b1 b2 b3 (fun v' w' ho hg => hK' _ _ (h v' w' ho hg))
  simpa [Region.wanted, hgd] using this
theorem map_grown {e : TypeId} {B sz n M cl : Nat} {es : Array MapEntry} {v : Value} {xs : List Value} {w w' : World} (h : w.ownsRow B e sz v n xs) (hg : w.grownBy w' v.ownBlock) (hm : w.heap[M]? = some (.map es cl)) : w'.heap[M]? = some (.map es cl) := by
  refine (hg.block M (Array.getElem?_eq_some_iff.1 hm).1 ?_).trans hm
  rcases h.2 with ⟨rfl, _⟩ | ⟨g, cap, cur', rfl, _, hg', _⟩
  · simp [Value.ownBlock]
  · simp only [Value.ownBlock, ne_eq, Option.some.injEq]
    rintro rfl
    rw [hm] at hg'
    cases hg'
theorem keep_set {w : World} {S : Nat} {sv : Array Value} {e : TypeId} (h : w.heap[S]? = some (.cells sv e (0, 0))) (j : Nat) (x : Value) : KeepE e w (w.setCell ⟨S, j, none⟩ x) := fun k cur e1 fz hk he => Below.heap_setCell _ _ _ k (fun e => by subst e; rw [h] at hk; cases hk; exact he rfl)
theorem below_al (w : World) (o : Obj) : Below w.heap.size w (w.alloc o) := (Below.refl _ w).alloc (Nat.le_refl _) o
/-- A letter for a world. -/
theorem wpAnyT_letter {P : Program} {md : Region.Mode} {ops : Array Oper} {Q : Exit → Act → World → Prop} {S : World → Prop} {tl fuel : Nat} {listed : Array Bool} {a : Act} {w : World} (R : World → Prop) (h : R w) (k : ∀ w', R w' → wpAnyT P md ops Q S tl fuel listed a w') : wpAnyT P md ops Q S tl fuel listed a w := k w h
end Go.Proofs.YtpbalclhdhjnoaaGreatDoor.Bar
namespace Go.Proofs.YtpbalclhdhjnoaaGreatDoor.Bar
open Go.RowKit Go.Shelf Doc

theorem cells_at {w : World} {g : Nat} {cur : Array Value} {e : TypeId} {fz : Nat × Nat} (h : w.heap[g]? = some (.cells cur e fz)) (j : Nat) : w.cell? ⟨g, j, none⟩ = cur[j]? := by simp [World.cell?, h]
theorem bools_own {w : World} {B T n : Nat} {l : List Bool} (h : w.heap[T]? = some (.cells (l.map Value.bool).toArray 4 (0, 0))) (hs : B ≤ T) (hl : l.length = n) (hn : n ≤ 1000) : w.ownsRow B 4 1 (.slice (some ⟨T, 0, none⟩) n n) n (l.map Value.bool) := by
  subst hl
  exact ⟨by simp, .inr ⟨T, _, _, rfl, hs, h, Nat.le_refl _, by unfold maxLen; omega, by simp, by rw [List.take_of_length_le (by simp)]⟩⟩
/-- Nothing but one block has changed. -/
structure But (M : Nat) (W W' : World) : Prop where
  os : W'.os = W.os
  tape : W'.tape = W.tape
  output : W'.output = W.output
  size : W.heap.size ≤ W'.heap.size
  block : ∀ k, k < W.heap.size → k ≠ M → W'.heap[k]? = W.heap[k]?
theorem But.refl (M : Nat) (W : World) : But M W W := ⟨rfl, rfl, rfl, Nat.le_refl _, fun _ _ _ => rfl⟩
theorem But.trans {M : Nat} {W W' W'' : World} (h : But M W W') (h' : But M W' W'') : But M W W'' :=
  ⟨h'.os.trans h.os, h'.tape.trans h.tape, h'.output.trans h.output, Nat.le_trans h.size h'.size, fun k hk hm => (h'.block k (Nat.lt_of_lt_of_le hk h.size) hm).trans (h.block k hk hm)⟩
theorem But.of {M : Nat} {W W' : World} (h : Below W.heap.size W W') : But M W W' := ⟨h.os, h.tape, h.output, h.size, fun k hk _ => h.block k hk⟩
theorem But.set {M : Nat} {W W' : World} (h : But M W W') (j : Nat) (x : Value) : But M W (W'.setCell ⟨M, j, none⟩ x) := by
  have hb := Below.setCell (p := ⟨M, j, none⟩) (Below.refl 0 W') (Nat.zero_le _) x
  exact ⟨hb.os.trans h.os, hb.tape.trans h.tape, hb.output.trans h.output, Nat.le_trans h.size hb.size, fun k hk hm => (Below.heap_setCell _ _ _ k hm).trans (h.block k hk hm)⟩
theorem own_cell {w : World} {B V n c e sz : Nat} {xs : List Value} (h : w.ownsRow B e sz (.slice (some ⟨V, 0, none⟩) n c) n xs) {j : Nat} {u : Value} (hj : xs[j]? = some u) : w.cell? ⟨V, j, none⟩ = some u ∧ w.frozen? ⟨V, j, none⟩ = false := by
  rcases h.2 with ⟨h1, _⟩ | ⟨g, cap, cur, h1, _, h2, _, _, _, h5⟩
  · cases h1
  · cases h1
    refine ⟨?_, frozen_no h2 _⟩
    rw [cells_at h2]
    have hlt : j < n * sz := by rw [← h.1]; exact (List.getElem?_eq_some_iff.1 hj).1
    rw [← h5, List.getElem?_take_of_lt hlt] at hj
    simpa using hj
theorem info4W : (Tryz.prog.info? 4).map (fun i => (i.zero, i.size, i.bytes)) = some (some (.bool false), 1, 1) := by kernel_rfl
theorem info3W : (Tryz.prog.info? 3).map (fun i => (i.zero, i.size, i.bytes)) = some (some (.int .i64 0), 1, 8) := by kernel_rfl
def natI (l : List Nat) : List Int := l.map fun d : Nat => (d : Int)
theorem natI_len (l : List Nat) : (natI l).length = l.length := by unfold natI; rw [List.length_map]
theorem natI_snoc (l : List Nat) (x : Nat) : ints (natI (l ++ [x])) = ints (natI l) ++ [.int .i64 (x : Int)] := by unfold natI ints; simp
theorem lt_heap {w : World} {k : Nat} {o : Obj} (h : w.heap[k]? = some o) : k < w.heap.size := (Array.getElem?_eq_some_iff.1 h).1
def dropC : Nat → Code → Code
  | 0, c => c
  | n + 1, .seq _ b => dropC n b
  | _ + 1, c => c
def headC (n : Nat) (f : Func) : Code := match dropC n (f.body.getD .skip) with
  | .seq a _ => a
  | c => c
/-- A row of numbers that is stored into. -/
structure IntsF (w : World) (b n : Nat) (g : Nat → Int) : Prop where
  blk : ∃ cs : Array Value, w.heap[b]? = some (.cells cs 3 (0, 0)) ∧ cs.size = n ∧ ∀ c, c < n → cs[c]? = some (.int .i64 (g c))
theorem IntsF.cell {w : World} {b n : Nat} {g : Nat → Int} (h : IntsF w b n g) {c : Nat} (hc : c < n) : w.cell? ⟨b, c, none⟩ = some (.int .i64 (g c)) ∧ w.frozen? ⟨b, c, none⟩ = false := by
  obtain ⟨cs, h1, _, h3⟩ := h.blk
  exact ⟨(cells_at h1 c).trans (h3 c hc), frozen_no h1 _⟩
theorem IntsF.set {w : World} {b n : Nat} {g : Nat → Int} (h : IntsF w b n g) {c : Nat} (hc : c < n) (v : Int) : IntsF (w.setCell ⟨b, c, none⟩ (.int .i64 v)) b n (fun x => if x = c then v else g x) := by
  obtain ⟨cs, h1, h2, h3⟩ := h.blk
  refine ⟨_, set_any h1 c _, by rw [Array.size_setIfInBounds]; exact h2, fun x hx => ?_⟩
  rw [Array.getElem?_setIfInBounds]
  by_cases e : c = x
  · subst e
    rw [if_pos rfl, if_pos (by omega), if_pos rfl]
  · rw [if_neg e, if_neg (Ne.symm e)]
    exact h3 x hx
theorem IntsF.keep {w w' : World} {b n : Nat} {g : Nat → Int} (h : IntsF w b n g) (hk : w'.heap[b]? = w.heap[b]?) : IntsF w' b n g := by
  obtain ⟨cs, h1, h2, h3⟩ := h.blk
  exact ⟨cs, hk.trans h1, h2, h3⟩
theorem IntsF.below {w w' : World} {b n : Nat} {g : Nat → Int} (h : IntsF w b n g) (hb : Below w.heap.size w w') : IntsF w' b n g := by
  obtain ⟨cs, h1, h2, h3⟩ := h.blk
  exact h.keep (hb.block b (lt_heap h1))
theorem IntsF.congr {w : World} {b n : Nat} {g g' : Nat → Int} (h : IntsF w b n g) (he : ∀ c, c < n → g c = g' c) : IntsF w b n g' := by
  obtain ⟨cs, h1, h2, h3⟩ := h.blk
  exact ⟨cs, h1, h2, fun c hc => by rw [← he c hc]; exact h3 c hc⟩
theorem IntsF.of_own {w : World} {B b n : Nat} (h : w.ownsRow B 3 1 (.slice (some ⟨b, 0, none⟩) n n) n (madeCells (Value.int .i64 0).cells (n * 1)).toList) : IntsF w b n (fun _ => 0) := by
  rcases h.2 with ⟨h1, _⟩ | ⟨g, cap, cur, h1, _, h2, _, _, h4, h5⟩
  · cases h1
  · cases h1
    refine ⟨cur, h2, by omega, fun c hc => ?_⟩
    have e : cur[c]? = (cur.toList.take (n * 1))[c]? := by rw [List.getElem?_take, if_pos (by omega), Array.getElem?_toList]
    rw [e, h5, Array.getElem?_toList]
    have e2 : (madeCells (Value.int .i64 0).cells (n * 1)).size = n * 1 := by
      have := h.1
      rw [Array.length_toList] at this
      exact this
    rw [Array.getElem?_eq_getElem (by omega)]
    simp [madeCells, Value.cells, Nat.mod_one]
theorem IntsF.at_ {w : World} {b n : Nat} {g : Nat → Int} (h : IntsF w b n g) : b < w.heap.size := by
  obtain ⟨cs, h1, _, _⟩ := h.blk
  exact lt_heap h1
theorem IntsF.keepE {w w' : World} {b n e : Nat} {g : Nat → Int} (h : IntsF w b n g) (hk : KeepE e w w') (he : (3 : Nat) ≠ e) : IntsF w' b n g := by
  obtain ⟨cs, h1, h2, h3⟩ := h.blk
  exact h.keep (hk _ _ _ _ h1 he)
theorem IntsF.setN {w : World} {b n : Nat} {D : Nat → Nat} (h : IntsF w b n (fun c => (D c : Int))) {c : Nat} (hc : c < n) (v : Nat) : IntsF (w.setCell ⟨b, c, none⟩ (.int .i64 (v : Int))) b n (fun x => ((if x = c then v else D x : Nat) : Int)) :=
  (h.set hc (v : Int)).congr (fun x _ => by split <;> rfl)
theorem row_len63 {w : World} {B e sz n : Nat} {v : Value} {xs : List Value} (h : w.ownsRow B e sz v n xs) : n ≤ 9223372036854775807 := by
  rcases h.2 with ⟨_, h1⟩ | ⟨g, c, cur, _, _, _, h1, h2, _⟩
  · omega
  · unfold maxLen at h2
    omega
end Go.Proofs.YtpbalclhdhjnoaaGreatDoor.Bar
namespace Go.Proofs.YtpbalclhdhjnoaaGreatDoor.Bar

/-- The buses of one distance, rising. -/
def lvl (n : Nat) (D : Nat → Nat) (i : Nat) : List Nat := (List.range n).filter (fun k => D k == i)
def lvls (n : Nat) (D : Nat → Nat) (m : Nat) : List Nat := (List.range m).flatMap (lvl n D)
theorem lvls_succ (n : Nat) (D : Nat → Nat) (m : Nat) : lvls n D (m + 1) = lvls n D m ++ lvl n D m := by
  unfold lvls
  rw [List.range_succ, List.flatMap_append, List.flatMap_cons, List.flatMap_nil, List.append_nil]
theorem lvl_mem {n : Nat} {D : Nat → Nat} {i k : Nat} : k ∈ lvl n D i ↔ k < n ∧ D k = i := by
  unfold lvl
  rw [List.mem_filter, List.mem_range]
  simp
theorem lvl_nil {n : Nat} {D : Nat → Nat} {i : Nat} (h : ∀ k, k < n → D k ≠ i) : lvl n D i = [] := by
  apply List.eq_nil_iff_forall_not_mem.2
  intro k hk
  obtain ⟨h1, h2⟩ := lvl_mem.1 hk
  exact h k h1 h2
theorem lvls_rest {n : Nat} {D : Nat → Nat} {m : Nat} (h : ∀ j, m ≤ j → ∀ k, k < n → D k ≠ j ∨ n ≤ j) : ∀ d, m + d ≤ n → lvls n D (m + d) = lvls n D m
  | 0, _ => rfl
  | d + 1, hd => by
    show lvls n D (m + d + 1) = _
    rw [lvls_succ, lvls_rest h d (by omega), lvl_nil (fun k hk => (h (m + d) (by omega) k hk).resolve_right (by omega)), List.append_nil]
/-- How far each is from those that start. -/
structure Dist (n : Nat) (adj : Nat → Nat → Prop) (src : Nat → Prop) (D : Nat → Nat) : Prop where
  zero : ∀ k, k < n → (D k = 0 ↔ src k)
  back : ∀ k i, k < n → D k = i + 1 → i + 1 < n → ∃ u, u < n ∧ adj u k ∧ D u = i
  near : ∀ u v, u < n → v < n → adj u v → D u < n → D v ≤ D u + 1 ∧ D v < n
/-- The next wave. -/
theorem Dist.next {n : Nat} {adj : Nat → Nat → Prop} {src : Nat → Prop} {D : Nat → Nat} (h : Dist n adj src D) {i k : Nat} (hi : i < n) (hk : k < n) : (¬ D k < i + 1 ∧ ∃ u, u < n ∧ D u < i + 1 ∧ adj u k) ↔ (D k = i + 1 ∧ i + 1 < n) := by
  constructor
  · rintro ⟨h1, u, hu, h2, h3⟩
    obtain ⟨h4, h5⟩ := h.near u k hu hk h3 (by omega)
    omega
  · rintro ⟨h1, h2⟩
    obtain ⟨u, hu, h3, h4⟩ := h.back k i hk h1 h2
    exact ⟨by omega, u, hu, by omega, h3⟩
/-- Behind an empty wave none comes. -/
theorem Dist.end_ {n : Nat} {adj : Nat → Nat → Prop} {src : Nat → Prop} {D : Nat → Nat} (h : Dist n adj src D) {i : Nat} (he : ∀ k, k < n → D k ≠ i) : ∀ j, i ≤ j → ∀ k, k < n → D k ≠ j ∨ n ≤ j := by
  intro j
  induction j with
  | zero =>
    intro hi k hk
    have : i = 0 := by omega
    subst this
    exact .inl (he k hk)
  | succ j ih =>
    intro hi k hk
    by_cases e : i = j + 1
    · rw [← e]
      exact .inl (he k hk)
    · by_cases hn : n ≤ j + 1
      · exact .inr hn
      · refine .inl fun hD => ?_
        obtain ⟨u, hu, _, h2⟩ := h.back k j hk hD (by omega)
        rcases ih (by omega) u hu with h3 | h3
        · exact h3 h2
        · omega
theorem Dist.all {n : Nat} {adj : Nat → Nat → Prop} {src : Nat → Prop} {D : Nat → Nat} (h : Dist n adj src D) {i : Nat} (hi : i ≤ n) (he : ∀ k, k < n → D k ≠ i ∨ n ≤ i) : lvls n D i = lvls n D n := by
  by_cases e : i = n
  · rw [e]
  · have h1 := lvls_rest (n := n) (D := D) (m := i) (h.end_ (fun k hk => (he k hk).resolve_right (by omega))) (n - i) (by omega)
    rw [show i + (n - i) = n by omega] at h1
    exact h1.symm
/-- The least of several distances, as the document takes it. -/
def minD (n : Nat) (T : Nat → Nat → Nat) (S : List Nat) (k : Nat) : Nat := S.foldl (fun a s => if T s k < a then T s k else a) n
theorem fold_min (T : Nat → Nat → Nat) (k : Nat) : ∀ (S : List Nat) (a : Nat), S.foldl (fun a s => if T s k < a then T s k else a) a ≤ a ∧ (∀ s ∈ S, S.foldl (fun a s => if T s k < a then T s k else a) a ≤ T s k) ∧ (S.foldl (fun a s => if T s k < a then T s k else a) a = a ∨ ∃ s ∈ S, S.foldl (fun a s => if T s k < a then T s k else a) a = T s k)
  | [], a => ⟨Nat.le_refl _, fun s (hs : s ∈ []) => absurd hs List.not_mem_nil, .inl rfl⟩
  | x :: r, a => by
    obtain ⟨h1, h2, h3⟩ := fold_min T k r (if T x k < a then T x k else a)
    rw [List.foldl_cons]
    refine ⟨?_, fun s hs => ?_, ?_⟩
    · refine Nat.le_trans h1 ?_
      split <;> omega
    · rcases List.mem_cons.1 hs with rfl | hs
      · refine Nat.le_trans h1 ?_
        split <;> omega
      · exact h2 s hs
    · rcases h3 with h3 | ⟨s, hs, h3⟩
      · by_cases e : T x k < a
        · rw [if_pos e] at h3 ⊢
          exact .inr ⟨x, List.mem_cons_self .., h3⟩
        · rw [if_neg e] at h3 ⊢
          exact .inl h3
      · exact .inr ⟨s, List.mem_cons_of_mem _ hs, h3⟩
theorem minD_snoc (n : Nat) (T : Nat → Nat → Nat) (S : List Nat) (s k : Nat) : minD n T (S ++ [s]) k = if T s k < minD n T S k then T s k else minD n T S k := by
  unfold minD
  rw [List.foldl_append]
  rfl
/-- One that starts alone. -/
structure Dist1 (n : Nat) (adj : Nat → Nat → Prop) (s : Nat) (D : Nat → Nat) : Prop where
  top : ∀ k, k < n → D k ≤ n
  zero : ∀ k, k < n → (D k = 0 ↔ k = s)
  back : ∀ k i, k < n → D k = i + 1 → i + 1 < n → ∃ u, u < n ∧ adj u k ∧ D u = i
  near : ∀ u v, u < n → v < n → adj u v → D u < n → D v ≤ D u + 1 ∧ D v < n
theorem minD_dist {n : Nat} {adj : Nat → Nat → Prop} {T : Nat → Nat → Nat} {S : List Nat} (hn : 0 < n) (h : ∀ s ∈ S, Dist1 n adj s (T s)) : Dist n adj (fun k => k ∈ S) (minD n T S) := by
  have key := fun k => fold_min T k S n
  refine ⟨fun k hk => ?_, fun k i hk hD hi => ?_, fun u v hu hv ha hD => ?_⟩
  · obtain ⟨h1, h2, h3⟩ := key k
    constructor
    · intro h0
      rcases h3 with h3 | ⟨s, hs, h3⟩
      · have : minD n T S k = n := h3
        omega
      · have e : T s k = 0 := h3.symm.trans h0
        rw [((h s hs).zero k hk).1 e]
        exact hs
    · intro hk2
      have e := h2 k hk2
      have e2 := ((h k hk2).zero k hk).2 rfl
      have : minD n T S k ≤ T k k := e
      omega
  · obtain ⟨h1, h2, h3⟩ := key k
    rcases h3 with h3 | ⟨s, hs, h3⟩
    · have : minD n T S k = n := h3
      omega
    · have e : T s k = i + 1 := h3.symm.trans hD
      obtain ⟨u, hu, ha, hu2⟩ := (h s hs).back k i hk e hi
      refine ⟨u, hu, ha, ?_⟩
      have hle : minD n T S u ≤ i := by
        have := (key u).2.1 s hs
        have h4 : minD n T S u ≤ T s u := this
        omega
      rcases Nat.lt_or_ge (minD n T S u) i with hlt | hge
      · exfalso
        rcases (key u).2.2 with h5 | ⟨s2, hs2, h5⟩
        · have : minD n T S u = n := h5
          omega
        · have h6 : T s2 u = minD n T S u := h5.symm
          obtain ⟨h7, _⟩ := (h s2 hs2).near u k hu hk ha (by omega)
          have h8 : minD n T S k ≤ T s2 k := h2 s2 hs2
          omega
      · omega
  · obtain ⟨h1, h2, h3⟩ := key u
    rcases h3 with h3 | ⟨s, hs, h3⟩
    · have : minD n T S u = n := h3
      omega
    · have e : T s u = minD n T S u := h3.symm
      obtain ⟨h4, h5⟩ := (h s hs).near u v hu hv ha (by omega)
      have h6 : minD n T S v ≤ T s v := (key v).2.1 s hs
      omega
end Go.Proofs.YtpbalclhdhjnoaaGreatDoor.Bar
namespace Go.Proofs.YtpbalclhdhjnoaaGreatDoor.Bar
open Go.RowKit Go.Shelf Doc

theorem within_any (x lo hi : Int) (w : World) : Calls Tryz.prog 17 #[.int .i64 x, .int .i64 lo, .int .i64 hi] w fun e w' => e = .returned (.bool (decide (lo ≤ x) && decide (x ≤ hi))) ∧ w' = w := by
  go_enter Tryz.func17, Tryz.ntmps17
  go_wp2
  all_goals
    go_ret
    refine ⟨?_, rfl⟩
    first
    | (simp_all; done)
    | (simp_all; omega)
theorem bool_cellW {w : World} {v : Value} {l : List Bool} {n : Nat} (h : RowAt w v n 1 (l.map Value.bool)) (k : Nat) (hk : k < n) : ∃ b off c, v = .slice (some ⟨b, off, none⟩) n c ∧ w.cell? ⟨b, off + k, none⟩ = some (.bool (l.getD k false)) := by
  obtain ⟨h1, a, c, rfl, h2⟩ := h
  have hl : k < l.length := by rw [List.length_map] at h1; omega
  obtain ⟨b, off, rfl, h3⟩ := h2 k (.bool (l.getD k false)) (by rw [List.getElem?_map, List.getElem?_eq_getElem hl, List.getD_eq_getElem?_getD, List.getElem?_eq_getElem hl]; rfl)
  exact ⟨b, off, c, rfl, h3⟩
set_option maxRecDepth 100000 in
set_option maxHeartbeats 2000000 in
theorem IndexB_any (l : List Bool) (v : Value) (w : World) (hx : RowAt w v l.length 1 (l.map Value.bool)) (hn : l.length ≤ 2000000) : Calls Tryz.prog 24 #[v, .bool true] w fun e w' => ∃ i : Int, e = .returned (.int .i64 i) ∧ (0 ≤ i ↔ true ∈ l) ∧ -1 ≤ i ∧ i ≤ 2000000 ∧ w' = w := by
  have HX := hide' hx
  obtain ⟨ar, cr, rfl⟩ := rowAt_slice hx
  clear hx
  go_enter Tryz.func24, Tryz.ntmps24
  go_wp2_with fail
  go_loopw [8] (fun iv wr => ∃ (k : Nat), iv = .int .i64 k ∧ k ≤ l.length ∧ Hid (∀ j, j < k → l.getD j false = false) ∧ wr = w) (fun iv _ => l.length - (intOf iv).toNat)
  case atStart => exact ⟨0, rfl, Nat.zero_le _, fun j h => absurd h (Nat.not_lt_zero _), rfl⟩
  case round =>
    obtain ⟨k, rfl, hk, HN, rfl⟩ := hrel
    by_cases hlt : k < l.length
    · obtain ⟨b1, o1, c1, ex1, hc1⟩ := bool_cellW HX.out k hlt
      cases ex1
      rcases hx : l.getD k false with _ | _
      · rw [hx] at hc1
        have HN2 : Hid (∀ j, j < k + 1 → l.getD j false = false) := fun j hj => by
          by_cases e : j = k
          · rw [e]; exact hx
          · exact HN.out j (by omega)
        clear hx HN
        go_wp2_with fail
        go_roundw
        case rel => exact ⟨k + 1, by go_num, by omega, HN2.out, trivial⟩
        case measure => simp only [intOf]; omega
      · rw [hx] at hc1
        have HT : Hid (true ∈ l) := by
          rw [List.getD_eq_getElem?_getD, List.getElem?_eq_getElem hlt] at hx
          have : l[k] = true := hx
          rw [← this]
          exact List.getElem_mem hlt
        clear hx HN
        go_wp2_with fail
        go_ret
        exact ⟨k, rfl, ⟨fun _ => HT.out, fun _ => by omega⟩, by omega, by omega, rfl⟩
    · have hke : k = l.length := by omega
      go_wp2_with fail
      go_ret
      refine ⟨-1, rfl, ⟨fun h => by omega, fun h => ?_⟩, by decide, by decide, rfl⟩
      obtain ⟨j, hj, he⟩ := List.getElem_of_mem h
      have h1 := HN.out j (by omega)
      rw [List.getD_eq_getElem?_getD, List.getElem?_eq_getElem hj] at h1
      have h2 : l[j] = false := h1
      rw [he] at h2
      cases h2
set_option maxRecDepth 100000 in
set_option maxHeartbeats 2000000 in
theorem ContainsB_any (l : List Bool) (v : Value) (w : World) (hx : RowAt w v l.length 1 (l.map Value.bool)) (hn : l.length ≤ 2000000) : Calls Tryz.prog 18 #[v, .bool true] w fun e w' => ∃ r : Bool, e = .returned (.bool r) ∧ (r = true ↔ true ∈ l) ∧ w' = w := by
  have HI := hide' (IndexB_any l v w hx hn)
  clear hx
  go_enter Tryz.func18, Tryz.ntmps18
  go_wp2_with fail
  refine HI.out.mono ?_
  rintro e zz ⟨i, rfl, hi, h1, h2, hzz⟩
  rw [hzz]
  have HII := hide' hi
  clear hzz hi HI
  by_cases h0 : 0 ≤ i
  · go_wp2_with fail
    go_ret
    exact ⟨_, rfl, ⟨fun _ => HII.out.1 h0, fun _ => by simp⟩, rfl⟩
  · go_wp2_with fail
    go_ret
    exact ⟨_, rfl, ⟨fun h => by simp at h; exact HII.out.1 h, fun h => absurd (HII.out.2 h) (by omega)⟩, rfl⟩
/-- One hop: what is next. -/
def hopS (live next : List Bool) (a b : Nat) : List Bool := if live.getD a false && !live.getD b false then next.set b true else next
theorem hopS_len (live next : List Bool) (a b : Nat) : (hopS live next a b).length = next.length := by unfold hopS; split <;> simp
set_option maxRecDepth 100000 in
set_option maxHeartbeats 2000000 in
theorem hop_any (n a b Lb Nb F : Nat) (lv : Value) (live next : List Bool) (w : World) (hL : w.heap[Lb]? = some (.cells #[lv] 29 (0, 0))) (hN : w.heap[Nb]? = some (.cells #[.slice (some ⟨F, 0, none⟩) n n] 29 (0, 0))) (hl : RowAt w lv n 1 (live.map Value.bool)) (hF : w.heap[F]? = some (.cells (next.map Value.bool).toArray 4 (0, 0))) (hnl : next.length = n) (ha : a < n) (hb : b < n) :
    Calls Tryz.prog 25 #[.int .i64 (a : Int), .int .i64 (b : Int), .pointer (some ⟨Lb, 0, none⟩), .pointer (some ⟨Nb, 0, none⟩)] w fun e w' => e = .returned (.tuple #[]) ∧ w'.heap[F]? = some (.cells ((hopS live next a b).map Value.bool).toArray 4 (0, 0)) ∧ But F w w' := by
  obtain ⟨b1, o1, c1, ex1, la⟩ := bool_cellW hl a ha
  obtain ⟨b2, o2, c2, ex2, lb⟩ := bool_cellW hl b hb
  rw [ex1] at ex2
  simp only [Value.slice.injEq, Option.some.injEq, Addr.mk.injEq] at ex2
  obtain ⟨⟨rfl, rfl, _⟩, _, rfl⟩ := ex2
  subst ex1
  have l0 : w.cell? ⟨Lb, 0, none⟩ = some (.slice (some ⟨b1, o1, none⟩) n c1) := (cells_at hL 0).trans rfl
  have n0 : w.cell? ⟨Nb, 0, none⟩ = some (.slice (some ⟨F, 0, none⟩) n n) := (cells_at hN 0).trans rfl
  have f0 : w.cell? ⟨F, b, none⟩ = some (.bool (next.getD b false)) := by
    rw [cells_at hF]
    simp [List.getElem?_map, List.getElem?_eq_getElem (show b < next.length by omega), List.getD_eq_getElem?_getD]
  have f1 : w.frozen? ⟨F, b, none⟩ = false := frozen_no hF _
  have HF := hide' hF
  have HS : Hid ((w.setCell ⟨F, b, none⟩ (.bool true)).heap[F]? = some (.cells ((next.set b true).map Value.bool).toArray 4 (0, 0))) := by
    have h1 := set_any hF b (.bool true)
    show _ = _
    rw [List.map_set]
    simpa using h1
  have HH : Hid (hopS live next a b = if live.getD a false && !live.getD b false then next.set b true else next) := rfl
  obtain ⟨x, hx⟩ : ∃ x, x = live.getD a false := ⟨_, rfl⟩
  obtain ⟨y, hy⟩ : ∃ x, x = live.getD b false := ⟨_, rfl⟩
  rw [← hx] at la HH
  rw [← hy] at lb HH
  clear hL hN hl hF hx hy
  go_enter Tryz.func25, Tryz.ntmps25
  cases x with
  | false =>
    go_wp2_with fail
    refine bodyPost_end (results_none rfl _ _ _) rfl ?_
    exact ⟨rfl, by rw [HH.out]; exact HF.out, But.refl F w⟩
  | true =>
    cases y with
    | false =>
      go_wp2_with fail
      refine bodyPost_end (results_none rfl _ _ _) rfl ?_
      exact ⟨rfl, by rw [HH.out]; exact HS.out, But.set (But.refl F w) _ _⟩
    | true =>
      go_wp2_with fail
      refine bodyPost_end (results_none rfl _ _ _) rfl ?_
      exact ⟨rfl, by rw [HH.out]; exact HF.out, But.refl F w⟩
end Go.Proofs.YtpbalclhdhjnoaaGreatDoor.Bar
namespace Go.Proofs.YtpbalclhdhjnoaaGreatDoor.Bar
open Go.RowKit Go.Shelf Doc

/-- What is one hop away, over these links. -/
def hopsL (live next : List Bool) (ls : List LinkM) : List Bool := ls.foldl (fun nx l => hopS live (hopS live nx l.p.toNat l.q.toNat) l.q.toNat l.p.toNat) next
theorem hopsL_snoc (live next : List Bool) (ls : List LinkM) (l : LinkM) : hopsL live next (ls ++ [l]) = hopS live (hopS live (hopsL live next ls) l.p.toNat l.q.toNat) l.q.toNat l.p.toNat := by
  unfold hopsL
  rw [List.foldl_append]
  rfl
theorem hopsL_len (live next : List Bool) (ls : List LinkM) : (hopsL live next ls).length = next.length := by
  induction ls generalizing next with
  | nil => rfl
  | cons l r ih =>
    show (hopsL live (hopS live (hopS live next l.p.toNat l.q.toNat) l.q.toNat l.p.toNat) r).length = _
    rw [ih, hopS_len, hopS_len]
theorem hopS_get {live next : List Bool} {a b k : Nat} (hb : b < next.length) : (hopS live next a b).getD k false = true ↔ next.getD k false = true ∨ (k = b ∧ live.getD a false = true ∧ live.getD b false = false) := by
  unfold hopS
  by_cases h : (live.getD a false && !live.getD b false) = true
  · rw [if_pos h]
    simp only [Bool.and_eq_true, Bool.not_eq_true'] at h
    rw [List.getD_eq_getElem?_getD, List.getElem?_set]
    by_cases e : b = k
    · subst e
      rw [if_pos rfl, if_pos hb]
      exact ⟨fun _ => .inr ⟨rfl, h⟩, fun _ => rfl⟩
    · rw [if_neg e, ← List.getD_eq_getElem?_getD]
      constructor
      · exact .inl
      · rintro (h1 | ⟨h1, _⟩)
        · exact h1
        · exact absurd h1.symm e
  · rw [if_neg h]
    constructor
    · exact .inl
    · rintro (h1 | ⟨_, h2, h3⟩)
      · exact h1
      · exfalso
        apply h
        rw [h2, h3]
        rfl
theorem hopsL_get {live : List Bool} {n : Nat} : ∀ (ls : List LinkM) (next : List Bool) (k : Nat), next.length = n → Ends n ls → ((hopsL live next ls).getD k false = true ↔ next.getD k false = true ∨ (live.getD k false = false ∧ ∃ u : Nat, u < n ∧ live.getD u false = true ∧ Adj ls (u : Int) (k : Int)))
  | [], next, k, _, _ => by
    constructor
    · exact .inl
    · rintro (h | ⟨_, u, _, _, l, hl, _⟩)
      · exact h
      · cases hl
  | l :: r, next, k, hn, he => by
    obtain ⟨h1, h2, h3, h4⟩ := he l (List.mem_cons_self ..)
    obtain ⟨p, hp⟩ := Int.eq_ofNat_of_zero_le h1
    obtain ⟨q, hq⟩ := Int.eq_ofNat_of_zero_le h3
    have hpn : p < n := by omega
    have hqn : q < n := by omega
    have ep : l.p.toNat = p := by omega
    have eq' : l.q.toNat = q := by omega
    have hl1 : (hopS live next p q).length = n := by rw [hopS_len, hn]
    have hl2 : (hopS live (hopS live next p q) q p).length = n := by rw [hopS_len, hl1]
    have ih := hopsL_get (live := live) r (hopS live (hopS live next l.p.toNat l.q.toNat) l.q.toNat l.p.toNat) k (by rw [ep, eq']; exact hl2) (fun x hx => he x (List.mem_cons_of_mem _ hx))
    show (hopsL live (hopS live (hopS live next l.p.toNat l.q.toNat) l.q.toNat l.p.toNat) r).getD k false = true ↔ _
    rw [ih, ep, eq', hopS_get (by omega), hopS_get (by omega)]
    constructor
    · rintro (((h | ⟨rfl, h5, h6⟩) | ⟨rfl, h5, h6⟩) | ⟨h5, u, hu, h6, x, hx, h7⟩)
      · exact .inl h
      · exact .inr ⟨h6, p, hpn, h5, l, List.mem_cons_self .., nextOf_iff.2 (.inl ⟨hp, hq⟩)⟩
      · exact .inr ⟨h6, q, hqn, h5, l, List.mem_cons_self .., nextOf_iff.2 (.inr ⟨hp, hq⟩)⟩
      · exact .inr ⟨h5, u, hu, h6, x, List.mem_cons_of_mem _ hx, h7⟩
    · rintro (h | ⟨h5, u, hu, h6, x, hx, h7⟩)
      · exact .inl (.inl (.inl h))
      · rcases List.mem_cons.1 hx with rfl | hx
        · rcases nextOf_iff.1 h7 with ⟨h8, h9⟩ | ⟨h8, h9⟩
          · refine .inl (.inl (.inr ⟨by omega, ?_, ?_⟩))
            · rw [show p = u by omega]; exact h6
            · rw [show q = k by omega]; exact h5
          · refine .inl (.inr ⟨by omega, ?_, ?_⟩)
            · rw [show q = u by omega]; exact h6
            · rw [show p = k by omega]; exact h5
        · exact .inr ⟨h5, u, hu, h6, x, hx, h7⟩
/-- How far a bus is from one that starts. -/
def targN (n : Nat) (links : List LinkM) (s k : Nat) : Nat := (target n links s k).toNat
theorem targ_dist {n : Nat} {links : List LinkM} (he : Ends n links) {s : Nat} (hs : s < n) : Dist1 n (fun u k => Adj links (u : Int) (k : Int)) s (targN n links s) := by
  obtain ⟨f1, f2, f3⟩ := far_spec he hs
  have key : ∀ k, k < n → ((farL n links s).getD k 0 = -1 ∧ targN n links s k = n) ∨ ((farL n links s).getD k 0 ≠ -1 ∧ ((targN n links s k : Nat) : Int) = (farL n links s).getD k 0 ∧ targN n links s k < n) := fun k hk => by
    have h1 := f2 k hk
    unfold targN target
    by_cases h : (farL n links s).getD k 0 = -1
    · rw [if_pos h]
      exact .inl ⟨h, by omega⟩
    · rw [if_neg h]
      exact .inr ⟨h, by omega, by omega⟩
  refine ⟨fun k hk => ?_, fun k hk => ?_, fun k i hk hD hi => ?_, fun u v hu hv ha hD => ?_⟩
  · rcases key k hk with ⟨_, h⟩ | ⟨_, _, h⟩ <;> omega
  · constructor
    · intro h
      rcases key k hk with ⟨_, h2⟩ | ⟨_, h2, _⟩
      · omega
      · exact far_zero he hs hk (by omega)
    · rintro rfl
      have h0 := far_self links hs
      rcases key k hk with ⟨h2, _⟩ | ⟨_, h2, _⟩ <;> omega
  · rcases key k hk with ⟨_, h2⟩ | ⟨h1, h2, _⟩
    · omega
    · rcases f3 k hk h1 with ⟨_, h3⟩ | ⟨u, hu, h3, h4, h5⟩
      · omega
      · refine ⟨u, hu, h3, ?_⟩
        rcases key u hu with ⟨h6, _⟩ | ⟨_, h6, _⟩
        · exact absurd h6 h4
        · omega
  · rcases key u hu with ⟨_, h2⟩ | ⟨h1, h2, _⟩
    · omega
    · have h3 := far_near he hs hu h1 ha
      have h4 : (farL n links s).getD v 0 ≠ -1 := (f1 v hv).2 (((f1 u hu).1 h1).step ha)
      rcases key v hv with ⟨h5, _⟩ | ⟨_, h5, h6⟩
      · exact absurd h5 h4
      · omega
end Go.Proofs.YtpbalclhdhjnoaaGreatDoor.Bar
namespace Go.Proofs.YtpbalclhdhjnoaaGreatDoor
open Go.RowKit Go.Shelf
theorem RowAt.down {w w' : World} {n sz : Nat} {v : Value} {xs : List Value} (h : RowAt w v n sz xs) (hb : Below w.heap.size w w') : RowAt w' v n sz xs := Doc.RowAt.below h hb (Nat.le_refl _)
end Go.Proofs.YtpbalclhdhjnoaaGreatDoor
namespace Go.Proofs.YtpbalclhdhjnoaaGreatDoor.Bar
open Go.RowKit Go.Shelf Doc

structure EntM where
  now : Int
  kind : Int
  plc : Int
  dst : Int
def EntM.cells (x : EntM) : List Value := [.int .i64 x.now, .int .i64 x.kind, .int .i64 x.plc, .int .i64 x.dst]
structure WorldM where
  net : NetM
  out : List Bool
  on : List Bool
  plan : List Int
  given : List Int
  now : Int
  log : List EntM
/-- Where a world's rows lie. -/
structure WAddr where
  ab : Option Addr
  al : Option Addr
  ag : Option Addr
  ad : Option Addr
  at' : Option Addr
  ao : Option Addr
  an : Option Addr
  ap : Option Addr
  av : Option Addr
  ae : Option Addr
  cb : Nat
  cl : Nat
  cg : Nat
  cd : Nat
  ct : Nat
  co : Nat
  cn : Nat
  cp : Nat
  cv : Nat
  ce : Nat
structure WorldAt (w : World) (W : WorldM) (a : WAddr) : Prop where
  net : NetAt w (.agg #[.string W.net.name, .slice a.ab W.net.buses.length a.cb, .slice a.al W.net.lines.length a.cl, .slice a.ag W.net.gens.length a.cg, .slice a.ad W.net.loads.length a.cd, .slice a.at' W.net.ties.length a.ct]) W.net
  o : RowAt w (.slice a.ao W.out.length a.co) W.out.length 1 (W.out.map Value.bool)
  n : RowAt w (.slice a.an W.on.length a.cn) W.on.length 1 (W.on.map Value.bool)
  p : RowAt w (.slice a.ap W.plan.length a.cp) W.plan.length 1 (ints W.plan)
  v : RowAt w (.slice a.av W.given.length a.cv) W.given.length 1 (ints W.given)
  e : RowAt w (.slice a.ae W.log.length a.ce) W.log.length 4 (W.log.flatMap EntM.cells)
theorem WorldAt.l {w : World} {W : WorldM} {a : WAddr} (h : WorldAt w W a) : RowAt w (.slice a.al W.net.lines.length a.cl) W.net.lines.length 5 (W.net.lines.flatMap LineM.cells) := by
  obtain ⟨b, l, g, d, t, hv, _, h2, h3, h4, h5⟩ := h.net
  cases hv
  exact h2
theorem WorldAt.g {w : World} {W : WorldM} {a : WAddr} (h : WorldAt w W a) : RowAt w (.slice a.ag W.net.gens.length a.cg) W.net.gens.length 5 (W.net.gens.flatMap GenM.cells) := by
  obtain ⟨b, l, g, d, t, hv, _, h2, h3, h4, h5⟩ := h.net
  cases hv
  exact h3
theorem WorldAt.d {w : World} {W : WorldM} {a : WAddr} (h : WorldAt w W a) : RowAt w (.slice a.ad W.net.loads.length a.cd) W.net.loads.length 3 (W.net.loads.flatMap LoadM.cells) := by
  obtain ⟨b, l, g, d, t, hv, _, h2, h3, h4, h5⟩ := h.net
  cases hv
  exact h4
theorem WorldAt.t {w : World} {W : WorldM} {a : WAddr} (h : WorldAt w W a) : RowAt w (.slice a.at' W.net.ties.length a.ct) W.net.ties.length 4 (W.net.ties.flatMap TieM.cells) := by
  obtain ⟨b, l, g, d, t, hv, _, h2, h3, h4, h5⟩ := h.net
  cases hv
  exact h5
theorem WorldAt.down {w w' : World} {W : WorldM} {a : WAddr} (h : WorldAt w W a) (hb : Below w.heap.size w w') : WorldAt w' W a := by
  refine ⟨?_, h.o.down hb, h.n.down hb, h.p.down hb, h.v.down hb, h.e.down hb⟩
  obtain ⟨b, l, g, d, t, hv, h1, h2, h3, h4, h5⟩ := h.net
  exact ⟨b, l, g, d, t, hv, RowAt.down h1 hb, h2.down hb, h3.down hb, h4.down hb, h5.down hb⟩
/-- While the next wave is found. -/
structure ON (w wr : World) (Wb Lb Nb F n : Nat) (wv : Array Value) (lv : Value) (next : List Bool) : Prop where
  hW : wr.heap[Wb]? = some (.cells wv 33 (0, 0))
  hL : wr.heap[Lb]? = some (.cells #[lv] 29 (0, 0))
  hN : wr.heap[Nb]? = some (.cells #[.slice (some ⟨F, 0, none⟩) n n] 29 (0, 0))
  hF : wr.heap[F]? = some (.cells (next.map Value.bool).toArray 4 (0, 0))
  len : next.length = n
  sF : w.heap.size ≤ F
  bel : Below w.heap.size w wr
theorem ON.more {w wr w' : World} {Wb Lb Nb F n : Nat} {wv : Array Value} {lv : Value} {next : List Bool} (h : ON w wr Wb Lb Nb F n wv lv next) (hb : Below wr.heap.size wr w') : ON w w' Wb Lb Nb F n wv lv next :=
  ⟨(hb.block Wb (lt_heap h.hW)).trans h.hW, (hb.block Lb (lt_heap h.hL)).trans h.hL, (hb.block Nb (lt_heap h.hN)).trans h.hN, (hb.block F (lt_heap h.hF)).trans h.hF, h.len, h.sF, h.bel.trans (hb.mono h.bel.size)⟩
theorem But.below {M B : Nat} {W W' : World} (h : But M W W') (hB : B ≤ M) (hs : B ≤ W.heap.size) : Below B W W' := ⟨h.os, h.tape, h.output, h.size, fun k hk => h.block k (by omega) (by omega)⟩
theorem ON.but {w wr w' : World} {Wb Lb Nb F n : Nat} {wv : Array Value} {lv : Value} {next next' : List Bool} (h : ON w wr Wb Lb Nb F n wv lv next) (hb : But F wr w') (hF : w'.heap[F]? = some (.cells (next'.map Value.bool).toArray 4 (0, 0))) (hl : next'.length = n) : ON w w' Wb Lb Nb F n wv lv next' := by
  have ne : ∀ (k : Nat) (c : Array Value) (e : TypeId), e ≠ 4 → wr.heap[k]? = some (.cells c e (0, 0)) → w'.heap[k]? = wr.heap[k]? := fun k c e he hk => hb.block k (lt_heap hk) (fun e2 => by
    rw [e2, h.hF] at hk
    cases hk
    exact he rfl)
  exact ⟨(ne _ _ _ (by decide) h.hW).trans h.hW, (ne _ _ _ (by decide) h.hL).trans h.hL, (ne _ _ _ (by decide) h.hN).trans h.hN, hF, hl, h.sF, h.bel.trans (hb.below h.sF h.bel.size)⟩
theorem ON.hop {w wr : World} {Wb Lb Nb F n : Nat} {wv : Array Value} {lv : Value} {live next : List Bool} (h : ON w wr Wb Lb Nb F n wv lv next) (hl : RowAt w lv n 1 (live.map Value.bool)) {x y : Nat} (hx : x < n) (hy : y < n) :
    Calls Tryz.prog 25 #[.int .i64 (x : Int), .int .i64 (y : Int), .pointer (some ⟨Lb, 0, none⟩), .pointer (some ⟨Nb, 0, none⟩)] wr fun e w' => e = .returned (.tuple #[]) ∧ ON w w' Wb Lb Nb F n wv lv (hopS live next x y) ∧ But F wr w' := by
  refine (hop_any n x y Lb Nb F lv live next wr h.hL h.hN (hl.down h.bel) h.hF h.len hx hy).mono ?_
  rintro e w' ⟨rfl, h1, h2⟩
  exact ⟨rfl, h.but h2 h1 (by rw [hopS_len]; exact h.len), h2⟩
theorem ON.other {w wr w' : World} {Wb Lb Nb F n D e : Nat} {wv c : Array Value} {lv : Value} {next : List Bool} (h : ON w wr Wb Lb Nb F n wv lv next) (hb : But F wr w') (hD : wr.heap[D]? = some (.cells c e (0, 0))) (he : e ≠ 4) : w'.heap[D]? = some (.cells c e (0, 0)) :=
  (hb.block D (lt_heap hD) (fun e2 => by
    rw [e2, h.hF] at hD
    cases hD
    exact he rfl)).trans hD
end Go.Proofs.YtpbalclhdhjnoaaGreatDoor.Bar
namespace Go.Proofs.YtpbalclhdhjnoaaGreatDoor.Bar
open Go.RowKit Go.Shelf Doc

theorem linksN_out {ls : List LineM} {out : List Bool} {k : Nat} {l : LineM} (hk : ls[k]? = some l) (ho : out.getD k false = true) : linksN ls out (k + 1) = linksN ls out k := by
  rw [linksN, hk]
  simp only
  rw [if_pos ho]
theorem linksN_in {ls : List LineM} {out : List Bool} {k : Nat} {l : LineM} (hk : ls[k]? = some l) (ho : out.getD k false = false) : linksN ls out (k + 1) = linksN ls out k ++ [⟨false, (k : Int), l.frm, l.to⟩] := by
  rw [linksN, hk]
  simp only
  rw [if_neg (by rw [ho]; decide)]
theorem linksT_open {ts : List TieM} {k : Nat} {t : TieM} (hk : ts[k]? = some t) (ho : t.closed = false) : linksT ts (k + 1) = linksT ts k := by
  rw [linksT, hk]
  simp only
  rw [if_neg (by rw [ho]; decide)]
theorem linksT_shut {ts : List TieM} {k : Nat} {t : TieM} (hk : ts[k]? = some t) (ho : t.closed = true) : linksT ts (k + 1) = linksT ts k ++ [⟨true, (k : Int), t.frm, t.to⟩] := by
  rw [linksT, hk]
  simp only
  rw [if_pos ho]
set_option maxRecDepth 100000 in
set_option maxHeartbeats 4000000 in
theorem onward_any (W : WorldM) (a : WAddr) (n : Nat) (hn : n = W.net.buses.length) (hf : Fits W.net) (he : EndsM W.net) (hol : W.out.length = W.net.lines.length) (live : List Bool) (la : Option Addr) (lc : Nat) (w : World) (hw : WorldAt w W a) (hl : RowAt w (.slice la n lc) n 1 (live.map Value.bool)) :
    Calls Tryz.prog 19 #[.agg #[.string W.net.name, .slice a.ab W.net.buses.length a.cb, .slice a.al W.net.lines.length a.cl, .slice a.ag W.net.gens.length a.cg, .slice a.ad W.net.loads.length a.cd, .slice a.at' W.net.ties.length a.ct, .slice a.ao W.out.length a.co, .slice a.an W.on.length a.cn, .slice a.ap W.plan.length a.cp, .slice a.av W.given.length a.cv, .int .i64 W.now, .slice a.ae W.log.length a.ce], .slice la n lc] w fun e w' => ∃ F, e = .returned (.slice (some ⟨F, 0, none⟩) n n) ∧ w'.heap[F]? = some (.cells ((hopsL live (List.replicate n false) (serviceL W.net W.out)).map Value.bool).toArray 4 (0, 0)) ∧ w.heap.size ≤ F ∧ Below w.heap.size w w' := by
  obtain ⟨i4, hi4, h40, h41, h42⟩ := info_parts info4W
  have hn16 : n ≤ 16 := by rw [hn]; exact hf.1
  have hL30 : W.net.lines.length ≤ 30 := hf.2.1
  have hT24 : W.net.ties.length ≤ 24 := hf.2.2.2.2
  have HE : Hid ((∀ l ∈ W.net.lines, 0 ≤ l.frm ∧ l.frm < n ∧ 0 ≤ l.to ∧ l.to < n) ∧ ∀ l ∈ W.net.ties, 0 ≤ l.frm ∧ l.frm < n ∧ 0 ≤ l.to ∧ l.to < n) := by rw [hn]; exact ⟨he.lines, he.ties⟩
  obtain ⟨ab, al, ag, ad, at', ao, an, ap, av, ae, cb, cl, cg, cd, ct, co, cn, cp, cv, ce⟩ := a
  dsimp only
  have HLR : Hid (RowAt w (.slice al W.net.lines.length cl) W.net.lines.length 5 (W.net.lines.flatMap LineM.cells)) := hw.l
  have HTR : Hid (RowAt w (.slice at' W.net.ties.length ct) W.net.ties.length 4 (W.net.ties.flatMap TieM.cells)) := hw.t
  have HOR : Hid (RowAt w (.slice ao W.out.length co) W.out.length 1 (W.out.map Value.bool)) := hw.o
  have HLV := hide' hl
  have HOL := hide' hol
  clear hn hf he hol hw hl
  go_enter Tryz.func19, Tryz.ntmps19
  go_upto_region 1 with fail
  have hqWb := (alloc_old (w.alloc (.cells #[.string W.net.name, .slice ab W.net.buses.length cb, .slice al W.net.lines.length cl, .slice ag W.net.gens.length cg, .slice ad W.net.loads.length cd, .slice at' W.net.ties.length ct, .slice ao W.out.length co, .slice an W.on.length cn, .slice ap W.plan.length cp, .slice av W.given.length cv, .int .i64 W.now, .slice ae W.log.length ce] 33)) (.cells #[.slice la n lc] 29) (lt_heap (alloc_new w (.cells #[.string W.net.name, .slice ab W.net.buses.length cb, .slice al W.net.lines.length cl, .slice ag W.net.gens.length cg, .slice ad W.net.loads.length cd, .slice at' W.net.ties.length ct, .slice ao W.out.length co, .slice an W.on.length cn, .slice ap W.plan.length cp, .slice av W.given.length cv, .int .i64 W.now, .slice ae W.log.length ce] 33)))).trans (alloc_new w (.cells #[.string W.net.name, .slice ab W.net.buses.length cb, .slice al W.net.lines.length cl, .slice ag W.net.gens.length cg, .slice ad W.net.loads.length cd, .slice at' W.net.ties.length ct, .slice ao W.out.length co, .slice an W.on.length cn, .slice ap W.plan.length cp, .slice av W.given.length cv, .int .i64 W.now, .slice ae W.log.length ce] 33))
  have hqLb := alloc_new (w.alloc (.cells #[.string W.net.name, .slice ab W.net.buses.length cb, .slice al W.net.lines.length cl, .slice ag W.net.gens.length cg, .slice ad W.net.loads.length cd, .slice at' W.net.ties.length ct, .slice ao W.out.length co, .slice an W.on.length cn, .slice ap W.plan.length cp, .slice av W.given.length cv, .int .i64 W.now, .slice ae W.log.length ce] 33)) (.cells #[.slice la n lc] 29)
  have hb1 := (below_al w (.cells #[.string W.net.name, .slice ab W.net.buses.length cb, .slice al W.net.lines.length cl, .slice ag W.net.gens.length cg, .slice ad W.net.loads.length cd, .slice at' W.net.ties.length ct, .slice ao W.out.length co, .slice an W.on.length cn, .slice ap W.plan.length cp, .slice av W.given.length cv, .int .i64 W.now, .slice ae W.log.length ce] 33)).alloc (below_al w (.cells #[.string W.net.name, .slice ab W.net.buses.length cb, .slice al W.net.lines.length cl, .slice ag W.net.gens.length cg, .slice ad W.net.loads.length cd, .slice at' W.net.ties.length ct, .slice ao W.out.length co, .slice an W.on.length cn, .slice ap W.plan.length cp, .slice av W.given.length cv, .int .i64 W.now, .slice ae W.log.length ce] 33)).size (.cells #[.slice la n lc] 29)
  rw [show (w.alloc (.cells #[.string W.net.name, .slice ab W.net.buses.length cb, .slice al W.net.lines.length cl, .slice ag W.net.gens.length cg, .slice ad W.net.loads.length cd, .slice at' W.net.ties.length ct, .slice ao W.out.length co, .slice an W.on.length cn, .slice ap W.plan.length cp, .slice av W.given.length cv, .int .i64 W.now, .slice ae W.log.length ce] 33)).heap.size = w.heap.size + 1 from by simp only [World.size_alloc]] at hqLb
  obtain ⟨w1, hw1⟩ : ∃ x, x = ((w.alloc (.cells #[.string W.net.name, .slice ab W.net.buses.length cb, .slice al W.net.lines.length cl, .slice ag W.net.gens.length cg, .slice ad W.net.loads.length cd, .slice at' W.net.ties.length ct, .slice ao W.out.length co, .slice an W.on.length cn, .slice ap W.plan.length cp, .slice av W.given.length cv, .int .i64 W.now, .slice ae W.log.length ce] 33)).alloc (.cells #[.slice la n lc] 29)) := ⟨_, rfl⟩
  rw [← hw1] at hqWb hqLb hb1 ⊢
  obtain ⟨Wb, hnWb⟩ : ∃ x, x = w.heap.size := ⟨_, rfl⟩
  obtain ⟨Lb, hnLb⟩ : ∃ x, x = w.heap.size + 1 := ⟨_, rfl⟩
  have HNE : Hid (w.heap.size ≤ Wb ∧ w.heap.size ≤ Lb ∧ Wb ≠ Lb) := ⟨by omega, by omega, by omega⟩
  rw [← hnWb] at hqWb
  rw [← hnLb] at hqLb
  rw [show (Value.pointer (some { block := w.heap.size, off := 0 })) = Value.pointer (some { block := Wb, off := 0 }) by rw [hnWb], show (Value.pointer (some { block := w.heap.size + 1, off := 0 })) = Value.pointer (some { block := Lb, off := 0 }) by rw [hnLb]]
  have HQWb := hide' hqWb
  have HQLb := hide' hqLb
  have HB1 := hide' hb1
  clear hqWb hqLb hb1 hw1 hnWb hnLb
  have l0 : w1.cell? ⟨Lb, 0, none⟩ = some (.slice la n lc) := (cells_at HQLb.out 0).trans rfl
  go_wp2_with (at_make; refine wpList_make_full _ rfl _ _ 29 rfl w1.heap.size 4 i4 (.bool false) 1 Tryz.underlying29 hi4 h40 h41 .i64 .i64 _ _ n rfl rfl rfl rfl (by rw [h42]; omega) (by unfold maxLen; omega) (Nat.le_refl _) ?_; intro w2 hown hgr; refine Still.go ?_)
  unfold Still
  have hb2 : Below w1.heap.size w1 w2 := (Below.refl _ w1).grown hgr (Nat.le_refl _) (fun k e => by cases e)
  obtain ⟨F, hF⟩ : ∃ x, x = w1.heap.size := ⟨_, rfl⟩
  have HF2 : Hid (w2.heap[F]? = some (.cells ((List.replicate n false).map Value.bool).toArray 4 (0, 0))) := by
    have h1 := row_cells hown
    rw [made_bool] at h1
    rw [hF, List.map_replicate]
    exact h1
  have HB2 := hide' hb2
  have HSF : Hid (w.heap.size ≤ F) := by show _ ≤ _; rw [hF]; exact HB1.out.size
  rw [← hF]
  clear hown hgr hb2 hF l0
  go_upto_region 2 with fail
  obtain ⟨Nb, hNb⟩ : ∃ x, x = w2.heap.size := ⟨_, rfl⟩
  have hb3 := below_al w2 (.cells #[.slice (some ⟨F, 0, none⟩) n n] 29)
  have hn3 := alloc_new w2 (.cells #[.slice (some ⟨F, 0, none⟩) n n] 29)
  obtain ⟨w3, hw3⟩ : ∃ x, x = w2.alloc (.cells #[.slice (some ⟨F, 0, none⟩) n n] 29) := ⟨_, rfl⟩
  rw [← hw3] at hb3 hn3 ⊢
  rw [← hNb] at hn3 ⊢
  have HB23 : Hid (Below w1.heap.size w1 w3) := HB2.out.trans (hb3.mono HB2.out.size)
  have HO3 : Hid (ON w w3 Wb Lb Nb F n #[.string W.net.name, .slice ab W.net.buses.length cb, .slice al W.net.lines.length cl, .slice ag W.net.gens.length cg, .slice ad W.net.loads.length cd, .slice at' W.net.ties.length ct, .slice ao W.out.length co, .slice an W.on.length cn, .slice ap W.plan.length cp, .slice av W.given.length cv, .int .i64 W.now, .slice ae W.log.length ce] (.slice la n lc) (hopsL live (List.replicate n false) (linksN W.net.lines W.out 0))) :=
    ⟨(HB23.out.block Wb (lt_heap HQWb.out)).trans HQWb.out, (HB23.out.block Lb (lt_heap HQLb.out)).trans HQLb.out, hn3, (hb3.block F (lt_heap HF2.out)).trans HF2.out, List.length_replicate, HSF.out, HB1.out.trans (HB23.out.mono HB1.out.size)⟩
  clear hb3 hn3 hw3 hNb HF2 HB2 HB23 HQWb HQLb HB1 HSF
  have g2 : w3.cell? ⟨Wb, 2, none⟩ = some (.slice al W.net.lines.length cl) := (cells_at HO3.out.hW 2).trans rfl
  go_wp2_with fail
  clear g2
  go_loopw [19] (fun iv wr => ∃ (k : Nat), iv = .int .i64 k ∧ k ≤ W.net.lines.length ∧ Hid (ON w wr Wb Lb Nb F n #[.string W.net.name, .slice ab W.net.buses.length cb, .slice al W.net.lines.length cl, .slice ag W.net.gens.length cg, .slice ad W.net.loads.length cd, .slice at' W.net.ties.length ct, .slice ao W.out.length co, .slice an W.on.length cn, .slice ap W.plan.length cp, .slice av W.given.length cv, .int .i64 W.now, .slice ae W.log.length ce] (.slice la n lc) (hopsL live (List.replicate n false) (linksN W.net.lines W.out k)))) (fun iv _ => W.net.lines.length - (intOf iv).toNat)
  case atStart => exact ⟨0, rfl, Nat.zero_le _, HO3.out⟩
  case round =>
    clear HO3
    obtain ⟨k, rfl, hk, HO⟩ := hrel
    by_cases hkl : k < W.net.lines.length
    · obtain ⟨rb, ro, rc, exr, _, hrow⟩ := row_elem (f := LineM.cells) (fun _ => rfl) HLR.out k hkl (by decide)
      obtain ⟨l, hlk⟩ : ∃ l, l = W.net.lines[k] := ⟨_, rfl⟩
      have HLK : Hid (W.net.lines[k]? = some l) := by show _ = _; rw [hlk]; exact List.getElem?_eq_getElem hkl
      obtain ⟨h1, h2, h3, h4⟩ := HE.out.1 l (by rw [hlk]; exact List.getElem_mem hkl)
      rw [← hlk] at hrow
      obtain ⟨nm, fr, to', wo, li⟩ := l
      obtain ⟨p, rfl⟩ := Int.eq_ofNat_of_zero_le h1
      obtain ⟨q, rfl⟩ := Int.eq_ofNat_of_zero_le h3
      have hp : p < n := by simp only at h2; omega
      have hq : q < n := by simp only at h4; omega
      simp only [Value.slice.injEq] at exr
      obtain ⟨rfl, _, rfl⟩ := exr
      have c0 : wr.cell? ⟨rb, ro + k * 5, none⟩ = some (.string nm) := up_cell HO.out.bel (hrow 0 _ rfl)
      have c1 : wr.cell? ⟨rb, ro + k * 5 + 1, none⟩ = some (.int .i64 (p : Int)) := up_cell HO.out.bel (hrow 1 _ rfl)
      have c2 : wr.cell? ⟨rb, ro + k * 5 + 2, none⟩ = some (.int .i64 (q : Int)) := up_cell HO.out.bel (hrow 2 _ rfl)
      have c3 : wr.cell? ⟨rb, ro + k * 5 + 3, none⟩ = some (.int .i64 wo) := up_cell HO.out.bel (hrow 3 _ rfl)
      have c4 : wr.cell? ⟨rb, ro + k * 5 + 4, none⟩ = some (.int .i64 li) := up_cell HO.out.bel (hrow 4 _ rfl)
      clear hrow h1 h2 h3 h4 hlk
      go_upto_region 6 with fail
      obtain ⟨D, hD⟩ : ∃ x, x = wr.heap.size := ⟨_, rfl⟩
      have hb4 := below_al wr (.cells #[.string nm, .int .i64 (p : Int), .int .i64 (q : Int), .int .i64 wo, .int .i64 li] 54)
      have hn4 := alloc_new wr (.cells #[.string nm, .int .i64 (p : Int), .int .i64 (q : Int), .int .i64 wo, .int .i64 li] 54)
      obtain ⟨w4, hw4⟩ : ∃ x, x = wr.alloc (.cells #[.string nm, .int .i64 (p : Int), .int .i64 (q : Int), .int .i64 wo, .int .i64 li] 54) := ⟨_, rfl⟩
      rw [← hw4] at hb4 hn4 ⊢
      rw [← hD] at hn4 ⊢
      have HO4 := hide' (HO.out.more hb4)
      have d1 : w4.cell? ⟨D, 1, none⟩ = some (.int .i64 (p : Int)) := (cells_at hn4 1).trans rfl
      have d2 : w4.cell? ⟨D, 2, none⟩ = some (.int .i64 (q : Int)) := (cells_at hn4 2).trans rfl
      have g6 : w4.cell? ⟨Wb, 6, none⟩ = some (.slice ao W.out.length co) := (cells_at HO4.out.hW 6).trans rfl
      have hko : k < W.out.length := by rw [HOL.out]; exact hkl
      obtain ⟨ob, oo, oc, exo, hoc⟩ := bool_cellW HOR.out k hko
      simp only [Value.slice.injEq] at exo
      obtain ⟨rfl, _, rfl⟩ := exo
      have g7 := up_cell HO4.out.bel hoc
      have HN4 := hide' hn4
      clear hn4 hw4 hD HO c0 c1 c2 c3 c4 hb4 hoc
      rcases hx : W.out.getD k false with _ | _
      · rw [hx] at g7
        have HLN : Hid (linksN W.net.lines W.out (k + 1) = linksN W.net.lines W.out k ++ [⟨false, (k : Int), (p : Int), (q : Int)⟩]) := linksN_in HLK.out hx
        have HK1 := hide' (HO4.out.hop HLV.out hp hq)
        clear hx
        go_wp2_with fail
        refine HK1.out.mono ?_
        rintro e w5 ⟨rfl, ho5, hbu5⟩
        have HN5 := hide' (HO4.out.other hbu5 HN4.out (by decide))
        have HK2 := hide' (ho5.hop HLV.out hq hp)
        have d1 : w5.cell? ⟨D, 1, none⟩ = some (.int .i64 (p : Int)) := (cells_at HN5.out 1).trans rfl
        have d2 : w5.cell? ⟨D, 2, none⟩ = some (.int .i64 (q : Int)) := (cells_at HN5.out 2).trans rfl
        clear ho5 hbu5 HK1 HN4
        go_wp2_with fail
        refine HK2.out.mono ?_
        rintro e w6 ⟨rfl, ho6, _⟩
        rw [show hopS live (hopS live (hopsL live (List.replicate n false) (linksN W.net.lines W.out k)) p q) q p = hopsL live (List.replicate n false) (linksN W.net.lines W.out (k + 1)) by rw [HLN.out, hopsL_snoc]; rfl] at ho6
        have HO6 := hide' ho6
        clear ho6 HK2
        go_wp2_with fail
        go_roundw
        case rel => exact ⟨k + 1, by go_num, by omega, HO6.out⟩
        case measure => simp only [intOf]; omega
      · rw [hx] at g7
        have hnx := HO4.out
        rw [← linksN_out HLK.out hx] at hnx
        have HNX := hide' hnx
        clear hnx
        clear hx
        go_wp2_with fail
        go_roundw
        case rel => exact ⟨k + 1, by go_num, by omega, HNX.out⟩
        case measure => simp only [intOf]; omega
    · have hke : k = W.net.lines.length := by omega
      subst hke
      have g5 : wr.cell? ⟨Wb, 5, none⟩ = some (.slice at' W.net.ties.length ct) := (cells_at HO.out.hW 5).trans rfl
      have HO7 : Hid (ON w wr Wb Lb Nb F n #[.string W.net.name, .slice ab W.net.buses.length cb, .slice al W.net.lines.length cl, .slice ag W.net.gens.length cg, .slice ad W.net.loads.length cd, .slice at' W.net.ties.length ct, .slice ao W.out.length co, .slice an W.on.length cn, .slice ap W.plan.length cp, .slice av W.given.length cv, .int .i64 W.now, .slice ae W.log.length ce] (.slice la n lc) (hopsL live (List.replicate n false) (linksN W.net.lines W.out W.net.lines.length ++ linksT W.net.ties 0))) := by
        show ON _ _ _ _ _ _ _ _ _ _
        rw [show linksT W.net.ties 0 = [] from rfl, List.append_nil]
        exact HO.out
      clear HO
      go_wp2_with fail
      clear g5
      go_loopw [47] (fun iv wr => ∃ (k : Nat), iv = .int .i64 k ∧ k ≤ W.net.ties.length ∧ Hid (ON w wr Wb Lb Nb F n #[.string W.net.name, .slice ab W.net.buses.length cb, .slice al W.net.lines.length cl, .slice ag W.net.gens.length cg, .slice ad W.net.loads.length cd, .slice at' W.net.ties.length ct, .slice ao W.out.length co, .slice an W.on.length cn, .slice ap W.plan.length cp, .slice av W.given.length cv, .int .i64 W.now, .slice ae W.log.length ce] (.slice la n lc) (hopsL live (List.replicate n false) (linksN W.net.lines W.out W.net.lines.length ++ linksT W.net.ties k)))) (fun iv _ => W.net.ties.length - (intOf iv).toNat)
      case atStart => exact ⟨0, rfl, Nat.zero_le _, HO7.out⟩
      case round =>
        clear HO7
        obtain ⟨k, rfl, hk, HO⟩ := hrel
        by_cases hkl : k < W.net.ties.length
        · obtain ⟨rb, ro, rc, exr, _, hrow⟩ := row_elem (f := TieM.cells) (fun _ => rfl) HTR.out k hkl (by decide)
          obtain ⟨l, hlk⟩ : ∃ l, l = W.net.ties[k] := ⟨_, rfl⟩
          have HLK : Hid (W.net.ties[k]? = some l) := by show _ = _; rw [hlk]; exact List.getElem?_eq_getElem hkl
          obtain ⟨h1, h2, h3, h4⟩ := HE.out.2 l (by rw [hlk]; exact List.getElem_mem hkl)
          rw [← hlk] at hrow
          obtain ⟨nm, fr, to', cz⟩ := l
          obtain ⟨p, rfl⟩ := Int.eq_ofNat_of_zero_le h1
          obtain ⟨q, rfl⟩ := Int.eq_ofNat_of_zero_le h3
          have hp : p < n := by simp only at h2; omega
          have hq : q < n := by simp only at h4; omega
          simp only [Value.slice.injEq] at exr
          obtain ⟨rfl, _, rfl⟩ := exr
          have c0 : wr.cell? ⟨rb, ro + k * 4, none⟩ = some (.string nm) := up_cell HO.out.bel (hrow 0 _ rfl)
          have c1 : wr.cell? ⟨rb, ro + k * 4 + 1, none⟩ = some (.int .i64 (p : Int)) := up_cell HO.out.bel (hrow 1 _ rfl)
          have c2 : wr.cell? ⟨rb, ro + k * 4 + 2, none⟩ = some (.int .i64 (q : Int)) := up_cell HO.out.bel (hrow 2 _ rfl)
          have c3 : wr.cell? ⟨rb, ro + k * 4 + 3, none⟩ = some (.bool cz) := up_cell HO.out.bel (hrow 3 _ rfl)
          clear hrow h1 h2 h3 h4 hlk
          go_upto_region 13 with fail
          obtain ⟨D, hD⟩ : ∃ x, x = wr.heap.size := ⟨_, rfl⟩
          have hb4 := below_al wr (.cells #[.string nm, .int .i64 (p : Int), .int .i64 (q : Int), .bool cz] 56)
          have hn4 := alloc_new wr (.cells #[.string nm, .int .i64 (p : Int), .int .i64 (q : Int), .bool cz] 56)
          obtain ⟨w4, hw4⟩ : ∃ x, x = wr.alloc (.cells #[.string nm, .int .i64 (p : Int), .int .i64 (q : Int), .bool cz] 56) := ⟨_, rfl⟩
          rw [← hw4] at hb4 hn4 ⊢
          rw [← hD] at hn4 ⊢
          have HO4 := hide' (HO.out.more hb4)
          have d1 : w4.cell? ⟨D, 1, none⟩ = some (.int .i64 (p : Int)) := (cells_at hn4 1).trans rfl
          have d2 : w4.cell? ⟨D, 2, none⟩ = some (.int .i64 (q : Int)) := (cells_at hn4 2).trans rfl
          have d3 : w4.cell? ⟨D, 3, none⟩ = some (.bool cz) := (cells_at hn4 3).trans rfl
          have HN4 := hide' hn4
          clear hn4 hw4 hD HO c0 c1 c2 c3 hb4
          cases cz with
          | true =>
            have HLN : Hid (linksT W.net.ties (k + 1) = linksT W.net.ties k ++ [⟨true, (k : Int), (p : Int), (q : Int)⟩]) := linksT_shut HLK.out rfl
            have HK1 := hide' (HO4.out.hop HLV.out hp hq)
            go_wp2_with fail
            refine HK1.out.mono ?_
            rintro e w5 ⟨rfl, ho5, hbu5⟩
            have HN5 := hide' (HO4.out.other hbu5 HN4.out (by decide))
            have HK2 := hide' (ho5.hop HLV.out hq hp)
            have d1 : w5.cell? ⟨D, 1, none⟩ = some (.int .i64 (p : Int)) := (cells_at HN5.out 1).trans rfl
            have d2 : w5.cell? ⟨D, 2, none⟩ = some (.int .i64 (q : Int)) := (cells_at HN5.out 2).trans rfl
            clear ho5 hbu5 HK1 HN4
            go_wp2_with fail
            refine HK2.out.mono ?_
            rintro e w6 ⟨rfl, ho6, _⟩
            rw [show hopS live (hopS live (hopsL live (List.replicate n false) (linksN W.net.lines W.out W.net.lines.length ++ linksT W.net.ties k)) p q) q p = hopsL live (List.replicate n false) (linksN W.net.lines W.out W.net.lines.length ++ linksT W.net.ties (k + 1)) by rw [HLN.out, ← List.append_assoc, hopsL_snoc]; rfl] at ho6
            have HO6 := hide' ho6
            clear ho6 HK2
            go_wp2_with fail
            go_roundw
            case rel => exact ⟨k + 1, by go_num, by omega, HO6.out⟩
            case measure => simp only [intOf]; omega
          | false =>
            have hnx := HO4.out
            rw [← linksT_open HLK.out rfl] at hnx
            have HNX := hide' hnx
            clear hnx
            go_wp2_with fail
            go_roundw
            case rel => exact ⟨k + 1, by go_num, by omega, HNX.out⟩
            case measure => simp only [intOf]; omega
        · have hke : k = W.net.ties.length := by omega
          subst hke
          have b0 : wr.cell? ⟨Nb, 0, none⟩ = some (.slice (some ⟨F, 0, none⟩) n n) := (cells_at HO.out.hN 0).trans rfl
          go_wp2_with fail
          go_ret
          exact ⟨F, rfl, HO.out.hF, HO.out.sF, HO.out.bel⟩
end Go.Proofs.YtpbalclhdhjnoaaGreatDoor.Bar
