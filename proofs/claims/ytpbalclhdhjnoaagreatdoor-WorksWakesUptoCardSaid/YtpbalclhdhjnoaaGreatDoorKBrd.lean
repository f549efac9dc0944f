/- The program's nodes. -/
import Derived.Test.YtpbalclhdhjnoaaGreatDoorKBrb
import Derived.Test.YtpbalclhdhjnoaaGreatDoorKGw3
namespace Go.Proofs.YtpbalclhdhjnoaaGreatDoor.Bar
open Go.RowKit Go.Shelf Doc

theorem linksT_ends {N : NetM} (he : EndsM N) : ∀ k, Ends N.buses.length (linksT N.ties k)
  | 0 => fun l hl => by cases hl
  | k + 1 => fun l hl => by
    have ih := linksT_ends he k
    rw [linksT] at hl
    split at hl
    · next t ht =>
      have := he.ties t (List.mem_of_getElem? ht)
      split at hl
      · rcases List.mem_append.1 hl with hl | hl
        · exact ih l hl
        · rw [List.mem_singleton.1 hl]
          exact this
      · exact ih l hl
    · exact ih l hl
theorem NBx.cells {w W : World} {c0 c1 c2 c3 c4 c5 : Value} (h : NBx w W #[c0, c1, c2, c3, c4, c5]) : W.cell? ⟨w.heap.size, 0, none⟩ = some c0 ∧ W.cell? ⟨w.heap.size, 1, none⟩ = some c1 ∧ W.cell? ⟨w.heap.size, 2, none⟩ = some c2 ∧ W.cell? ⟨w.heap.size, 3, none⟩ = some c3 ∧ W.cell? ⟨w.heap.size, 4, none⟩ = some c4 ∧ W.cell? ⟨w.heap.size, 5, none⟩ = some c5 := by
  refine ⟨?_, ?_, ?_, ?_, ?_, ?_⟩ <;> (simp only [World.cell?, h.box]; rfl)
end Go.Proofs.YtpbalclhdhjnoaaGreatDoor.Bar

namespace Go.Proofs.YtpbalclhdhjnoaaGreatDoor.Bar
open Go.RowKit Go.Shelf Doc

def linksN (ls : List LineM) (out : List Bool) : Nat → List LinkM
  | 0 => []
  | k + 1 => match ls[k]? with
    | some t => if out.getD k false then linksN ls out k else linksN ls out k ++ [⟨false, (k : Int), t.frm, t.to⟩]
    | none => linksN ls out k
theorem linksN_ends {N : NetM} (he : EndsM N) (out : List Bool) : ∀ k, Ends N.buses.length (linksN N.lines out k)
  | 0 => fun l hl => by cases hl
  | k + 1 => fun l hl => by
    have ih := linksN_ends he out k
    rw [linksN] at hl
    split at hl
    · next t ht =>
      have := he.lines t (List.mem_of_getElem? ht)
      split at hl
      · exact ih l hl
      · rcases List.mem_append.1 hl with hl | hl
        · exact ih l hl
        · rw [List.mem_singleton.1 hl]
          exact this
    · exact ih l hl
/-- What is in service. -/
def serviceL (N : NetM) (out : List Bool) : List LinkM := linksN N.lines out N.lines.length ++ linksT N.ties N.ties.length
theorem run_append_end {P : Program} (w : World) (t ty e : TypeId) (i : TypeInfo) (ht : P.underlying t = some (.slice e)) (hi : P.info? e = some i) (a : Addr) (n cap c : Nat) (hn : n ≤ cap) :
    (Builtin.append_ #[t, t] ty #[.slice (some a) n cap, .slice none 0 c]).run P w = .ok (.slice (some a) n cap) w := by
  have hl : (Builtin.lenOf (.slice none 0 c)).run P w = .ok 0 w := rfl
  simp [Builtin.append_, run_underlying ht, sizeOf, typeInfo, hi, hl, Builtin.firstCells]
  rw [if_pos hn]
  rfl
theorem step_append_any {P : Program} {ops : Array Oper} {o : Oper} {a : Act} {w : World} {K : Act → World → Prop} {Q : Exit → Act → World → Prop} {E : Prop}
    (hg : o.guard = none) (s x : Operand) (t : TypeId) (hop : o.op = Op.call { callee := Callee.builtin Builtin.append, args := #[s, x], argTypes := #[t, t] })
    (base : Nat) (e : TypeId) (i : TypeInfo) (z : Value) (size bytes : Nat) (h1 : P.underlying t = some (.slice e)) (h2 : P.info? e = some i) (h3 : i.zero = some z) (h4 : i.size = size) (h5 : i.bytes = bytes) (h6 : z.cells.size = size) (h7 : 0 < size)
    (v : Value) (n : Nat) (xs : List Value) (hs : a.eval s = v) (hown : w.ownsRow base e size v n xs)
    (xv : Value) (m : Nat) (news : List Value) (hx : a.eval x = xv) (hxr : RowAt w xv m size news) (h1c : ∀ u ∈ news, u.oneCell' = true)
    (b1 : n + m ≤ maxLen) (b2 : (n + m) * bytes ≤ 140737488355328) (b3 : base ≤ w.heap.size)
    (hK : ∀ v' w', w'.ownsRow base e size v' (n + m) (xs ++ news) → w.grownBy w' v.ownBlock → K (a.put o.dst v') w') :
    if Region.wanted o (yielded ops a.tmps) = true then Oper.wp P o a w K Q else E := by
  obtain ⟨hn, ao, c, rfl, hc⟩ := hxr
  cases ao with
  | some ad =>
    exact step_append_own hg s x t hop base e i z size bytes h1 h2 h3 h4 h5 h6 h7 v n xs hs hown ad m c news hx hn (fun j u hj => by
      obtain ⟨b, off, e1, h⟩ := hc j u hj
      cases e1
      rw [add_off]; exact h) h1c b1 b2 b3 hK
  | none =>
    have hm : news = [] := by
      cases news with
      | nil => rfl
      | cons u r => obtain ⟨b, off, e1, _⟩ := hc 0 u rfl; cases e1
    subst hm
    have hm0 : m = 0 := by
      rcases Nat.mul_eq_zero.1 hn.symm with h | h
      · exact h
      · omega
    subst hm0
    have hw : Region.wanted o (yielded ops a.tmps) = true := by simp [Region.wanted, hg]
    rw [if_pos hw]
    have hrun : (Builtin.append_ #[t, t] o.type #[v, .slice none 0 c]).run P w = .ok v w := by
      rcases hown.2 with ⟨rfl, _⟩ | ⟨g, cp, cur, rfl, _, _, hle, _⟩
      · exact run_append_nils w t o.type e i h1 h2 c
      · exact run_append_end w t o.type e i h1 h2 _ n cp c hle
    unfold Oper.wp
    simp [execOp, hop, resolve, invoke, builtin, hs, hx, hrun, Result.andThen]
    exact hK v w (by rw [List.append_nil]; exact hown) ⟨rfl, rfl, rfl, Nat.le_refl _, fun _ _ _ => rfl⟩
/-- The box of the answer, nothing in it yet. -/
structure RBx (w W : World) : Prop where
  box : W.heap[w.heap.size + 1]? = some (.cells #[.int .i64 0, .slice none 0 0] 80 (0, 0))
theorem RBx.later {w W W' : World} (h : RBx w W) (hb : Below W.heap.size W W') : RBx w W' := ⟨(hb.block _ (Array.getElem?_eq_some_iff.1 h.box).1).trans h.box⟩
theorem RBx.grown {w W W' : World} (h : RBx w W) {row : Option Nat} (hg : W.grownBy W' row) (hr : ∀ k, row = some k → w.heap.size + 1 < k) : RBx w W' := ⟨(hg.block _ (Array.getElem?_eq_some_iff.1 h.box).1 (fun e => absurd (hr _ e.symm) (Nat.lt_irrefl _))).trans h.box⟩
theorem RBx.cells {w W : World} (h : RBx w W) : W.cell? ⟨w.heap.size + 1, 0, none⟩ = some (.int .i64 0) ∧ W.cell? ⟨w.heap.size + 1, 1, none⟩ = some (.slice none 0 0) ∧ (∀ j, W.frozen? ⟨w.heap.size + 1, j, none⟩ = false) := by
  refine ⟨?_, ?_, fun j => by simp [World.frozen?, h.box]⟩ <;> (simp only [World.cell?, h.box]; rfl)
theorem RBx.stored {w W : World} (h : RBx w W) (x y : Value) : ((W.setCell ⟨w.heap.size + 1, 0, none⟩ x).setCell ⟨w.heap.size + 1, 1, none⟩ y).heap[w.heap.size + 1]? = some (.cells #[x, y] 80 (0, 0)) := by
  rw [set_any (set_any h.box 0 x) 1 y]
  rfl
theorem NBx.stored {w W : World} {g : Array Value} (h : NBx w W g) (x y : Value) : NBx w ((W.setCell ⟨w.heap.size + 1, 0, none⟩ x).setCell ⟨w.heap.size + 1, 1, none⟩ y) g :=
  ⟨(h.bel.setCell (p := ⟨w.heap.size + 1, 0, none⟩) (Nat.le_succ _) _).setCell (p := ⟨w.heap.size + 1, 1, none⟩) (Nat.le_succ _) _,
    (Below.heap_setCell _ _ _ _ (Nat.ne_of_lt (Nat.lt_succ_self _))).trans ((Below.heap_setCell _ _ _ _ (Nat.ne_of_lt (Nat.lt_succ_self _))).trans h.box)⟩

end Go.Proofs.YtpbalclhdhjnoaaGreatDoor.Bar
