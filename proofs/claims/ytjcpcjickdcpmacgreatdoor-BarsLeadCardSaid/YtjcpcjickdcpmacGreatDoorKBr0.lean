/- The grid as plain data: links and what leads on; the library's search in a list of two. -/
import Derived.Test.YtjcpcjickdcpmacGreatDoorKDoc0
import Derived.Test.YtjcpcjickdcpmacGreatDoorKD6
import Derived.RangeFuncNested
import Derived.RangeFuncBound
import Derived.RangeFuncCalls
import Derived.RangeFuncLeaves
import Derived.Shelf.Abstract
import Derived.OwnWalkIn
import Derived.TacticsInMore
import Derived.LoopNIn
import Derived.LoopIn
import Derived.Deep.RegionHeld3
namespace Go.Proofs.YtjcpcjickdcpmacGreatDoor.Bar
open Go.RowKit Doc

structure LinkM where
  tie : Bool
  no : Int
  p : Int
  q : Int
def LinkM.cells (x : LinkM) : List Value := [.bool x.tie, .int .i64 x.no, .int .i64 x.p, .int .i64 x.q]
/-- Where a link leads from a bus. -/
def nextOf (l : LinkM) (u : Int) : Option Int := if l.p = u then some l.q else if l.q = u then some l.p else none
/-- What leads on from a bus, in the links' order. -/
def onw : List LinkM → Int → List (LinkM × Int)
  | [], _ => []
  | l :: r, u => match nextOf l u with
    | some v => (l, v) :: onw r u
    | none => onw r u
def side (l : LinkM) (u : Int) : Int := if l.p = u then 0 else if l.q = u then 1 else -1

set_option maxRecDepth 100000 in
set_option maxHeartbeats 800000 in
theorem Index_two (p q u : Int) (b o c : Nat) (w : World) (h0 : w.cell? ⟨b, o, none⟩ = some (.int .i64 p)) (h1 : w.cell? ⟨b, o + 1, none⟩ = some (.int .i64 q)) :
    Calls Tryz.prog 22 #[.slice (some ⟨b, o, none⟩) 2 c, .int .i64 u] w fun e w' => e = .returned (.int .i64 (if p = u then 0 else if q = u then 1 else -1)) ∧ w' = w := by
  go_enter Tryz.func22, Tryz.ntmps22
  go_wp2
  go_loop [8] (fun i => ∃ (k : Nat), i = .int .i64 k ∧ (k = 0 ∨ (k = 1 ∧ Hid (¬ p = u)) ∨ (k = 2 ∧ Hid (¬ p = u) ∧ Hid (¬ q = u)))) (fun i => 2 - (intOf i).toNat)
  case atStart => exact ⟨0, rfl, .inl rfl⟩
  case round =>
    obtain ⟨k, rfl, hk⟩ := hrel
    rcases hk with rfl | ⟨rfl, HP⟩ | ⟨rfl, HP, HQ⟩
    · by_cases hp : p = u
      · have HR : Hid ((if p = u then (0 : Int) else if q = u then 1 else -1) = 0) := if_pos hp
        subst hp
        go_wp2
        go_ret
        first | exact ⟨ret_int HR.out.symm, rfl⟩ | exact ⟨rfl, rfl⟩
      · have HP : Hid (¬ p = u) := hp
        have hb : (u == p) = false := beq_eq_false_iff_ne.2 (fun h => hp h.symm)
        clear hp
        go_wp2
        go_round
        case rel => exact ⟨1, rfl, .inr (.inl ⟨rfl, HP⟩)⟩
        case measure => simp [intOf]
    · by_cases hq : q = u
      · have HR : Hid ((if p = u then (0 : Int) else if q = u then 1 else -1) = 1) := by show _ = _; rw [if_neg HP.out, if_pos hq]
        subst hq
        go_wp2
        go_ret
        first | exact ⟨ret_int HR.out.symm, rfl⟩ | exact ⟨rfl, rfl⟩
      · have HQ : Hid (¬ q = u) := hq
        have hb : (u == q) = false := beq_eq_false_iff_ne.2 (fun h => hq h.symm)
        clear hq
        go_wp2
        go_round
        case rel => exact ⟨2, rfl, .inr (.inr ⟨rfl, HP, HQ⟩)⟩
        case measure => simp [intOf]
    · have HR : Hid ((if p = u then (0 : Int) else if q = u then 1 else -1) = -1) := by show _ = _; rw [if_neg HP.out, if_neg HQ.out]
      go_wp2
      go_ret
      first | exact ⟨ret_int HR.out.symm, rfl⟩ | exact ⟨rfl, rfl⟩
end Go.Proofs.YtjcpcjickdcpmacGreatDoor.Bar

namespace Go.Proofs.YtjcpcjickdcpmacGreatDoor.Bar
open Go.RowKit Go.Shelf Doc

theorem wide_fn (f : FuncId) : Fence.wide.fn f = True := rfl
theorem wide_depth : Fence.wide.depth = none := rfl
attribute [local go_sem] Oper.semAt_some wide_fn wide_depth

/-- onward: two boxes, and the function that holds them. -/
theorem onward_any (n : Int) (lv : Value) (u : Int) (w : World) :
    Calls Tryz.prog 18 #[.agg #[.int .i64 n, lv], .int .i64 u] w fun e w' =>
      e = .returned (.func (.func 21) #[] #[.pointer (some ⟨w.heap.size, 0, none⟩), .pointer (some ⟨w.heap.size + 1, 0, none⟩)]) ∧
      w' = (w.alloc (.cells #[.int .i64 n, lv] 58)).alloc (.cells #[.int .i64 u] 3) := by
  have hmf : ∀ fn first cap (w : World), (Instr.makeFunc fn first cap).run Tryz.prog w = .ok (.func fn first cap) w := fun _ _ _ _ => rfl
  go_enter Tryz.func18, Tryz.ntmps18
  go_wp2
  go_ret
  exact ⟨rfl, rfl⟩
end Go.Proofs.YtjcpcjickdcpmacGreatDoor.Bar
