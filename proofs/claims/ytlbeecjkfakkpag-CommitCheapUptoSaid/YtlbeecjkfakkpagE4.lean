/- The order in which units are asked for more, in the program. -/
import Derived.Test.YtlbeecjkfakkpagE3
namespace Go.Proofs.Ytlbeecjkfakkpag
open Go.RowKit Go.Shelf

set_option maxRecDepth 100000 in
set_option maxHeartbeats 2000000 in
theorem less_any (us : List UnitM) (a b L : Nat) (v : Value) (w : World) (hL : w.cell? ⟨L, 0, none⟩ = some v) (hx : UnitsAt w v us) (ha : a < us.length) (hb : b < us.length) (_hn : us.length ≤ 1000) : Calls Try.prog 46 #[.int .i64 a, .int .i64 b, .pointer (some ⟨L, 0, none⟩)] w fun e w' => e = .returned (.int .i64 (cmpI (costN us a) (costN us b))) ∧ ∃ q, w' = w.drewN q := by
  obtain ⟨bt, ot, ct, ex, hbt, hct⟩ := row_elem (f := UnitM.cells) (fun _ => rfl) hx a ha (by decide)
  subst ex
  obtain ⟨bt', ot', ct', ex', hbt', hct'⟩ := row_elem (f := UnitM.cells) (fun _ => rfl) hx b hb (by decide)
  cases ex'
  have da := hct 2 _ rfl
  have db := hct' 2 _ rfl
  have ea : us[a].cost = costN us a := by unfold costN; rw [List.getElem?_eq_getElem ha]; rfl
  have eb : us[b].cost = costN us b := by unfold costN; rw [List.getElem?_eq_getElem hb]; rfl
  rw [ea] at da
  rw [eb] at db
  generalize costN us a = ca at *
  generalize costN us b = cb at *
  clear hx hct hct' hbt hbt' ea eb
  have HC := hide' (Compare_any ca cb)
  go_enter Try.func46, Try.ntmps46
  go_wp2_with fail
  go_quiet ((go_at_call 47; exact Calls.quiet_of_same (HC.out _)))
  go_wp2
  go_ret
  exact ⟨rfl, _, rfl⟩
end Go.Proofs.Ytlbeecjkfakkpag
