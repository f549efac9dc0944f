/- What a plan feeds in, as lists: both sides count just so. -/
import Derived.Test.YtakcpemboeekfadGreatDoorKBar
namespace Go.Proofs.YtakcpemboeekfadGreatDoor.Bar
open Go.RowKit Go.Shelf Doc

def feedG (gs : List GenM) (plan : List Int) (n : Nat) : Nat → List Int
  | 0 => List.replicate n 0
  | k + 1 => match gs[k]? with
    | some g => (feedG gs plan n k).set g.bus.toNat (wrap64 ((feedG gs plan n k).getD g.bus.toNat 0 + plan.getD k 0))
    | none => feedG gs plan n k
def feedD (ds : List LoadM) (s : List Int) : Nat → List Int
  | 0 => s
  | k + 1 => match ds[k]? with
    | some d => (feedD ds s k).set d.bus.toNat (wrap64 ((feedD ds s k).getD d.bus.toNat 0 - d.power))
    | none => feedD ds s k
theorem feedG_len (gs : List GenM) (plan : List Int) (n : Nat) : ∀ k, (feedG gs plan n k).length = n
  | 0 => List.length_replicate
  | k + 1 => by
    rw [feedG]
    split
    · rw [List.length_set]; exact feedG_len gs plan n k
    · exact feedG_len gs plan n k
theorem feedD_len (ds : List LoadM) (s : List Int) : ∀ k, (feedD ds s k).length = s.length
  | 0 => rfl
  | k + 1 => by
    rw [feedD]
    split
    · rw [List.length_set]; exact feedD_len ds s k
    · exact feedD_len ds s k
def feedsL (N : NetM) (plan : List Int) : List Int := feedD N.loads (feedG N.gens plan N.buses.length N.gens.length) N.loads.length
theorem feedsL_len (N : NetM) (plan : List Int) : (feedsL N plan).length = N.buses.length := by rw [feedsL, feedD_len, feedG_len]
/-- What one generator may generate. -/
def OkG (g : GenM) (p : Int) : Prop := p = 0 ∨ (g.least ≤ p ∧ p ≤ g.most)
def AbleM (gs : List GenM) (plan : List Int) : Prop := ∀ k g, gs[k]? = some g → OkG g (plan.getD k 0)
/-- What is fed in, or a fault. -/
def FeedsAs (N : NetM) (plan : List Int) (w : World) (e : Ending) (w' : World) : Prop :=
  (¬ MayM N → Answers [] 14 w e w') ∧ (MayM N → plan.length ≠ N.gens.length → Answers [] 2 w e w') ∧ (MayM N → plan.length = N.gens.length → ¬ AbleM N.gens plan → Answers [] 4 w e w') ∧ (MayM N → plan.length = N.gens.length → AbleM N.gens plan → Answers (feedsL N plan) 0 w e w')
/-- One list and one fault for both. -/
theorem feeds_one (N : NetM) (plan : List Int) : ∃ (l : List Int) (c : Int), l.length ≤ 1000 ∧ ∀ w e w', FeedsAs N plan w e w' → Answers l c w e w' := by
  by_cases h : MayM N
  · by_cases h2 : plan.length = N.gens.length
    · by_cases h3 : AbleM N.gens plan
      · exact ⟨feedsL N plan, 0, by rw [feedsL_len]; have := h.fits.1; omega, fun w e w' h1 => h1.2.2.2 h h2 h3⟩
      · exact ⟨[], 4, Nat.zero_le _, fun w e w' h1 => h1.2.2.1 h h2 h3⟩
    · exact ⟨[], 2, Nat.zero_le _, fun w e w' h1 => h1.2.1 h h2⟩
  · exact ⟨[], 14, Nat.zero_le _, fun w e w' h1 => h1.1 h⟩
end Go.Proofs.YtakcpemboeekfadGreatDoor.Bar
