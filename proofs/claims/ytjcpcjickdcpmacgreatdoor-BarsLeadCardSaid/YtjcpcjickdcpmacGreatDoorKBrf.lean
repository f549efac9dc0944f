/- The program's islands. -/
import Derived.Test.YtjcpcjickdcpmacGreatDoorKBrd
namespace Go.Proofs.YtjcpcjickdcpmacGreatDoor.Bar
open Go.RowKit Go.Shelf Doc

theorem serviceL_ends {N : NetM} (he : EndsM N) (out : List Bool) : Ends N.buses.length (serviceL N out) := fun l hl => by
  rcases List.mem_append.1 hl with hl | hl
  · exact linksN_ends he out _ l hl
  · exact linksT_ends he _ l hl
theorem serviceL_len {N : NetM} (hf : Fits N) (out : List Bool) : (serviceL N out).length ≤ 1000 := by
  have h1 := linksN_len N.lines out N.lines.length
  have h2 := linksT_len N.ties N.ties.length
  have h3 := hf.2.1
  have h4 := hf.2.2.2.2
  rw [serviceL, List.length_append]
  omega
/-- The program's own answer on islands. -/
def IslandsAs (l : List Int) (N : NetM) (out : List Bool) (w : World) (e : Ending) (w' : World) : Prop :=
  (MayM N → out.length = N.lines.length → Answers l 0 w e w') ∧ (MayM N → out.length ≠ N.lines.length → Answers [] 2 w e w') ∧ (¬ MayM N → Answers [] 14 w e w')

set_option maxRecDepth 100000 in
set_option maxHeartbeats 4000000 in
theorem Islands_any (N : NetM) (B1 : Nat) (b l g d t outv : Value) (out : List Bool) (mx : Int) (w : World) (hsm : SmallM N) (htb : TabAll w) (ho : Owns w B1 b l g d t N) (hm : w.cell? ⟨1, 0, none⟩ = some (.int .i64 mx)) (hor : RowAt w outv out.length 1 (out.map Value.bool)) (hol : out.length ≤ 2000000) :
    Calls Tryz.prog 7 #[.agg #[.string N.name, b, l, g, d, t], outv] w (IslandsAs (groupsL N.buses.length (serviceL N out)) N out w) := by
  obtain ⟨ab, cb, rfl⟩ := own_slice ho.hb
  obtain ⟨al, cl, rfl⟩ := own_slice ho.hl
  obtain ⟨ag, cg, rfl⟩ := own_slice ho.hg
  obtain ⟨ad, cd, rfl⟩ := own_slice ho.hd
  obtain ⟨at', ct, rfl⟩ := own_slice ho.ht
  obtain ⟨W, hW⟩ : ∃ W, W = w.alloc (.cells #[.string N.name, .slice ab N.buses.length cb, .slice al N.lines.length cl, .slice ag N.gens.length cg, .slice ad N.loads.length cd, .slice at' N.ties.length ct] 33) := ⟨_, rfl⟩
  have hbW : Below w.heap.size w W := by rw [hW]; exact (Below.refl _ w).alloc (Nat.le_refl _) _
  have hoW : Owns W B1 (.slice ab N.buses.length cb) (.slice al N.lines.length cl) (.slice ag N.gens.length cg) (.slice ad N.loads.length cd) (.slice at' N.ties.length ct) N := by
    rw [hW]
    exact ⟨ho.hb.alloc _, ho.hl.alloc _, ho.hg.alloc _, ho.hd.alloc _, ho.ht.alloc _⟩
  have HIS := hide' (inService_any N B1 _ _ _ _ _ outv out mx W hsm (htb.later hbW) hoW ((hbW.cell (p := ⟨1, 0, none⟩) (World.block_lt_of_cell? w _ hm)).trans hm) (RowAt.below hor hbW (Nat.le_refl _)) hol)
  have HW := hide' hW
  have HBW := hide' hbW
  clear hW hoW hm htb hsm hor hbW ho
  go_enter Tryz.func7, Tryz.ntmps7
  go_wp2_with fail
  rw [← HW.out]
  refine HIS.out.mono ?_
  rintro e w1 ⟨hb1, h1, h2, h3⟩
  have HB1 : Hid (Below w.heap.size w w1) := HBW.out.trans (hb1.mono HBW.out.size)
  clear hb1 HIS
  by_cases hmay : MayM N
  · by_cases hlen : out.length = N.lines.length
    · obtain ⟨a, c, rfl, hrow⟩ := h1 hmay hlen
      have HMay := hide' hmay
      have HLN := hide' hlen
      have HB2 : Hid (Below w.heap.size w (w1.alloc (.cells #[.int .i64 N.buses.length, .slice a (serviceL N out).length c] 58))) := HB1.out.alloc HB1.out.size _
      have HG := hide' (groups_any N.buses.length (by have := hmay.fits.1; omega) (serviceL N out) (serviceL_len hmay.fits out) (serviceL_ends (MayM.ends hmay) out) a c (w1.alloc (.cells #[.int .i64 N.buses.length, .slice a (serviceL N out).length c] 58)) (RowAt.below hrow ((Below.refl _ w1).alloc (Nat.le_refl _) _) (Nat.le_refl _)))
      clear h1 h2 h3 hmay hlen hrow
      go_wp2_with fail
      refine HG.out.mono ?_
      rintro e w3 ⟨F, rfl, hF0, hF, hb3⟩
      have HA : Hid (RowAt w3 (.slice (some ⟨F, 0, none⟩) N.buses.length N.buses.length) (groupsL N.buses.length (serviceL N out)).length 1 (ints (groupsL N.buses.length (serviceL N out)))) := rowAt_ints hF (groupsL_len _ _)
      have HB3 : Hid (Below w.heap.size w w3) := HB2.out.trans (hb3.mono HB2.out.size)
      clear hF0 hF hb3
      go_wp2
      refine bodyPost_ret (results_tmp2 rfl _ _ _) rfl ?_
      exact ⟨fun _ _ => ⟨_, rfl, HA.out, HB3.out⟩, fun _ h => absurd HLN.out h, fun h => absurd HMay.out h⟩
    · obtain rfl := h2 hmay hlen
      have HMay := hide' hmay
      have HLN := hide' hlen
      have HB2 : Hid (∀ o, Below w.heap.size w (w1.alloc o)) := fun o => HB1.out.alloc HB1.out.size o
      clear h1 h2 h3 hmay hlen
      go_wp2
      refine bodyPost_ret (results_tmp2 rfl _ _ _) rfl ?_
      exact ⟨fun _ h => absurd h HLN.out, fun _ _ => answers_nil (HB2.out _), fun h => absurd HMay.out h⟩
  · obtain rfl := h3 hmay
    have HMay := hide' hmay
    have HB2 : Hid (∀ o, Below w.heap.size w (w1.alloc o)) := fun o => HB1.out.alloc HB1.out.size o
    clear h1 h2 h3 hmay
    go_wp2
    refine bodyPost_ret (results_tmp2 rfl _ _ _) rfl ?_
    exact ⟨fun h => absurd h HMay.out, fun h => absurd h HMay.out, fun _ => answers_nil (HB2.out _)⟩
end Go.Proofs.YtjcpcjickdcpmacGreatDoor.Bar

namespace Go.Proofs.YtjcpcjickdcpmacGreatDoor.Bar
open Go.RowKit Go.Shelf Doc

theorem answers_row {l : List Int} {code : Int} {w : World} {e : Ending} {w' : World} (h : Answers l code w e w') : ∃ a c, e = .returned (.tuple #[.slice a l.length c, .int .i64 code]) ∧ RowAt w' (.slice a l.length c) l.length 1 (ints l) ∧ Below w.heap.size w w' := by
  obtain ⟨v, rfl, hr, hb⟩ := h
  obtain ⟨a, c, rfl⟩ := rowAt_slice hr
  exact ⟨a, c, rfl, hr, hb⟩
end Go.Proofs.YtjcpcjickdcpmacGreatDoor.Bar
