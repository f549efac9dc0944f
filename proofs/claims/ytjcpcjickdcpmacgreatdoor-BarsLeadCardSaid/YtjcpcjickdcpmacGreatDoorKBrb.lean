/- The ties that are closed, as links: the program's list. -/
import Derived.Test.YtjcpcjickdcpmacGreatDoorKBr8
import Derived.Test.YtjcpcjickdcpmacGreatDoorKBra
import Derived.Test.YtjcpcjickdcpmacGreatDoorKDc5
namespace Go.Proofs.YtjcpcjickdcpmacGreatDoor.Bar
open Go.RowKit Go.Shelf Doc

def linksT (ts : List TieM) : Nat → List LinkM
  | 0 => []
  | k + 1 => match ts[k]? with
    | some t => if t.closed then linksT ts k ++ [⟨true, (k : Int), t.frm, t.to⟩] else linksT ts k
    | none => linksT ts k
theorem linksT_len (ts : List TieM) : ∀ k, (linksT ts k).length ≤ k
  | 0 => Nat.le_refl _
  | k + 1 => by
    have := linksT_len ts k
    rw [linksT]
    split
    · split
      · rw [List.length_append]; simp; omega
      · omega
    · omega
theorem Tryz.info68 : (Tryz.prog.info? 68).map (fun i => (i.zero, i.size, i.bytes)) = some (some (.agg #[.bool false, .int .i64 0, .int .i64 0, .int .i64 0]), 4, 32) := by kernel_rfl
theorem Tryz.underlying56 : Tryz.prog.underlying 56 = some (.slice 68) := by kernel_rfl
theorem link_one {c : Bool} {x a b : Int} : ∀ u ∈ [Value.bool c, .int .i64 x, .int .i64 a, .int .i64 b], u.oneCell' = true := by
  intro u hu; simp at hu; rcases hu with rfl | rfl | rfl | rfl <;> rfl
/-- The network's box. -/
structure NBx (w W : World) (g : Array Value) : Prop where
  bel : Below w.heap.size w W
  box : W.heap[w.heap.size]? = some (.cells g 33 (0, 0))
theorem NBx.later {w W W' : World} {g : Array Value} (h : NBx w W g) (hb : Below W.heap.size W W') : NBx w W' g :=
  ⟨h.bel.trans (hb.mono h.bel.size), (hb.block _ (Array.getElem?_eq_some_iff.1 h.box).1).trans h.box⟩
theorem NBx.alloc {w W : World} {g : Array Value} (h : NBx w W g) (o : Obj) : NBx w (W.alloc o) g := h.later ((Below.refl _ W).alloc (Nat.le_refl _) o)
theorem NBx.grown {w W W' : World} {g : Array Value} (h : NBx w W g) {row : Option Nat} (hg : W.grownBy W' row) (hr : ∀ k, row = some k → w.heap.size < k) : NBx w W' g :=
  ⟨h.bel.grown hg h.bel.size (fun k e => Nat.le_of_lt (hr k e)), (hg.block _ (Array.getElem?_eq_some_iff.1 h.box).1 (fun e => absurd (hr _ e.symm) (Nat.lt_irrefl _))).trans h.box⟩
theorem flat_snoc (l : List LinkM) (x : LinkM) : (l ++ [x]).flatMap LinkM.cells = l.flatMap LinkM.cells ++ [.bool x.tie, .int .i64 x.no, .int .i64 x.p, .int .i64 x.q] := by
  simp [List.flatMap_append, LinkM.cells]
theorem own_at {w : World} {B e sz m : Nat} {v : Value} {xs : List Value} (h : w.ownsRow B e sz v m xs) : ∀ k, v.ownBlock = some k → B ≤ k := fun k hk => by
  rcases h.2 with ⟨rfl, _⟩ | ⟨g, cp, cur, rfl, h4, _⟩
  · cases hk
  · cases hk; exact h4

set_option maxRecDepth 100000 in
set_option maxHeartbeats 4000000 in
theorem closedTies_any (N : NetM) (v : Value) (w : World) (hx : NetAt w v N) (hfit : Fits N) :
    Calls Tryz.prog 15 #[v] w fun e w' => ∃ l, e = .returned l ∧ w'.ownsRow (w.heap.size + 1) 68 4 l (linksT N.ties N.ties.length).length ((linksT N.ties N.ties.length).flatMap LinkM.cells) ∧ Below w.heap.size w w' := by
  obtain ⟨vb, vl, vg, vd, vt, rfl, ⟨xb, ab, cb, rfl, rb⟩, ⟨xl, al, cl, rfl, rl⟩, ⟨xg, ag, cg, rfl, rg⟩, ⟨xd, ad, cd, rfl, rd⟩, ⟨xt, at', ct, rfl, rt⟩⟩ := hx
  have HTI : Hid (RowAt w (.slice at' N.ties.length ct) N.ties.length 4 (N.ties.flatMap TieM.cells)) := ⟨xt, at', ct, rfl, rt⟩
  have hlt16 : N.ties.length ≤ 24 := hfit.2.2.2.2
  obtain ⟨i0, hi0, hzz0, hzz1, hzz2⟩ := info_parts Tryz.info68
  have HBX : Hid (NBx w (w.alloc (.cells #[.string N.name, .slice ab N.buses.length cb, .slice al N.lines.length cl, .slice ag N.gens.length cg, .slice ad N.loads.length cd, .slice at' N.ties.length ct] 33)) #[.string N.name, .slice ab N.buses.length cb, .slice al N.lines.length cl, .slice ag N.gens.length cg, .slice ad N.loads.length cd, .slice at' N.ties.length ct]) := ⟨(Below.refl _ w).alloc (Nat.le_refl _) _, World.alloc_heap_new w _⟩
  clear xb rb xl rl xg rg xd rd xt rt hfit
  go_enter Tryz.func15, Tryz.ntmps15
  go_wp2_with fail
  go_loopw [3, 9] (fun l i wr => ∃ (k : Nat) (lv : Value), i = .int .i64 k ∧ l = lv ∧ k ≤ N.ties.length ∧ Hid (wr.ownsRow (w.heap.size + 1) 68 4 lv (linksT N.ties k).length ((linksT N.ties k).flatMap LinkM.cells)) ∧ Hid (NBx w wr #[.string N.name, .slice ab N.buses.length cb, .slice al N.lines.length cl, .slice ag N.gens.length cg, .slice ad N.loads.length cd, .slice at' N.ties.length ct])) (fun _ i _ => N.ties.length - (intOf i).toNat)
  case atStart => exact ⟨0, _, rfl, rfl, Nat.zero_le _, ⟨rfl, .inl ⟨rfl, rfl⟩⟩, HBX⟩
  case round =>
    clear HBX
    obtain ⟨k, l, rfl, hl, hk, HOW, HBX⟩ := hrel
    have hl' := hl.symm
    clear hl
    subst hl'
    by_cases hlt : k < N.ties.length
    · obtain ⟨bt, ot, ct', ex, hbt, hct⟩ := row_elem (f := TieM.cells) (fun _ => rfl) HTI.out k hlt (by decide)
      cases ex
      obtain ⟨t, ht⟩ : ∃ t, t = N.ties[k] := ⟨_, rfl⟩
      rw [← ht] at hct
      have hp : linksT N.ties (k + 1) = if t.closed then linksT N.ties k ++ [⟨true, (k : Int), t.frm, t.to⟩] else linksT N.ties k := by
        rw [linksT, List.getElem?_eq_getElem hlt, ht]
      have up : ∀ (j : Nat) (u : Value), w.cell? ⟨bt, j, none⟩ = some u → wr.cell? ⟨bt, j, none⟩ = some u := fun j u h => (HBX.out.bel.cell (World.block_lt_of_cell? w _ h)).trans h
      have d0 := up _ _ (hct 0 _ rfl)
      have d1 := up _ _ (hct 1 _ rfl)
      have d2 := up _ _ (hct 2 _ rfl)
      have d3 := up _ _ (hct 3 _ rfl)
      obtain ⟨x0, hx0⟩ : ∃ x, x = t.name := ⟨_, rfl⟩
      obtain ⟨x1, hx1⟩ : ∃ x, x = t.frm := ⟨_, rfl⟩
      obtain ⟨x2, hx2⟩ : ∃ x, x = t.to := ⟨_, rfl⟩
      obtain ⟨x3, hx3⟩ : ∃ x, x = t.closed := ⟨_, rfl⟩
      rw [← hx0] at d0
      rw [← hx1] at d1 hp
      rw [← hx2] at d2 hp
      rw [← hx3] at d3 hp
      have HP := hide' hp
      have hkl := linksT_len N.ties k
      have HSZ := hide' HBX.out.bel.size
      clear hct ht hp up hx0 hx1 hx2 hx3 hbt
      rw [Nat.add_zero] at d0
      cases x3 with
      | true =>
        have hOW := HOW.out
        have HB0 := hide' (Array.getElem?_eq_some_iff.1 HBX.out.box).1
        have HCN : Hid (∀ j u, [Value.bool true, .int .i64 (k : Int), .int .i64 x1, .int .i64 x2][j]? = some u → ((wr.alloc (.cells #[.string x0, .int .i64 x1, .int .i64 x2, .bool true] 47)).alloc (.cells #[.bool true, .int .i64 (k : Int), .int .i64 x1, .int .i64 x2] 68)).cell? ((⟨wr.heap.size + 1, 0, none⟩ : Addr).add j) = some u) := by
          have := cell_news (wr.alloc (.cells #[.string x0, .int .i64 x1, .int .i64 x2, .bool true] 47)) [Value.bool true, .int .i64 (k : Int), .int .i64 x1, .int .i64 x2] 68
          rwa [World.size_alloc] at this
        go_wp2_with (at_builtin; (refine wpList_append_own _ rfl _ _ 56 rfl (w.heap.size + 1) 68 i0 _ 4 32 Tryz.underlying56 hi0 hzz0 hzz1 hzz2 rfl (by decide) _ _ _ rfl ((hOW.alloc _).alloc _) ⟨wr.heap.size + 1, 0, none⟩ 1 1 [.bool true, .int .i64 (k : Int), .int .i64 x1, .int .i64 x2] rfl rfl HCN.out link_one (by unfold maxLen; omega) (by omega) (by simp; have := HSZ.out; omega) ?_; intro v' w3 hown' hgrow _; refine Still.go ?_))
        unfold Still
        have hg3 : ((wr.alloc (.cells #[.string x0, .int .i64 x1, .int .i64 x2, .bool true] 47)).alloc (.cells #[.bool true, .int .i64 (k : Int), .int .i64 x1, .int .i64 x2] 68)).grownBy w3 l.ownBlock := hgrow
        have HS2 : Hid (w3.ownsRow (w.heap.size + 1) 68 4 v' (linksT N.ties (k + 1)).length ((linksT N.ties (k + 1)).flatMap LinkM.cells) ∧ NBx w w3 #[.string N.name, .slice ab N.buses.length cb, .slice al N.lines.length cl, .slice ag N.gens.length cg, .slice ad N.loads.length cd, .slice (some ⟨bt, ot, none⟩) N.ties.length ct]) := by
          refine ⟨?_, ((HBX.out.alloc _).alloc _).grown hg3 (fun j hj => by have := own_at HOW.out j hj; omega)⟩
          rw [HP.out, if_pos (by trivial), flat_snoc, List.length_append]
          exact hown'
        clear hgrow hg3 hown' hOW d0 d1 d2 d3
        go_wp2
        go_roundw
        case rel => exact ⟨k + 1, v', by go_num, rfl, by omega, HS2.out.1, HS2.out.2⟩
        case measure => simp [intOf]; omega
      | false =>
        have HOW2 : Hid (∀ o, (wr.alloc o).ownsRow (w.heap.size + 1) 68 4 l (linksT N.ties (k + 1)).length ((linksT N.ties (k + 1)).flatMap LinkM.cells)) := fun o => by
          rw [HP.out]
          exact HOW.out.alloc _
        go_wp2
        go_roundw
        case rel => exact ⟨k + 1, l, by go_num, rfl, by omega, HOW2.out _, HBX.out.alloc _⟩
        case measure => simp [intOf]; omega
    · have hkn : k = N.ties.length := by omega
      subst hkn
      go_wp2
      go_ret
      exact ⟨l, rfl, HOW.out, HBX.out.bel⟩
end Go.Proofs.YtjcpcjickdcpmacGreatDoor.Bar

namespace Go.Proofs.YtjcpcjickdcpmacGreatDoor.Bar
open Go.RowKit Go.Shelf Doc

theorem Tryz.info4 : (Tryz.prog.info? 4).map (fun i => (i.zero, i.size, i.bytes)) = some (some (.bool false), 1, 1) := by kernel_rfl
theorem Tryz.underlying26' : Tryz.prog.underlying 26 = some (.slice 4) := by kernel_rfl
theorem ints_cell {w : World} {v : Value} {l : List Int} (h : RowAt w v l.length 1 (ints l)) (k : Nat) (hk : k < l.length) : ∃ b off c, v = .slice (some ⟨b, off, none⟩) l.length c ∧ w.cell? ⟨b, off + k, none⟩ = some (.int .i64 (l.getD k 0)) := by
  obtain ⟨-, a, c, rfl, hc⟩ := h
  obtain ⟨b, off, rfl, hcell⟩ := hc k (.int .i64 (l.getD k 0)) (by rw [ints, List.getElem?_map, (getD_in hk).1]; rfl)
  exact ⟨b, off, c, rfl, hcell⟩
/-- What the answer on nodes or islands is: a list, or a fault. -/
def Answers (l : List Int) (code : Int) (w : World) (e : Ending) (w' : World) : Prop := ∃ v, e = .returned (.tuple #[v, .int .i64 code]) ∧ RowAt w' v l.length 1 (ints l) ∧ Below w.heap.size w w'
theorem answers_nil {code : Int} {w w' : World} (hb : Below w.heap.size w w') : Answers [] code w (.returned (.tuple #[.slice none 0 0, .int .i64 code])) w' := ⟨_, rfl, ⟨rfl, none, 0, rfl, fun j u h => by simp [ints] at h⟩, hb⟩
theorem rowAt_ints {w : World} {F n : Nat} {l : List Int} (h : w.heap[F]? = some (.cells (ints l).toArray 3 (0, 0))) (hl : l.length = n) : RowAt w (.slice (some ⟨F, 0, none⟩) n n) l.length 1 (ints l) := by
  subst hl
  refine ⟨by simp [ints], _, _, rfl, fun j u hj => ⟨F, 0, rfl, ?_⟩⟩
  simp only [World.cell?, h]
  show (ints l).toArray[0 + j]? = _
  rw [Nat.zero_add, List.getElem?_toArray, hj]
theorem MayM.ends {N : NetM} (h : MayM N) : EndsM N := ⟨fun l hl => by have := h.lines l hl; omega, fun l hl => by have := h.ties l hl; omega⟩

end Go.Proofs.YtjcpcjickdcpmacGreatDoor.Bar
