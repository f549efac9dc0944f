/- The ties that are closed, as links: the program's list. -/
import Derived.Test.YtkcldnnopmagjabGreatDoorKBr8
import Derived.Test.YtkcldnnopmagjabGreatDoorKBra
import Derived.Test.YtkcldnnopmagjabGreatDoorKDc5
namespace Go.Proofs.YtkcldnnopmagjabGreatDoor.Bar
open Go.RowKit Go.Shelf Doc

def linksT (ts : List TieM) : Nat → List LinkM
  | 0 => []
  | k + 1 => match ts[k]? with
    | some t => if t.closed then linksT ts k ++ [⟨true, (k : Int), t.frm, t.to⟩] else linksT ts k
    | none => linksT ts k
theorem linksT_len (ts : List TieM) : ∀ k, (linksT ts k).length ≤ k
  | 0 => Nat.le_refl _
  | k + 1 => by
    have := linksT_len ts k
    rw [linksT]
    split
    · split
      · rw [List.length_append]; simp; omega
      · omega
    · omega
theorem Tryz.info117 : (Tryz.prog.info? 117).map (fun i => (i.zero, i.size, i.bytes)) = some (some (.agg #[.bool false, .int .i64 0, .int .i64 0, .int .i64 0]), 4, 32) := by kernel_rfl
theorem Tryz.underlying77 : Tryz.prog.underlying 77 = some (.slice 117) := by kernel_rfl
theorem link_one {c : Bool} {x a b : Int} : ∀ u ∈ [Value.bool c, .int .i64 x, .int .i64 a, .int .i64 b], u.oneCell' = true := by
  intro u hu; simp at hu; rcases hu with rfl | rfl | rfl | rfl <;> rfl
/-- The network's box. -/
structure NBx (w W : World) (g : Array Value) : Prop where
  bel : Below w.heap.size w W
  box : W.heap[w.heap.size]? = some (.cells g 28 (0, 0))
theorem NBx.later {w W W' : World} {g : Array Value} (h : NBx w W g) (hb : Below W.heap.size W W') : NBx w W' g :=
  ⟨h.bel.trans (hb.mono h.bel.size), (hb.block _ (Array.getElem?_eq_some_iff.1 h.box).1).trans h.box⟩
theorem NBx.alloc {w W : World} {g : Array Value} (h : NBx w W g) (o : Obj) : NBx w (W.alloc o) g := h.later ((Below.refl _ W).alloc (Nat.le_refl _) o)
theorem NBx.grown {w W W' : World} {g : Array Value} (h : NBx w W g) {row : Option Nat} (hg : W.grownBy W' row) (hr : ∀ k, row = some k → w.heap.size < k) : NBx w W' g :=
  ⟨h.bel.grown hg h.bel.size (fun k e => Nat.le_of_lt (hr k e)), (hg.block _ (Array.getElem?_eq_some_iff.1 h.box).1 (fun e => absurd (hr _ e.symm) (Nat.lt_irrefl _))).trans h.box⟩
theorem flat_snoc (l : List LinkM) (x : LinkM) : (l ++ [x]).flatMap LinkM.cells = l.flatMap LinkM.cells ++ [.bool x.tie, .int .i64 x.no, .int .i64 x.p, .int .i64 x.q] := by
  simp [List.flatMap_append, LinkM.cells]
theorem own_at {w : World} {B e sz m : Nat} {v : Value} {xs : List Value} (h : w.ownsRow B e sz v m xs) : ∀ k, v.ownBlock = some k → B ≤ k := fun k hk => by
  rcases h.2 with ⟨rfl, _⟩ | ⟨g, cp, cur, rfl, h4, _⟩
  · cases hk
  · cases hk; exact h4

set_option maxRecDepth 100000 in
set_option maxHeartbeats 4000000 in
theorem closedTies_any (N : NetM) (v : Value) (w : World) (hx : NetAt w v N) (hfit : Fits N) :
    Calls Tryz.prog 37 #[v] w fun e w' => ∃ l, e = .returned l ∧ w'.ownsRow (w.heap.size + 1) 117 4 l (linksT N.ties N.ties.length).length ((linksT N.ties N.ties.length).flatMap LinkM.cells) ∧ Below w.heap.size w w' := by
  obtain ⟨vb, vl, vg, vd, vt, rfl, ⟨xb, ab, cb, rfl, rb⟩, ⟨xl, al, cl, rfl, rl⟩, ⟨xg, ag, cg, rfl, rg⟩, ⟨xd, ad, cd, rfl, rd⟩, ⟨xt, at', ct, rfl, rt⟩⟩ := hx
  have HTI : Hid (RowAt w (.slice at' N.ties.length ct) N.ties.length 4 (N.ties.flatMap TieM.cells)) := ⟨xt, at', ct, rfl, rt⟩
  have hlt16 : N.ties.length ≤ 24 := hfit.2.2.2.2
  obtain ⟨i0, hi0, hzz0, hzz1, hzz2⟩ := info_parts Tryz.info117
  have HBX : Hid (NBx w (w.alloc (.cells #[.string N.name, .slice ab N.buses.length cb, .slice al N.lines.length cl, .slice ag N.gens.length cg, .slice ad N.loads.length cd, .slice at' N.ties.length ct] 28)) #[.string N.name, .slice ab N.buses.length cb, .slice al N.lines.length cl, .slice ag N.gens.length cg, .slice ad N.loads.length cd, .slice at' N.ties.length ct]) := ⟨(Below.refl _ w).alloc (Nat.le_refl _) _, World.alloc_heap_new w _⟩
  clear xb rb xl rl xg rg xd rd xt rt hfit
  go_enter Tryz.func37, Tryz.ntmps37
  go_wp2_with fail
  go_loopw [3, 9] (fun l i wr => ∃ (k : Nat) (lv : Value), i = .int .i64 k ∧ l = lv ∧ k ≤ N.ties.length ∧ Hid (wr.ownsRow (w.heap.size + 1) 117 4 lv (linksT N.ties k).length ((linksT N.ties k).flatMap LinkM.cells)) ∧ Hid (NBx w wr #[.string N.name, .slice ab N.buses.length cb, .slice al N.lines.length cl, .slice ag N.gens.length cg, .slice ad N.loads.length cd, .slice at' N.ties.length ct])) (fun _ i _ => N.ties.length - (intOf i).toNat)
  case atStart => exact ⟨0, _, rfl, rfl, Nat.zero_le _, ⟨rfl, .inl ⟨rfl, rfl⟩⟩, HBX⟩
  case round =>
    clear HBX
    obtain ⟨k, l, rfl, hl, hk, HOW, HBX⟩ := hrel
    have hl' := hl.symm
    clear hl
    subst hl'
    by_cases hlt : k < N.ties.length
    · obtain ⟨bt, ot, ct', ex, hbt, hct⟩ := row_elem (f := TieM.cells) (fun _ => rfl) HTI.out k hlt (by decide)
      cases ex
      obtain ⟨t, ht⟩ : ∃ t, t = N.ties[k] := ⟨_, rfl⟩
      rw [← ht] at hct
      have hp : linksT N.ties (k + 1) = if t.closed then linksT N.ties k ++ [⟨true, (k : Int), t.frm, t.to⟩] else linksT N.ties k := by
        rw [linksT, List.getElem?_eq_getElem hlt, ht]
      have up : ∀ (j : Nat) (u : Value), w.cell? ⟨bt, j, none⟩ = some u → wr.cell? ⟨bt, j, none⟩ = some u := fun j u h => (HBX.out.bel.cell (World.block_lt_of_cell? w _ h)).trans h
      have d0 := up _ _ (hct 0 _ rfl)
      have d1 := up _ _ (hct 1 _ rfl)
      have d2 := up _ _ (hct 2 _ rfl)
      have d3 := up _ _ (hct 3 _ rfl)
      obtain ⟨x0, hx0⟩ : ∃ x, x = t.name := ⟨_, rfl⟩
      obtain ⟨x1, hx1⟩ : ∃ x, x = t.frm := ⟨_, rfl⟩
      obtain ⟨x2, hx2⟩ : ∃ x, x = t.to := ⟨_, rfl⟩
      obtain ⟨x3, hx3⟩ : ∃ x, x = t.closed := ⟨_, rfl⟩
      rw [← hx0] at d0
      rw [← hx1] at d1 hp
      rw [← hx2] at d2 hp
      rw [← hx3] at d3 hp
      have HP := hide' hp
      have hkl := linksT_len N.ties k
      have HSZ := hide' HBX.out.bel.size
      clear hct ht hp up hx0 hx1 hx2 hx3 hbt
      rw [Nat.add_zero] at d0
      cases x3 with
      | true =>
        have hOW := HOW.out
        have HB0 := hide' (Array.getElem?_eq_some_iff.1 HBX.out.box).1
        have HCN : Hid (∀ j u, [Value.bool true, .int .i64 (k : Int), .int .i64 x1, .int .i64 x2][j]? = some u → ((wr.alloc (.cells #[.string x0, .int .i64 x1, .int .i64 x2, .bool true] 58)).alloc (.cells #[.bool true, .int .i64 (k : Int), .int .i64 x1, .int .i64 x2] 117)).cell? ((⟨wr.heap.size + 1, 0, none⟩ : Addr).add j) = some u) := by
          have := cell_news (wr.alloc (.cells #[.string x0, .int .i64 x1, .int .i64 x2, .bool true] 58)) [Value.bool true, .int .i64 (k : Int), .int .i64 x1, .int .i64 x2] 117
          rwa [World.size_alloc] at this
        go_wp2_with (at_builtin; (refine wpList_append_own _ rfl _ _ 77 rfl (w.heap.size + 1) 117 i0 _ 4 32 Tryz.underlying77 hi0 hzz0 hzz1 hzz2 rfl (by decide) _ _ _ rfl ((hOW.alloc _).alloc _) ⟨wr.heap.size + 1, 0, none⟩ 1 1 [.bool true, .int .i64 (k : Int), .int .i64 x1, .int .i64 x2] rfl rfl HCN.out link_one (by unfold maxLen; omega) (by omega) (by simp; have := HSZ.out; omega) ?_; intro v' w3 hown' hgrow _; refine Still.go ?_))
        unfold Still
        have hg3 : ((wr.alloc (.cells #[.string x0, .int .i64 x1, .int .i64 x2, .bool true] 58)).alloc (.cells #[.bool true, .int .i64 (k : Int), .int .i64 x1, .int .i64 x2] 117)).grownBy w3 l.ownBlock := hgrow
        have HS2 : Hid (w3.ownsRow (w.heap.size + 1) 117 4 v' (linksT N.ties (k + 1)).length ((linksT N.ties (k + 1)).flatMap LinkM.cells) ∧ NBx w w3 #[.string N.name, .slice ab N.buses.length cb, .slice al N.lines.length cl, .slice ag N.gens.length cg, .slice ad N.loads.length cd, .slice (some ⟨bt, ot, none⟩) N.ties.length ct]) := by
          refine ⟨?_, ((HBX.out.alloc _).alloc _).grown hg3 (fun j hj => by have := own_at HOW.out j hj; omega)⟩
          rw [HP.out, if_pos (by trivial), flat_snoc, List.length_append]
          exact hown'
        clear hgrow hg3 hown' hOW d0 d1 d2 d3
        go_wp2
        go_roundw
        case rel => exact ⟨k + 1, v', by go_num, rfl, by omega, HS2.out.1, HS2.out.2⟩
        case measure => simp [intOf]; omega
      | false =>
        have HOW2 : Hid (∀ o, (wr.alloc o).ownsRow (w.heap.size + 1) 117 4 l (linksT N.ties (k + 1)).length ((linksT N.ties (k + 1)).flatMap LinkM.cells)) := fun o => by
          rw [HP.out]
          exact HOW.out.alloc _
        go_wp2
        go_roundw
        case rel => exact ⟨k + 1, l, by go_num, rfl, by omega, HOW2.out _, HBX.out.alloc _⟩
        case measure => simp [intOf]; omega
    · have hkn : k = N.ties.length := by omega
      subst hkn
      go_wp2
      go_ret
      exact ⟨l, rfl, HOW.out, HBX.out.bel⟩
end Go.Proofs.YtkcldnnopmagjabGreatDoor.Bar

/- The law's helpers and the document's own answers on nodes and islands. -/
namespace Go.Proofs.YtkcldnnopmagjabGreatDoor.Bar
open Go.RowKit Go.Shelf Doc

theorem Tryz.info4 : (Tryz.prog.info? 4).map (fun i => (i.zero, i.size, i.bytes)) = some (some (.bool false), 1, 1) := by kernel_rfl
theorem Tryz.underlying35' : Tryz.prog.underlying 35 = some (.slice 4) := by kernel_rfl
theorem bools_one (out : List Bool) : ∀ u ∈ out.map Value.bool, u.oneCell' = true := by
  intro u hu
  obtain ⟨x, _, rfl⟩ := List.mem_map.1 hu
  rfl
theorem sides_any (out : List Bool) (v : Value) (w : World) (hx : RowAt w v out.length 1 (out.map Value.bool)) (hl : out.length ≤ 2000000) :
    Calls Tryz.prog 16 #[v] w fun e w' => ∃ v', e = .returned v' ∧ w'.ownsRow w.heap.size 4 1 v' out.length (out.map Value.bool) ∧ Below w.heap.size w w' := by
  obtain ⟨i0, hi0, hzz0, hzz1, hzz2⟩ := info_parts Tryz.info4
  obtain ⟨hn, ao, c, rfl, hc⟩ := hx
  have HC := hide' hc
  have HN := hide' hn
  clear hc hn
  go_enter Tryz.func16, Tryz.ntmps16
  go_wp2_with (at_builtin; refine wpList_append_all _ rfl _ _ 35 rfl w.heap.size 4 i0 _ 1 Tryz.underlying35' hi0 hzz0 hzz1 hzz2 rfl rfl ao out.length c (out.map Value.bool) rfl HN.out HC.out (bools_one out) (by unfold maxLen; omega) (by omega) (Nat.le_refl _) ?_; intro v' w3 hown' hgrow; refine Still.go ?_)
  unfold Still
  have HB : Hid (Below w.heap.size w w3) := (Below.refl _ w).grown hgrow (Nat.le_refl _) (fun k e => by cases e)
  have HO := hide' hown'
  clear hgrow hown'
  go_wp2
  go_ret
  exact ⟨v', rfl, HO.out, HB.out⟩
theorem ints_cell {w : World} {v : Value} {l : List Int} (h : RowAt w v l.length 1 (ints l)) (k : Nat) (hk : k < l.length) : ∃ b off c, v = .slice (some ⟨b, off, none⟩) l.length c ∧ w.cell? ⟨b, off + k, none⟩ = some (.int .i64 (l.getD k 0)) := by
  obtain ⟨-, a, c, rfl, hc⟩ := h
  obtain ⟨b, off, rfl, hcell⟩ := hc k (.int .i64 (l.getD k 0)) (by rw [ints, List.getElem?_map, (getD_in hk).1]; rfl)
  exact ⟨b, off, c, rfl, hcell⟩
set_option maxRecDepth 100000 in
set_option maxHeartbeats 2000000 in
theorem sameInts_any (l : List Int) (va vb : Value) (w : World) (ha : RowAt w va l.length 1 (ints l)) (hb : RowAt w vb l.length 1 (ints l)) (hl : l.length ≤ 1000) :
    Calls Tryz.prog 18 #[va, vb] w fun e w' => e = .returned (.bool true) ∧ ∃ q, w' = w.drewN q := by
  have HA := hide' ha
  have HB := hide' hb
  obtain ⟨aa, ca, rfl⟩ := rowAt_slice ha
  obtain ⟨ab, cb, rfl⟩ := rowAt_slice hb
  clear ha hb
  go_enter Tryz.func18, Tryz.ntmps18
  go_wp2_with fail
  go_loopw [5] (fun i wr => ∃ (k : Nat), i = .int .i64 k ∧ k ≤ l.length ∧ ∃ q, wr = w.drewN q) (fun i _ => l.length - (intOf i).toNat)
  case atStart => exact ⟨0, rfl, Nat.zero_le _, 0, rfl⟩
  case round =>
    obtain ⟨k, rfl, hk, q, rfl⟩ := hrel
    by_cases hlt : k < l.length
    · obtain ⟨b1, o1, c1, e1, h1⟩ := ints_cell HA.out k hlt
      cases e1
      obtain ⟨b2, o2, c2, e2, h2⟩ := ints_cell HB.out k hlt
      cases e2
      obtain ⟨x, hx⟩ : ∃ x, x = l.getD k 0 := ⟨_, rfl⟩
      rw [← hx] at h1 h2
      clear hx
      go_wp2_with fail
      go_region
      go_wp2
      go_roundw
      case rel => exact ⟨k + 1, by go_num, by omega, q + 1, rfl⟩
      case measure => simp [intOf]; omega
    · go_wp2
      go_ret
      exact ⟨rfl, q, rfl⟩
/-- What the answer on nodes or islands is: a list, or a fault. -/
def Answers (l : List Int) (code : Int) (w : World) (e : Ending) (w' : World) : Prop := ∃ v, e = .returned (.tuple #[v, .int .i64 code]) ∧ RowAt w' v l.length 1 (ints l) ∧ Below w.heap.size w w'
theorem answers_nil {code : Int} {w w' : World} (hb : Below w.heap.size w w') : Answers [] code w (.returned (.tuple #[.slice none 0 0, .int .i64 code])) w' := ⟨_, rfl, ⟨rfl, none, 0, rfl, fun j u h => by simp [ints] at h⟩, hb⟩
theorem rowAt_ints {w : World} {F n : Nat} {l : List Int} (h : w.heap[F]? = some (.cells (ints l).toArray 3 (0, 0))) (hl : l.length = n) : RowAt w (.slice (some ⟨F, 0, none⟩) n n) l.length 1 (ints l) := by
  subst hl
  refine ⟨by simp [ints], _, _, rfl, fun j u hj => ⟨F, 0, rfl, ?_⟩⟩
  simp only [World.cell?, h]
  show (ints l).toArray[0 + j]? = _
  rw [Nat.zero_add, List.getElem?_toArray, hj]
theorem joinedL_len (N : NetM) (out : List Bool) (lines : Bool) : (joinedL N out lines).length = N.buses.length := numS_len _ _ _
theorem MayM.ends {N : NetM} (h : MayM N) : EndsM N := ⟨fun l hl => by have := h.lines l hl; omega, fun l hl => by have := h.ties l hl; omega⟩

set_option maxRecDepth 100000 in
set_option maxHeartbeats 2000000 in
theorem NodesOf_any (N : NetM) (v : Value) (w : World) (hx : NetAt w v N) (hsm : SmallM N) :
    Calls Tryz.prog 14 #[v] w fun e w' => (MayM N → Answers (joinedL N [] false) 0 w e w') ∧ (¬ MayM N → Answers [] 14 w e w') := by
  obtain ⟨b, l, g, d, t, rfl, hb, hl, hg, hd, ht⟩ := hx
  obtain ⟨ab, cb, rfl⟩ := rowAt_slice hb
  obtain ⟨al, cl, rfl⟩ := rowAt_slice hl
  obtain ⟨ag, cg, rfl⟩ := rowAt_slice hg
  obtain ⟨ad, cd, rfl⟩ := rowAt_slice hd
  obtain ⟨at', ct, rfl⟩ := rowAt_slice ht
  obtain ⟨W, hW⟩ : ∃ W, W = w.alloc (.cells #[.string N.name, .slice ab N.buses.length cb, .slice al N.lines.length cl, .slice ag N.gens.length cg, .slice ad N.loads.length cd, .slice at' N.ties.length ct] 28) := ⟨_, rfl⟩
  have HX := hide' (Bx1.make hb hl hg hd ht hW)
  have HM := hide' (NetMay_any N _ W ⟨_, _, _, _, _, rfl, HX.out.hb, HX.out.hl, HX.out.hg, HX.out.hd, HX.out.ht⟩ hsm)
  have HW := hide' hW
  clear hW hb hl hg hd ht hsm
  go_enter Tryz.func14, Tryz.ntmps14
  go_wp2_with fail
  rw [← HW.out]
  refine HM.out.mono ?_
  rintro e w1 ⟨⟨r, rfl, hr⟩, hb1⟩
  have HX1 := hide' (HX.out.later hb1)
  have HR := hide' hr
  obtain ⟨k0, k1, k2, k3, k4, k5, kf⟩ := cells28 HX1.out.box
  clear hb1 hr HX HM
  cases r with
  | false =>
    go_wp2
    refine bodyPost_ret (results_tmp2 rfl _ _ _) rfl ?_
    exact ⟨fun h => absurd (HR.out.2 h) (by decide), fun _ => answers_nil HX1.out.bel⟩
  | true =>
    have HMay := hide' (HR.out.1 rfl)
    have HJ := hide' (joined_any N _ (.slice none 0 0) [] false w1 ⟨_, _, _, _, _, rfl, HX1.out.hb, HX1.out.hl, HX1.out.hg, HX1.out.hd, HX1.out.ht⟩ HMay.out.fits (MayM.ends HMay.out) (fun h => by cases h))
    go_wp2_with fail
    refine HJ.out.mono ?_
    rintro e w2 ⟨F, rfl, hF0, hF, hb2⟩
    have HA : Hid (RowAt w2 (.slice (some ⟨F, 0, none⟩) N.buses.length N.buses.length) (joinedL N [] false).length 1 (ints (joinedL N [] false))) := rowAt_ints hF (joinedL_len _ _ _)
    have HB2 : Hid (Below w.heap.size w w2) := HX1.out.bel.trans (hb2.mono HX1.out.bel.size)
    clear hF0 hF hb2 HJ k0 k1 k2 k3 k4 k5 kf
    go_wp2
    refine bodyPost_ret (results_tmp2 rfl _ _ _) rfl ?_
    exact ⟨fun _ => ⟨_, rfl, HA.out, HB2.out⟩, fun h => absurd HMay.out h⟩

set_option maxRecDepth 100000 in
set_option maxHeartbeats 2000000 in
theorem IslandsOf_any (N : NetM) (v outv : Value) (out : List Bool) (w : World) (hx : NetAt w v N) (hsm : SmallM N) (ho : RowAt w outv out.length 1 (out.map Value.bool)) (_hol : out.length ≤ 2000000) :
    Calls Tryz.prog 17 #[v, outv] w fun e w' => (MayM N → out.length = N.lines.length → Answers (joinedL N out true) 0 w e w') ∧ (MayM N → out.length ≠ N.lines.length → Answers [] 2 w e w') ∧ (¬ MayM N → Answers [] 14 w e w') := by
  obtain ⟨b, l, g, d, t, rfl, hb, hl, hg, hd, ht⟩ := hx
  obtain ⟨ab, cb, rfl⟩ := rowAt_slice hb
  obtain ⟨al, cl, rfl⟩ := rowAt_slice hl
  obtain ⟨ag, cg, rfl⟩ := rowAt_slice hg
  obtain ⟨ad, cd, rfl⟩ := rowAt_slice hd
  obtain ⟨at', ct, rfl⟩ := rowAt_slice ht
  have HO := hide' ho
  obtain ⟨ao, co, rfl⟩ := rowAt_slice ho
  obtain ⟨W, hW⟩ : ∃ W, W = w.alloc (.cells #[.string N.name, .slice ab N.buses.length cb, .slice al N.lines.length cl, .slice ag N.gens.length cg, .slice ad N.loads.length cd, .slice at' N.ties.length ct] 28) := ⟨_, rfl⟩
  have HX := hide' (Bx1.make hb hl hg hd ht hW)
  have HM := hide' (NetMay_any N _ W ⟨_, _, _, _, _, rfl, HX.out.hb, HX.out.hl, HX.out.hg, HX.out.hd, HX.out.ht⟩ hsm)
  have HW := hide' hW
  have hll := hsm.lens.2.1
  clear hW hb hl hg hd ht hsm ho
  go_enter Tryz.func17, Tryz.ntmps17
  go_wp2_with fail
  rw [← HW.out]
  refine HM.out.mono ?_
  rintro e w1 ⟨⟨r, rfl, hr⟩, hb1⟩
  have HX1 := hide' (HX.out.later hb1)
  have HR := hide' hr
  obtain ⟨k0, k1, k2, k3, k4, k5, kf⟩ := cells28 HX1.out.box
  clear hb1 hr HX HM
  cases r with
  | false =>
    have hno : ¬ MayM N := fun h => by have := HR.out.2 h; cases this
    have HNO := hide' hno
    clear hno
    go_wp2
    refine bodyPost_ret (results_tmp2 rfl _ _ _) rfl ?_
    exact ⟨fun h => absurd h HNO.out, fun h => absurd h HNO.out, fun _ => answers_nil HX1.out.bel⟩
  | true =>
    have HMay := hide' (HR.out.1 rfl)
    by_cases he : out.length = N.lines.length
    · have HE := hide' he
      have HJ := hide' (joined_any N _ (.slice ao out.length co) out true w1 ⟨_, _, _, _, _, rfl, HX1.out.hb, HX1.out.hl, HX1.out.hg, HX1.out.hd, HX1.out.ht⟩ HMay.out.fits (MayM.ends HMay.out) (fun _ => ⟨he, by rw [← he]; exact RowAt.below HO.out HX1.out.bel (Nat.le_refl _)⟩))
      clear he
      rw [HE.out] at HJ ⊢
      go_wp2_with fail
      refine HJ.out.mono ?_
      rintro e w2 ⟨F, rfl, hF0, hF, hb2⟩
      have HA : Hid (RowAt w2 (.slice (some ⟨F, 0, none⟩) N.buses.length N.buses.length) (joinedL N out true).length 1 (ints (joinedL N out true))) := rowAt_ints hF (joinedL_len _ _ _)
      have HB2 : Hid (Below w.heap.size w w2) := HX1.out.bel.trans (hb2.mono HX1.out.bel.size)
      clear hF0 hF hb2 HJ k0 k1 k2 k3 k4 k5 kf
      go_wp2
      refine bodyPost_ret (results_tmp2 rfl _ _ _) rfl ?_
      exact ⟨fun _ _ => ⟨_, rfl, HA.out, HB2.out⟩, fun _ h => absurd HE.out h, fun h => absurd HMay.out h⟩
    · have HE := hide' he
      have hne : ((out.length : Int) == (N.lines.length : Int)) = false := beq_eq_false_iff_ne.2 (by omega)
      clear he
      go_wp2
      refine bodyPost_ret (results_tmp2 rfl _ _ _) rfl ?_
      exact ⟨fun _ h => absurd h HE.out, fun _ _ => answers_nil HX1.out.bel, fun h => absurd HMay.out h⟩
end Go.Proofs.YtkcldnnopmagjabGreatDoor.Bar
