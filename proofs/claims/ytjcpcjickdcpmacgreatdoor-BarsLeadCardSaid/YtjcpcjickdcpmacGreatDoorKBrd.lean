/- The program's nodes. -/
import Derived.Test.YtjcpcjickdcpmacGreatDoorKBrb
import Derived.Test.YtjcpcjickdcpmacGreatDoorKGw3
namespace Go.Proofs.YtjcpcjickdcpmacGreatDoor.Bar
open Go.RowKit Go.Shelf Doc

theorem linksT_ends {N : NetM} (he : EndsM N) : ∀ k, Ends N.buses.length (linksT N.ties k)
  | 0 => fun l hl => by cases hl
  | k + 1 => fun l hl => by
    have ih := linksT_ends he k
    rw [linksT] at hl
    split at hl
    · next t ht =>
      have := he.ties t (List.mem_of_getElem? ht)
      split at hl
      · rcases List.mem_append.1 hl with hl | hl
        · exact ih l hl
        · rw [List.mem_singleton.1 hl]
          exact this
      · exact ih l hl
    · exact ih l hl
theorem groupsL_len (n : Nat) (links : List LinkM) : (groupsL n links).length = n := groupsS_len _ _ _
theorem NBx.cells {w W : World} {c0 c1 c2 c3 c4 c5 : Value} (h : NBx w W #[c0, c1, c2, c3, c4, c5]) : W.cell? ⟨w.heap.size, 0, none⟩ = some c0 ∧ W.cell? ⟨w.heap.size, 1, none⟩ = some c1 ∧ W.cell? ⟨w.heap.size, 2, none⟩ = some c2 ∧ W.cell? ⟨w.heap.size, 3, none⟩ = some c3 ∧ W.cell? ⟨w.heap.size, 4, none⟩ = some c4 ∧ W.cell? ⟨w.heap.size, 5, none⟩ = some c5 := by
  refine ⟨?_, ?_, ?_, ?_, ?_, ?_⟩ <;> (simp only [World.cell?, h.box]; rfl)
theorem owns_net {w : World} {B : Nat} {b l g d t : Value} {N : NetM} (h : Owns w B b l g d t N) : NetAt w (.agg #[.string N.name, b, l, g, d, t]) N := ⟨b, l, g, d, t, rfl, rowAt_of_own h.hb, rowAt_of_own h.hl, rowAt_of_own h.hg, rowAt_of_own h.hd, rowAt_of_own h.ht⟩

end Go.Proofs.YtjcpcjickdcpmacGreatDoor.Bar

namespace Go.Proofs.YtjcpcjickdcpmacGreatDoor.Bar
open Go.RowKit Go.Shelf Doc

def linksN (ls : List LineM) (out : List Bool) : Nat → List LinkM
  | 0 => []
  | k + 1 => match ls[k]? with
    | some t => if out.getD k false then linksN ls out k else linksN ls out k ++ [⟨false, (k : Int), t.frm, t.to⟩]
    | none => linksN ls out k
theorem linksN_len (ls : List LineM) (out : List Bool) : ∀ k, (linksN ls out k).length ≤ k
  | 0 => Nat.le_refl _
  | k + 1 => by
    have := linksN_len ls out k
    rw [linksN]
    split
    · split
      · omega
      · rw [List.length_append]; simp; omega
    · omega
theorem linksN_ends {N : NetM} (he : EndsM N) (out : List Bool) : ∀ k, Ends N.buses.length (linksN N.lines out k)
  | 0 => fun l hl => by cases hl
  | k + 1 => fun l hl => by
    have ih := linksN_ends he out k
    rw [linksN] at hl
    split at hl
    · next t ht =>
      have := he.lines t (List.mem_of_getElem? ht)
      split at hl
      · exact ih l hl
      · rcases List.mem_append.1 hl with hl | hl
        · exact ih l hl
        · rw [List.mem_singleton.1 hl]
          exact this
    · exact ih l hl
/-- What is in service. -/
def serviceL (N : NetM) (out : List Bool) : List LinkM := linksN N.lines out N.lines.length ++ linksT N.ties N.ties.length
theorem run_append_end {P : Program} (w : World) (t ty e : TypeId) (i : TypeInfo) (ht : P.underlying t = some (.slice e)) (hi : P.info? e = some i) (a : Addr) (n cap c : Nat) (hn : n ≤ cap) :
    (Builtin.append_ #[t, t] ty #[.slice (some a) n cap, .slice none 0 c]).run P w = .ok (.slice (some a) n cap) w := by
  have hl : (Builtin.lenOf (.slice none 0 c)).run P w = .ok 0 w := rfl
  simp [Builtin.append_, run_underlying ht, sizeOf, typeInfo, hi, hl, Builtin.firstCells]
  rw [if_pos hn]
  rfl
theorem step_append_any {P : Program} {ops : Array Oper} {o : Oper} {a : Act} {w : World} {K : Act → World → Prop} {Q : Exit → Act → World → Prop} {E : Prop}
    (hg : o.guard = none) (s x : Operand) (t : TypeId) (hop : o.op = Op.call { callee := Callee.builtin Builtin.append, args := #[s, x], argTypes := #[t, t] })
    (base : Nat) (e : TypeId) (i : TypeInfo) (z : Value) (size bytes : Nat) (h1 : P.underlying t = some (.slice e)) (h2 : P.info? e = some i) (h3 : i.zero = some z) (h4 : i.size = size) (h5 : i.bytes = bytes) (h6 : z.cells.size = size) (h7 : 0 < size)
    (v : Value) (n : Nat) (xs : List Value) (hs : a.eval s = v) (hown : w.ownsRow base e size v n xs)
    (xv : Value) (m : Nat) (news : List Value) (hx : a.eval x = xv) (hxr : RowAt w xv m size news) (h1c : ∀ u ∈ news, u.oneCell' = true)
    (b1 : n + m ≤ maxLen) (b2 : (n + m) * bytes ≤ 140737488355328) (b3 : base ≤ w.heap.size)
    (hK : ∀ v' w', w'.ownsRow base e size v' (n + m) (xs ++ news) → w.grownBy w' v.ownBlock → K (a.put o.dst v') w') :
    if Region.wanted o (yielded ops a.tmps) = true then Oper.wp P o a w K Q else E := by
  obtain ⟨hn, ao, c, rfl, hc⟩ := hxr
  cases ao with
  | some ad =>
    exact step_append_own hg s x t hop base e i z size bytes h1 h2 h3 h4 h5 h6 h7 v n xs hs hown ad m c news hx hn (fun j u hj => by
      obtain ⟨b, off, e1, h⟩ := hc j u hj
      cases e1
      rw [add_off]; exact h) h1c b1 b2 b3 hK
  | none =>
    have hm : news = [] := by
      cases news with
      | nil => rfl
      | cons u r => obtain ⟨b, off, e1, _⟩ := hc 0 u rfl; cases e1
    subst hm
    have hm0 : m = 0 := by
      rcases Nat.mul_eq_zero.1 hn.symm with h | h
      · exact h
      · omega
    subst hm0
    have hw : Region.wanted o (yielded ops a.tmps) = true := by simp [Region.wanted, hg]
    rw [if_pos hw]
    have hrun : (Builtin.append_ #[t, t] o.type #[v, .slice none 0 c]).run P w = .ok v w := by
      rcases hown.2 with ⟨rfl, _⟩ | ⟨g, cp, cur, rfl, _, _, hle, _⟩
      · exact run_append_nils w t o.type e i h1 h2 c
      · exact run_append_end w t o.type e i h1 h2 _ n cp c hle
    unfold Oper.wp
    simp [execOp, hop, resolve, invoke, builtin, hs, hx, hrun, Result.andThen]
    exact hK v w (by rw [List.append_nil]; exact hown) ⟨rfl, rfl, rfl, Nat.le_refl _, fun _ _ _ => rfl⟩
theorem links_one (ls : List LinkM) : ∀ u ∈ ls.flatMap LinkM.cells, u.oneCell' = true := by
  intro u hu
  obtain ⟨x, _, hx⟩ := List.mem_flatMap.1 hu
  simp only [LinkM.cells, List.mem_cons, List.not_mem_nil, or_false] at hx
  rcases hx with rfl | rfl | rfl | rfl <;> rfl
/-- The box of the answer, nothing in it yet. -/
structure RBx (w W : World) : Prop where
  box : W.heap[w.heap.size + 1]? = some (.cells #[.int .i64 0, .slice none 0 0] 58 (0, 0))
theorem RBx.later {w W W' : World} (h : RBx w W) (hb : Below W.heap.size W W') : RBx w W' := ⟨(hb.block _ (Array.getElem?_eq_some_iff.1 h.box).1).trans h.box⟩
theorem RBx.grown {w W W' : World} (h : RBx w W) {row : Option Nat} (hg : W.grownBy W' row) (hr : ∀ k, row = some k → w.heap.size + 1 < k) : RBx w W' := ⟨(hg.block _ (Array.getElem?_eq_some_iff.1 h.box).1 (fun e => absurd (hr _ e.symm) (Nat.lt_irrefl _))).trans h.box⟩
theorem RBx.cells {w W : World} (h : RBx w W) : W.cell? ⟨w.heap.size + 1, 0, none⟩ = some (.int .i64 0) ∧ W.cell? ⟨w.heap.size + 1, 1, none⟩ = some (.slice none 0 0) ∧ (∀ j, W.frozen? ⟨w.heap.size + 1, j, none⟩ = false) := by
  refine ⟨?_, ?_, fun j => by simp [World.frozen?, h.box]⟩ <;> (simp only [World.cell?, h.box]; rfl)
/-- What inService answers. -/
def ServesAs (N : NetM) (out : List Bool) (w : World) (e : Ending) (w' : World) : Prop :=
  Below w.heap.size w w' ∧ (MayM N → out.length = N.lines.length → ∃ a c, e = .returned (.tuple #[.agg #[.int .i64 N.buses.length, .slice a (serviceL N out).length c], .int .i64 0]) ∧ RowAt w' (.slice a (serviceL N out).length c) (serviceL N out).length 4 ((serviceL N out).flatMap LinkM.cells)) ∧
    (MayM N → out.length ≠ N.lines.length → e = .returned (.tuple #[.agg #[.int .i64 0, .slice none 0 0], .int .i64 2])) ∧ (¬ MayM N → e = .returned (.tuple #[.agg #[.int .i64 0, .slice none 0 0], .int .i64 14]))
theorem Tryz.under58 : (Tryz.prog.underlying 58).map (fun d => match d with | .struct _ | .array _ _ => true | _ => false) = some true := by kernel_rfl
theorem Tryz.size58 : (Tryz.prog.info? 58).map (·.size) = some 2 := by kernel_rfl
theorem ret_grid {fn : Func} (h : fn.results = #[.cell 4 58, .tmp 5]) (tmps : Array Value) (w : World) (p : Nat) (x y : Value) (h4 : tmps.getD 4 undef = .pointer (some ⟨p, 0, none⟩)) (h0 : w.heap[p]? = some (.cells #[x, y] 58 (0, 0))) :
    (results fn tmps).run Tryz.prog w = .ok (.tuple #[.agg #[x, y], tmps.getD 5 undef]) w := by
  obtain ⟨d, hd, hd2⟩ := Option.map_eq_some_iff.1 Tryz.under58
  have h1 := run_loadVar_row (P := Tryz.prog) w p 58 58 #[x, y] (0, 0) d h0 hd (by cases d <;> first | rfl | exact absurd hd2 (by simp)) Tryz.size58
  have h4' : tmps[4]?.getD undef = .pointer (some ⟨p, 0, none⟩) := by simpa using h4
  simp [results, h, h4', asAddr, h1]
theorem RBx.stored {w W : World} (h : RBx w W) (x y : Value) : ((W.setCell ⟨w.heap.size + 1, 0, none⟩ x).setCell ⟨w.heap.size + 1, 1, none⟩ y).heap[w.heap.size + 1]? = some (.cells #[x, y] 58 (0, 0)) := by
  rw [set_any (set_any h.box 0 x) 1 y]
  rfl
theorem NBx.stored {w W : World} {g : Array Value} (h : NBx w W g) (x y : Value) : NBx w ((W.setCell ⟨w.heap.size + 1, 0, none⟩ x).setCell ⟨w.heap.size + 1, 1, none⟩ y) g :=
  ⟨(h.bel.setCell (p := ⟨w.heap.size + 1, 0, none⟩) (Nat.le_succ _) _).setCell (p := ⟨w.heap.size + 1, 1, none⟩) (Nat.le_succ _) _,
    (Below.heap_setCell _ _ _ _ (Nat.ne_of_lt (Nat.lt_succ_self _))).trans ((Below.heap_setCell _ _ _ _ (Nat.ne_of_lt (Nat.lt_succ_self _))).trans h.box)⟩

set_option maxRecDepth 100000 in
set_option maxHeartbeats 4000000 in
theorem inService_any (N : NetM) (B1 : Nat) (b l g d t outv : Value) (out : List Bool) (mx : Int) (w : World) (hsm : SmallM N) (htb : TabAll w) (ho : Owns w B1 b l g d t N) (hm : w.cell? ⟨1, 0, none⟩ = some (.int .i64 mx)) (hor : RowAt w outv out.length 1 (out.map Value.bool)) (_hol : out.length ≤ 2000000) :
    Calls Tryz.prog 10 #[.agg #[.string N.name, b, l, g, d, t], outv] w (ServesAs N out w) := by
  obtain ⟨ab, cb, rfl⟩ := own_slice ho.hb
  obtain ⟨al, cl, rfl⟩ := own_slice ho.hl
  obtain ⟨ag, cg, rfl⟩ := own_slice ho.hg
  obtain ⟨ad, cd, rfl⟩ := own_slice ho.hd
  obtain ⟨at', ct, rfl⟩ := own_slice ho.ht
  have HOR := hide' hor
  obtain ⟨ao, co, rfl⟩ := rowAt_slice hor
  obtain ⟨i0, hi0, hzz0, hzz1, hzz2⟩ := info_parts Tryz.info68
  obtain ⟨W, hW⟩ : ∃ W, W = (w.alloc (.cells #[.string N.name, .slice ab N.buses.length cb, .slice al N.lines.length cl, .slice ag N.gens.length cg, .slice ad N.loads.length cd, .slice at' N.ties.length ct] 33)).alloc (.cells #[.int .i64 0, .slice none 0 0] 58) := ⟨_, rfl⟩
  have HBX : Hid (NBx w W #[.string N.name, .slice ab N.buses.length cb, .slice al N.lines.length cl, .slice ag N.gens.length cg, .slice ad N.loads.length cd, .slice at' N.ties.length ct]) := by
    rw [hW]
    exact NBx.alloc ⟨(Below.refl _ w).alloc (Nat.le_refl _) _, World.alloc_heap_new w _⟩ _
  have HRX : Hid (RBx w W) := by
    rw [hW]
    refine ⟨?_⟩
    have := World.alloc_heap_new (w.alloc (.cells #[.string N.name, .slice ab N.buses.length cb, .slice al N.lines.length cl, .slice ag N.gens.length cg, .slice ad N.loads.length cd, .slice at' N.ties.length ct] 33)) (.cells #[.int .i64 0, .slice none 0 0] 58)
    rwa [World.size_alloc] at this
  have hoW : Owns W B1 (.slice ab N.buses.length cb) (.slice al N.lines.length cl) (.slice ag N.gens.length cg) (.slice ad N.loads.length cd) (.slice at' N.ties.length ct) N := by
    rw [hW]
    exact ⟨(ho.hb.alloc _).alloc _, (ho.hl.alloc _).alloc _, (ho.hg.alloc _).alloc _, (ho.hd.alloc _).alloc _, (ho.ht.alloc _).alloc _⟩
  have HM := hide' (May_any N B1 _ _ _ _ _ mx W hsm (htb.later HBX.out.bel) hoW ((HBX.out.bel.cell (p := ⟨1, 0, none⟩) (World.block_lt_of_cell? w _ hm)).trans hm))
  have HNT := hide' (owns_net ho)
  have HLI := hide' (rowAt_of_own ho.hl)
  have HW := hide' hW
  have hll := hsm.lens.2.1
  clear hW hoW ho hm htb hsm hor
  go_enter Tryz.func10, Tryz.ntmps10
  go_wp2_with fail
  rw [← HW.out]
  refine HM.out.mono ?_
  rintro e w1 ⟨⟨r, rfl, hr⟩, hb1⟩
  have HBX1 := hide' (HBX.out.later hb1)
  have HRX1 := hide' (HRX.out.later hb1)
  have HR := hide' hr
  clear hb1 hr HBX HM HRX
  obtain ⟨r0, r1, rf⟩ := HRX1.out.cells
  have rf0 := rf 0
  have rf1 := rf 1
  obtain ⟨k0, k1, k2, k3, k4, k5⟩ := HBX1.out.cells
  cases r with
  | false =>
    have HNO : Hid (¬ MayM N) := fun h => absurd (HR.out.2 h) (by decide)
    go_wp2
    refine bodyPost_ret (ret_grid rfl _ _ (w.heap.size + 1) _ _ rfl (HRX1.out.stored _ _)) rfl ?_
    exact ⟨(HBX1.out.stored _ _).bel, fun h => absurd h HNO.out, fun h => absurd h HNO.out, fun _ => rfl⟩
  | true =>
    have HMay := hide' (HR.out.1 rfl)
    by_cases he : out.length = N.lines.length
    · have HE := hide' he
      have hl30 : N.lines.length ≤ 30 := HMay.out.fits.2.1
      have ht24 : N.ties.length ≤ 24 := HMay.out.fits.2.2.2.2
      clear hll _hol
      rw [HE.out] at HOR ⊢
      clear he
      have HNIL : Hid (w1.ownsRow (w.heap.size + 2) 68 4 (.slice none 0 0) (linksN N.lines out 0).length ((linksN N.lines out 0).flatMap LinkM.cells)) := ⟨rfl, .inl ⟨rfl, rfl⟩⟩
      go_wp2_with fail
      go_loopw [6, 23] (fun l i wr => ∃ (k : Nat) (lv : Value), i = .int .i64 k ∧ l = lv ∧ k ≤ N.lines.length ∧ Hid (wr.ownsRow (w.heap.size + 2) 68 4 lv (linksN N.lines out k).length ((linksN N.lines out k).flatMap LinkM.cells)) ∧ Hid (NBx w wr #[.string N.name, .slice ab N.buses.length cb, .slice al N.lines.length cl, .slice ag N.gens.length cg, .slice ad N.loads.length cd, .slice at' N.ties.length ct]) ∧ Hid (RBx w wr)) (fun _ i _ => N.lines.length - (intOf i).toNat)
      case atStart => exact ⟨0, _, rfl, rfl, Nat.zero_le _, HNIL, HBX1, HRX1⟩
      case round =>
        clear HBX1 HRX1 HNIL r0 r1 rf rf0 rf1 k0 k1 k2 k3 k4 k5
        obtain ⟨k, l, rfl, hl, hk, HOW, HBX, HRX⟩ := hrel
        have hl' := hl.symm
        clear hl
        subst hl'
        by_cases hlt : k < N.lines.length
        · obtain ⟨bt, ot, ct', ex, hbt, hct⟩ := row_elem (f := LineM.cells) (fun _ => rfl) HLI.out k hlt (by decide)
          cases ex
          obtain ⟨bo, oo, co', exo, hbo, hco⟩ := Row1.cell HOR.out k (by rw [HE.out]; exact hlt)
          cases exo
          obtain ⟨t, ht⟩ : ∃ t, t = N.lines[k] := ⟨_, rfl⟩
          rw [← ht] at hct
          have hp : linksN N.lines out (k + 1) = if out.getD k false then linksN N.lines out k else linksN N.lines out k ++ [⟨false, (k : Int), t.frm, t.to⟩] := by
            rw [linksN, List.getElem?_eq_getElem hlt, ht]
          have up : ∀ (c j : Nat) (u : Value), w.cell? ⟨c, j, none⟩ = some u → wr.cell? ⟨c, j, none⟩ = some u := fun c j u h => (HBX.out.bel.cell (World.block_lt_of_cell? w _ h)).trans h
          have d0 := up _ _ _ (hct 0 _ rfl)
          have d1 := up _ _ _ (hct 1 _ rfl)
          have d2 := up _ _ _ (hct 2 _ rfl)
          have d3 := up _ _ _ (hct 3 _ rfl)
          have d4 := up _ _ _ (hct 4 _ rfl)
          have d5 := up _ _ _ hco
          obtain ⟨x0, hx0⟩ : ∃ x, x = t.name := ⟨_, rfl⟩
          obtain ⟨x1, hx1⟩ : ∃ x, x = t.frm := ⟨_, rfl⟩
          obtain ⟨x2, hx2⟩ : ∃ x, x = t.to := ⟨_, rfl⟩
          obtain ⟨x3, hx3⟩ : ∃ x, x = t.worth := ⟨_, rfl⟩
          obtain ⟨x4, hx4⟩ : ∃ x, x = t.limit := ⟨_, rfl⟩
          obtain ⟨x5, hx5⟩ : ∃ x, x = out.getD k false := ⟨_, rfl⟩
          rw [← hx0] at d0
          rw [← hx1] at d1 hp
          rw [← hx2] at d2 hp
          rw [← hx3] at d3
          rw [← hx4] at d4
          rw [← hx5] at d5 hp
          rw [Nat.add_zero] at d0
          have HP := hide' hp
          have hkl := linksN_len N.lines out k
          have HSZ : Hid (w.heap.size + 1 < wr.heap.size) := (Array.getElem?_eq_some_iff.1 HRX.out.box).1
          have HD5 : Hid (∀ o, (wr.alloc o).cell? ⟨bo, oo + k, none⟩ = some (.bool x5)) := fun o => (((Below.refl _ wr).alloc (Nat.le_refl _) o).cell (World.block_lt_of_cell? wr _ d5)).trans d5
          clear hct ht hp up hx0 hx1 hx2 hx3 hx4 hx5 hbt hbo hco
          have d6 := HD5.out
          cases x5 with
          | false =>
            have hOW := HOW.out
            have HCN : Hid (∀ j u, [Value.bool false, .int .i64 (k : Int), .int .i64 x1, .int .i64 x2][j]? = some u → ((wr.alloc (.cells #[.string x0, .int .i64 x1, .int .i64 x2, .int .i64 x3, .int .i64 x4] 49)).alloc (.cells #[.bool false, .int .i64 (k : Int), .int .i64 x1, .int .i64 x2] 68)).cell? ((⟨wr.heap.size + 1, 0, none⟩ : Addr).add j) = some u) := by
              have := cell_news (wr.alloc (.cells #[.string x0, .int .i64 x1, .int .i64 x2, .int .i64 x3, .int .i64 x4] 49)) [Value.bool false, .int .i64 (k : Int), .int .i64 x1, .int .i64 x2] 68
              rwa [World.size_alloc] at this
            go_wp2_with (at_builtin; (refine wpList_append_own _ rfl _ _ 56 rfl (w.heap.size + 2) 68 i0 _ 4 32 Tryz.underlying56 hi0 hzz0 hzz1 hzz2 rfl (by decide) _ _ _ rfl ((hOW.alloc _).alloc _) ⟨wr.heap.size + 1, 0, none⟩ 1 1 [.bool false, .int .i64 (k : Int), .int .i64 x1, .int .i64 x2] rfl rfl HCN.out link_one (by unfold maxLen; omega) (by omega) (by simp; have := HSZ.out; omega) ?_; intro v' w3 hown' hgrow _; refine Still.go ?_))
            unfold Still
            have hg3 : ((wr.alloc (.cells #[.string x0, .int .i64 x1, .int .i64 x2, .int .i64 x3, .int .i64 x4] 49)).alloc (.cells #[.bool false, .int .i64 (k : Int), .int .i64 x1, .int .i64 x2] 68)).grownBy w3 l.ownBlock := hgrow
            have hbe : Below wr.heap.size wr ((wr.alloc (.cells #[.string x0, .int .i64 x1, .int .i64 x2, .int .i64 x3, .int .i64 x4] 49)).alloc (.cells #[.bool false, .int .i64 (k : Int), .int .i64 x1, .int .i64 x2] 68)) := ((Below.refl _ wr).alloc (Nat.le_refl _) _).alloc (by simp) _
            have HS2 : Hid (w3.ownsRow (w.heap.size + 2) 68 4 v' (linksN N.lines out (k + 1)).length ((linksN N.lines out (k + 1)).flatMap LinkM.cells) ∧ NBx w w3 #[.string N.name, .slice ab N.buses.length cb, .slice (some ⟨bt, ot, none⟩) N.lines.length cl, .slice ag N.gens.length cg, .slice ad N.loads.length cd, .slice at' N.ties.length ct] ∧ RBx w w3) := by
              refine ⟨?_, (HBX.out.later hbe).grown hg3 (fun j hj => by have := own_at HOW.out j hj; omega), (HRX.out.later hbe).grown hg3 (fun j hj => by have := own_at HOW.out j hj; omega)⟩
              rw [HP.out, if_neg (by decide), flat_snoc, List.length_append]
              exact hown'
            clear hgrow hg3 hown' hOW d0 d1 d2 d3 d4 d5 d6 hbe
            go_wp2
            go_roundw
            case rel => exact ⟨k + 1, v', by go_num, rfl, by omega, HS2.out.1, HS2.out.2.1, HS2.out.2.2⟩
            case measure => simp [intOf]; omega
          | true =>
            have HOW2 : Hid (∀ o, (wr.alloc o).ownsRow (w.heap.size + 2) 68 4 l (linksN N.lines out (k + 1)).length ((linksN N.lines out (k + 1)).flatMap LinkM.cells)) := fun o => by
              rw [HP.out, if_pos (by trivial)]
              exact HOW.out.alloc _
            have HRX2 : Hid (∀ o, RBx w (wr.alloc o)) := fun o => HRX.out.later ((Below.refl _ wr).alloc (Nat.le_refl _) o)
            go_wp2
            go_roundw
            case rel => exact ⟨k + 1, l, by go_num, rfl, by omega, HOW2.out _, HBX.out.alloc _, HRX2.out _⟩
            case measure => simp [intOf]; omega
        · have hkn : k = N.lines.length := by omega
          subst hkn
          obtain ⟨k0, k1, k2, k3, k4, k5⟩ := HBX.out.cells
          have hkl := linksN_len N.lines out N.lines.length
          have hkt := linksT_len N.ties N.ties.length
          have HNT1 : Hid (NetAt wr.drew (.agg #[.string N.name, .slice ab N.buses.length cb, .slice al N.lines.length cl, .slice ag N.gens.length cg, .slice ad N.loads.length cd, .slice at' N.ties.length ct]) N) := by
            obtain ⟨b, l, g, d, t, e1, h1, h2, h3, h4, h5⟩ := HNT.out
            have hB := HBX.out.bel.drew
            exact ⟨b, l, g, d, t, e1, RowAt.below h1 hB (Nat.le_refl _), RowAt.below h2 hB (Nat.le_refl _), RowAt.below h3 hB (Nat.le_refl _), RowAt.below h4 hB (Nat.le_refl _), RowAt.below h5 hB (Nat.le_refl _)⟩
          go_wp2_with fail
          refine wp_region_tail (fun W => W.cell? ⟨w.heap.size, 0, none⟩ = some (.string N.name) ∧ W.cell? ⟨w.heap.size, 1, none⟩ = some (.slice ab N.buses.length cb) ∧ W.cell? ⟨w.heap.size, 2, none⟩ = some (.slice al N.lines.length cl) ∧ W.cell? ⟨w.heap.size, 3, none⟩ = some (.slice ag N.gens.length cg) ∧ W.cell? ⟨w.heap.size, 4, none⟩ = some (.slice ad N.loads.length cd) ∧ W.cell? ⟨w.heap.size, 5, none⟩ = some (.slice at' N.ties.length ct)) 9 (by kernel_rfl) ?_
          refine wpAnyD_takeAt 0 (some 45) (v := ?_) rfl (by kernel_rfl) (by kernel_rfl) (by kernel_rfl) (by kernel_rfl) (by kernel_rfl) (fun _ _ _ h => h) (by exact ⟨k0, k1, k2, k3, k4, k5⟩) (fun o hop => ?_) ?_
          rotate_left
          · injection hop with hop
            subst hop
            refine ⟨rfl, fun W hW => ?_⟩
            obtain ⟨s0, s1, s2, s3, s4, s5⟩ := hW
            go_simp
            first
            | rfl
            | rw [if_neg (by omega)]
          try simp only [Act.put, List.setIfInBounds_toArray, List.set_cons_zero, List.set_cons_succ]
          refine wpAnyD_takeAt 1 (some 46) (v := ?_) rfl (by kernel_rfl) (by kernel_rfl) (by kernel_rfl) (by kernel_rfl) (by kernel_rfl) (fun _ _ _ h => h) (by exact ⟨k0, k1, k2, k3, k4, k5⟩) (fun o hop => ?_) ?_
          rotate_left
          · injection hop with hop
            subst hop
            refine ⟨rfl, fun W hW => ?_⟩
            obtain ⟨s0, s1, s2, s3, s4, s5⟩ := hW
            go_simp
            first
            | rfl
            | rw [if_neg (by omega)]
          try simp only [Act.put, List.setIfInBounds_toArray, List.set_cons_zero, List.set_cons_succ]
          refine wpAnyD_takeAt 2 (some 47) (v := ?_) rfl (by kernel_rfl) (by kernel_rfl) (by kernel_rfl) (by kernel_rfl) (by kernel_rfl) (fun _ _ _ h => h) (by exact ⟨k0, k1, k2, k3, k4, k5⟩) (fun o hop => ?_) ?_
          rotate_left
          · injection hop with hop
            subst hop
            refine ⟨rfl, fun W hW => ?_⟩
            obtain ⟨s0, s1, s2, s3, s4, s5⟩ := hW
            go_simp
            first
            | rfl
            | rw [if_neg (by omega)]
          try simp only [Act.put, List.setIfInBounds_toArray, List.set_cons_zero, List.set_cons_succ]
          refine wpAnyD_takeAt 3 (some 48) (v := ?_) rfl (by kernel_rfl) (by kernel_rfl) (by kernel_rfl) (by kernel_rfl) (by kernel_rfl) (fun _ _ _ h => h) (by exact ⟨k0, k1, k2, k3, k4, k5⟩) (fun o hop => ?_) ?_
          rotate_left
          · injection hop with hop
            subst hop
            refine ⟨rfl, fun W hW => ?_⟩
            obtain ⟨s0, s1, s2, s3, s4, s5⟩ := hW
            go_simp
            first
            | rfl
            | rw [if_neg (by omega)]
          try simp only [Act.put, List.setIfInBounds_toArray, List.set_cons_zero, List.set_cons_succ]
          refine wpAnyD_takeAt 4 (some 49) (v := ?_) rfl (by kernel_rfl) (by kernel_rfl) (by kernel_rfl) (by kernel_rfl) (by kernel_rfl) (fun _ _ _ h => h) (by exact ⟨k0, k1, k2, k3, k4, k5⟩) (fun o hop => ?_) ?_
          rotate_left
          · injection hop with hop
            subst hop
            refine ⟨rfl, fun W hW => ?_⟩
            obtain ⟨s0, s1, s2, s3, s4, s5⟩ := hW
            go_simp
            first
            | rfl
            | rw [if_neg (by omega)]
          try simp only [Act.put, List.setIfInBounds_toArray, List.set_cons_zero, List.set_cons_succ]
          refine wpAnyT_one (i := 5) (by kernel_rfl) rfl rfl (fun K' hK => ?_)
          go_simp
          go_at_call 15
          refine (closedTies_any N _ wr.drew HNT1.out HMay.out.fits).mono ?_
          rintro e w2 ⟨lv, rfl, hown, hb2⟩
          obtain ⟨al2, cl2, rfl⟩ := own_slice hown
          have hbe : Below wr.heap.size wr w2 := ((Below.refl _ wr).drew).trans hb2
          have HBX2 := hide' (HBX.out.later hbe)
          have HRX2 := hide' (HRX.out.later hbe)
          have HOW2 : Hid (w2.ownsRow (w.heap.size + 2) 68 4 l (linksN N.lines out N.lines.length).length ((linksN N.lines out N.lines.length).flatMap LinkM.cells)) := own_other HOW.out (fun k hk => hbe.block k (by
            rcases HOW.out.2 with ⟨rfl, _⟩ | ⟨g, cp, cur, rfl, _, h5, _⟩
            · cases hk
            · cases hk; exact (Array.getElem?_eq_some_iff.1 h5).1))
          have HOT := hide' (rowAt_of_own hown)
          have HSZ2 : Hid (w.heap.size + 1 < w2.heap.size) := (Array.getElem?_eq_some_iff.1 HRX2.out.box).1
          clear hown hb2 hbe
          refine hK.out _ _ (fun _ => by exact HBX2.out.cells) ?_
          clear hK K'
          refine wpAnyT_one (i := 6) (by kernel_rfl) rfl rfl (fun K' hK => ?_)
          refine step_append_any rfl _ _ 56 rfl (w.heap.size + 2) 68 i0 _ 4 32 Tryz.underlying56 hi0 hzz0 hzz1 hzz2 rfl (by decide) l _ _ rfl HOW2.out _ _ _ rfl HOT.out (links_one _) (by unfold maxLen; omega) (by omega) (by have := HSZ2.out; omega) ?_
          intro v' w3 hown3 hg3
          have HBX3 := hide' (HBX2.out.grown hg3 (fun j hj => by have := own_at HOW2.out j hj; omega))
          have HRX3 := hide' (HRX2.out.grown hg3 (fun j hj => by have := own_at HOW2.out j hj; omega))
          have hown4 : w3.ownsRow (w.heap.size + 2) 68 4 v' (serviceL N out).length ((serviceL N out).flatMap LinkM.cells) := by
            rw [serviceL, List.length_append, List.flatMap_append]
            exact hown3
          obtain ⟨a3, c3, rfl⟩ := own_slice hown4
          have HOW3 := hide' hown4
          clear hown3 hg3 hown4
          refine hK.out _ _ (fun _ => by exact HBX3.out.cells) ?_
          clear hK K'
          refine wpAnyT_one (i := 7) (by kernel_rfl) rfl rfl (fun K' hK => ?_)
          go_simp
          refine hK.out _ _ (fun _ => by exact HBX3.out.cells) ?_
          clear hK K'
          obtain ⟨r0, r1, rf⟩ := HRX3.out.cells
          have rf0 := rf 0
          have rf1 := rf 1
          refine wpAnyT_one (i := 8) (by kernel_rfl) rfl rfl (fun K' hK => ?_)
          go_simp
          have HBX4 := hide' (HBX3.out.stored (.int .i64 N.buses.length) (.slice a3 (serviceL N out).length c3))
          refine hK.out _ _ (fun _ => by exact HBX4.out.cells) ?_
          clear hK K'
          refine wpAnyT_one (i := 9) (by kernel_rfl) rfl rfl (fun K' hK => ?_)
          go_simp
          refine hK.out _ _ (fun h => absurd rfl h) ?_
          clear hK K'
          refine wpAnyT_done (by kernel_rfl) ?_ _
          have HRO : Hid (RowAt ((w3.setCell ⟨w.heap.size + 1, 0, none⟩ (.int .i64 N.buses.length)).setCell ⟨w.heap.size + 1, 1, none⟩ (.slice a3 (serviceL N out).length c3)) (.slice a3 (serviceL N out).length c3) (serviceL N out).length 4 ((serviceL N out).flatMap LinkM.cells)) := rowAt_of_own (own_other HOW3.out (fun j hj => by
            have := own_at HOW3.out j hj
            rw [Below.heap_setCell _ _ _ _ (by show j ≠ w.heap.size + 1; omega), Below.heap_setCell _ _ _ _ (by show j ≠ w.heap.size + 1; omega)]))
          clear k0 k1 k2 k3 k4 k5 r0 r1 rf rf0 rf1
          go_wp2
          refine bodyPost_ret (ret_grid rfl _ _ (w.heap.size + 1) _ _ rfl (HRX3.out.stored _ _)) rfl ?_
          exact ⟨HBX4.out.bel, fun _ _ => ⟨a3, c3, rfl, HRO.out⟩, fun _ h => absurd HE.out h, fun h => absurd HMay.out h⟩
    · have HE := hide' he
      have hne : ((out.length : Int) == (N.lines.length : Int)) = false := beq_eq_false_iff_ne.2 (by omega)
      clear he
      go_wp2
      refine bodyPost_ret (ret_grid rfl _ _ (w.heap.size + 1) _ _ rfl (HRX1.out.stored _ _)) rfl ?_
      exact ⟨(HBX1.out.stored _ _).bel, fun _ h => absurd h HE.out, fun _ _ => rfl, fun h => absurd HMay.out h⟩
end Go.Proofs.YtjcpcjickdcpmacGreatDoor.Bar
