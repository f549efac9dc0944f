/- The document's own numbering of the buses that are joined. -/
import Derived.Test.YtkcldnnopmagjabGreatDoorKBr8
namespace Go.Proofs.YtkcldnnopmagjabGreatDoor.Bar
open Go.RowKit Go.Shelf Doc

def idTo (n : Nat) : Nat → List Int
  | 0 => List.replicate n 0
  | k + 1 => (idTo n k).set k (k : Int)
def tieTo (ts : List TieM) (l : List Int) : Nat → List Int
  | 0 => l
  | k + 1 => match ts[k]? with
    | some t => if t.closed then levelL (tieTo ts l k) t.frm.toNat t.to.toNat else tieTo ts l k
    | none => tieTo ts l k
def lineTo (ls : List LineM) (out : List Bool) (l : List Int) : Nat → List Int
  | 0 => l
  | k + 1 => match ls[k]? with
    | some t => if out.getD k false then lineTo ls out l k else levelL (lineTo ls out l k) t.frm.toNat t.to.toNat
    | none => lineTo ls out l k
def sweepL (N : NetM) (out : List Bool) (lines : Bool) (l : List Int) : List Int := if lines then lineTo N.lines out (tieTo N.ties l N.ties.length) N.lines.length else tieTo N.ties l N.ties.length
def whoS (N : NetM) (out : List Bool) (lines : Bool) : Nat → List Int
  | 0 => idTo N.buses.length N.buses.length
  | k + 1 => sweepL N out lines (whoS N out lines k)
def whoL (N : NetM) (out : List Bool) (lines : Bool) : List Int := whoS N out lines N.buses.length
def numS (n : Nat) (who : List Int) : Nat → List Int × Nat
  | 0 => (List.replicate n 0, 0)
  | k + 1 => if who.getD k 0 = (k : Int) then ((numS n who k).1.set k ((numS n who k).2 : Int), (numS n who k).2 + 1) else ((numS n who k).1.set k ((numS n who k).1.getD (who.getD k 0).toNat 0), (numS n who k).2)
def joinedL (N : NetM) (out : List Bool) (lines : Bool) : List Int := (numS N.buses.length (whoL N out lines) N.buses.length).1
theorem idTo_len (n : Nat) : ∀ k, (idTo n k).length = n
  | 0 => by simp [idTo]
  | k + 1 => by rw [idTo, List.length_set, idTo_len n k]
theorem tieTo_len (ts : List TieM) (l : List Int) : ∀ k, (tieTo ts l k).length = l.length
  | 0 => rfl
  | k + 1 => by
    rw [tieTo]
    split
    · split
      · rw [levelL_len, tieTo_len ts l k]
      · exact tieTo_len ts l k
    · exact tieTo_len ts l k
theorem lineTo_len (ls : List LineM) (out : List Bool) (l : List Int) : ∀ k, (lineTo ls out l k).length = l.length
  | 0 => rfl
  | k + 1 => by
    rw [lineTo]
    split
    · split
      · exact lineTo_len ls out l k
      · rw [levelL_len, lineTo_len ls out l k]
    · exact lineTo_len ls out l k
theorem whoS_len (N : NetM) (out : List Bool) (lines : Bool) : ∀ k, (whoS N out lines k).length = N.buses.length
  | 0 => idTo_len _ _
  | k + 1 => by
    rw [whoS, sweepL]
    split
    · rw [lineTo_len, tieTo_len, whoS_len N out lines k]
    · rw [tieTo_len, whoS_len N out lines k]
theorem numS_len (n : Nat) (who : List Int) : ∀ k, (numS n who k).1.length = n
  | 0 => by simp [numS]
  | k + 1 => by
    rw [numS]
    split <;> rw [List.length_set, numS_len n who k]
/-- Every number is a bus's. -/
def InR (n : Nat) (l : List Int) : Prop := ∀ x ∈ l, 0 ≤ x ∧ x < (n : Int)
theorem InR.set {n : Nat} {l : List Int} (h : InR n l) {v : Nat} {x : Int} (hx : 0 ≤ x ∧ x < (n : Int)) : InR n (l.set v x) := fun y hy => by
  rcases List.mem_or_eq_of_mem_set hy with hy | rfl
  · exact h y hy
  · exact hx
theorem InR.level {n : Nat} {l : List Int} (h : InR n l) {a b : Nat} (ha : a < l.length) (hb : b < l.length) : InR n (levelL l a b) := by
  unfold levelL
  split
  · exact h.set (h _ (getD_in ha).2)
  · exact h.set (h _ (getD_in hb).2)
/-- The ends are buses. -/
structure EndsM (N : NetM) : Prop where
  lines : ∀ l ∈ N.lines, 0 ≤ l.frm ∧ l.frm < N.buses.length ∧ 0 ≤ l.to ∧ l.to < N.buses.length
  ties : ∀ l ∈ N.ties, 0 ≤ l.frm ∧ l.frm < N.buses.length ∧ 0 ≤ l.to ∧ l.to < N.buses.length
theorem InR.ties {N : NetM} (he : EndsM N) {l : List Int} (h : InR N.buses.length l) (hl : l.length = N.buses.length) : ∀ k, InR N.buses.length (tieTo N.ties l k)
  | 0 => h
  | k + 1 => by
    rw [tieTo]
    split
    · next t ht =>
      have := he.ties t (List.mem_of_getElem? ht)
      split
      · exact (InR.ties he h hl k).level (by rw [tieTo_len, hl]; omega) (by rw [tieTo_len, hl]; omega)
      · exact InR.ties he h hl k
    · exact InR.ties he h hl k
theorem InR.lines {N : NetM} (he : EndsM N) {out : List Bool} {l : List Int} (h : InR N.buses.length l) (hl : l.length = N.buses.length) : ∀ k, InR N.buses.length (lineTo N.lines out l k)
  | 0 => h
  | k + 1 => by
    rw [lineTo]
    split
    · next t ht =>
      have := he.lines t (List.mem_of_getElem? ht)
      split
      · exact InR.lines he h hl k
      · exact (InR.lines he h hl k).level (by rw [lineTo_len, hl]; omega) (by rw [lineTo_len, hl]; omega)
    · exact InR.lines he h hl k
theorem InR.id (n : Nat) (h0 : 0 < n) : ∀ k, k ≤ n → InR n (idTo n k)
  | 0, _ => fun x hx => by rw [List.eq_of_mem_replicate hx]; omega
  | k + 1, hk => (InR.id n h0 k (by omega)).set (by omega)
theorem InR.who {N : NetM} (he : EndsM N) (h0 : 0 < N.buses.length) (out : List Bool) (lines : Bool) : ∀ k, InR N.buses.length (whoS N out lines k)
  | 0 => InR.id _ h0 _ (Nat.le_refl _)
  | k + 1 => by
    have ih := InR.who he h0 out lines k
    have hl := whoS_len N out lines k
    rw [whoS, sweepL]
    split
    · exact (ih.ties he hl _).lines he (by rw [tieTo_len, hl]) _
    · exact ih.ties he hl _
/-- The list at work beside the network's box. -/
structure JSt (w W : World) (F : Nat) (g : Array Value) (l : List Int) : Prop where
  hF : W.heap[F]? = some (.cells (ints l).toArray 3 (0, 0))
  bel : Below w.heap.size w W
  box : W.heap[w.heap.size]? = some (.cells g 28 (0, 0))
  hlt : w.heap.size < F
theorem JSt.later {w W W' : World} {F : Nat} {g : Array Value} {l : List Int} (h : JSt w W F g l) (hb : Below W.heap.size W W') : JSt w W' F g l :=
  ⟨(hb.block F (Array.getElem?_eq_some_iff.1 h.hF).1).trans h.hF, h.bel.trans (hb.mono h.bel.size), (hb.block _ (Array.getElem?_eq_some_iff.1 h.box).1).trans h.box, h.hlt⟩
theorem JSt.only {w W W' : World} {F : Nat} {g : Array Value} {l l' : List Int} (h : JSt w W F g l) (hf : W'.heap[F]? = some (.cells (ints l').toArray 3 (0, 0))) (ho : Only F W W') : JSt w W' F g l' :=
  ⟨hf, h.bel.trans (ho.below (Nat.le_of_lt h.hlt)), (ho.block _ (Nat.ne_of_lt h.hlt)).trans h.box, h.hlt⟩
theorem JSt.other {w W W' : World} {F G : Nat} {g : Array Value} {l : List Int} (h : JSt w W F g l) (hFG : F ≠ G) (hG : w.heap.size < G) (ho : Only G W W') : JSt w W' F g l :=
  ⟨(ho.block _ hFG).trans h.hF, h.bel.trans (ho.below (Nat.le_of_lt hG)), (ho.block _ (Nat.ne_of_lt hG)).trans h.box, h.hlt⟩
theorem JSt.set {w W : World} {F : Nat} {g : Array Value} {l : List Int} (h : JSt w W F g l) (v : Nat) (x : Int) : JSt w (W.setCell ⟨F, v, none⟩ (.int .i64 x)) F g (l.set v x) :=
  h.only (by rw [set_any h.hF v (.int .i64 x), ints_set]) (Only.set F v _ W)
theorem Row1.cell {w : World} {v : Value} {out : List Bool} {n : Nat} (h : RowAt w v n 1 (out.map Value.bool)) (k : Nat) (hk : k < out.length) : ∃ b off c, v = .slice (some ⟨b, off, none⟩) n c ∧ b < w.heap.size ∧ w.cell? ⟨b, off + k, none⟩ = some (.bool (out.getD k false)) := by
  obtain ⟨-, a, c, rfl, hc⟩ := h
  obtain ⟨b, off, rfl, hcell⟩ := hc k (.bool (out.getD k false)) (by rw [List.getElem?_map, List.getD_eq_getElem?_getD, List.getElem?_eq_getElem hk]; rfl)
  exact ⟨b, off, c, rfl, World.block_lt_of_cell? w _ hcell, hcell⟩

set_option maxRecDepth 100000 in
set_option maxHeartbeats 4000000 in
theorem joined_any (N : NetM) (v outv : Value) (out : List Bool) (lines : Bool) (w : World) (hx : NetAt w v N) (hfit : Fits N) (he : EndsM N) (ho : lines = true → out.length = N.lines.length ∧ RowAt w outv N.lines.length 1 (out.map Value.bool)) :
    Calls Tryz.prog 39 #[v, outv, .bool lines] w fun e w' => ∃ F, e = .returned (.slice (some ⟨F, 0, none⟩) N.buses.length N.buses.length) ∧ w.heap.size ≤ F ∧ w'.heap[F]? = some (.cells (ints (joinedL N out lines)).toArray 3 (0, 0)) ∧ Below w.heap.size w w' := by
  obtain ⟨vb, vl, vg, vd, vt, rfl, ⟨xb, ab, cb, rfl, rb⟩, ⟨xl, al, cl, rfl, rl⟩, ⟨xg, ag, cg, rfl, rg⟩, ⟨xd, ad, cd, rfl, rd⟩, ⟨xt, at', ct, rfl, rt⟩⟩ := hx
  have HTI : Hid (RowAt w (.slice at' N.ties.length ct) N.ties.length 4 (N.ties.flatMap TieM.cells)) := ⟨xt, at', ct, rfl, rt⟩
  have HLI : Hid (RowAt w (.slice al N.lines.length cl) N.lines.length 5 (N.lines.flatMap LineM.cells)) := ⟨xl, al, cl, rfl, rl⟩
  have HE := hide' he
  have HO := hide' ho
  have hn16 : N.buses.length ≤ 16 := hfit.1
  have hlt16 : N.ties.length ≤ 24 := hfit.2.2.2.2
  have hll16 : N.lines.length ≤ 30 := hfit.2.1
  obtain ⟨i0, hi0, hzz0, hzz1, hzz2⟩ := info_parts Doc.Tryz.info3
  clear xb rb xl rl xg rg xd rd xt rt he ho hfit
  go_enter Tryz.func39, Tryz.ntmps39
  go_wp2_with (at_make; refine wpList_make_full _ rfl _ _ 36 rfl (w.heap.size + 1) 3 i0 (.int .i64 0) 1 Tryz.underlying36 hi0 hzz0 hzz1 .i64 .i64 _ _ N.buses.length rfl rfl rfl rfl (by rw [hzz2]; omega) (by unfold maxLen; omega) (by simp) ?_; intro w1 hown1 hg1; refine Still.go ?_)
  unfold Still
  have HST : Hid (JSt w w1 (w.heap.size + 1) #[.string N.name, .slice ab N.buses.length cb, .slice al N.lines.length cl, .slice ag N.gens.length cg, .slice ad N.loads.length cd, .slice at' N.ties.length ct] (idTo N.buses.length 0)) := by
    have h1 := row_of_own hown1
    rw [made_zero, World.size_alloc] at h1
    refine ⟨by rw [h1, idTo, ints, List.map_replicate], ((Below.refl _ w).alloc (Nat.le_refl _) _).grown hg1 (by simp) (fun k e => by cases e), ?_, by omega⟩
    exact (hg1.block _ (by simp) (fun e => by cases e)).trans (World.alloc_heap_new w _)
  clear hown1 hg1
  go_wp2_with fail
  go_loopw [9] (fun i wr => ∃ (k : Nat), i = .int .i64 k ∧ k ≤ N.buses.length ∧ Hid (JSt w wr (w.heap.size + 1) #[.string N.name, .slice ab N.buses.length cb, .slice al N.lines.length cl, .slice ag N.gens.length cg, .slice ad N.loads.length cd, .slice at' N.ties.length ct] (idTo N.buses.length k))) (fun i _ => N.buses.length - (intOf i).toNat)
  case atStart => exact ⟨0, rfl, Nat.zero_le _, HST⟩
  case round =>
    clear HST
    obtain ⟨k, rfl, hk, HST⟩ := hrel
    by_cases hlt : k < N.buses.length
    · obtain ⟨cW, fW⟩ := intsCell HST.out.hF (j := k) (by rw [idTo_len]; exact hlt)
      obtain ⟨z, hz⟩ : ∃ z, z = (idTo N.buses.length k).getD k 0 := ⟨_, rfl⟩
      rw [← hz] at cW
      clear hz
      go_wp2
      go_roundw
      case rel => exact ⟨k + 1, by go_num, by omega, HST.out.set k k⟩
      case measure => simp [intOf]; omega
    · have hkn : k = N.buses.length := by omega
      subst hkn
      go_wp2_with fail
      go_loopw [10] (fun i wr => ∃ (k : Nat), i = .int .i64 k ∧ k ≤ N.buses.length ∧ Hid (JSt w wr (w.heap.size + 1) #[.string N.name, .slice ab N.buses.length cb, .slice al N.lines.length cl, .slice ag N.gens.length cg, .slice ad N.loads.length cd, .slice at' N.ties.length ct] (whoS N out lines k))) (fun i _ => N.buses.length - (intOf i).toNat)
      case atStart => exact ⟨0, rfl, Nat.zero_le _, HST⟩
      case round =>
        clear HST hk hlt
        obtain ⟨k, rfl, hk, HST⟩ := hrel
        by_cases hlt : k < N.buses.length
        · go_wp2_with fail
          go_loopw [11] (fun i wr => ∃ (q : Nat), i = .int .i64 q ∧ q ≤ N.ties.length ∧ Hid (JSt w wr (w.heap.size + 1) #[.string N.name, .slice ab N.buses.length cb, .slice al N.lines.length cl, .slice ag N.gens.length cg, .slice ad N.loads.length cd, .slice at' N.ties.length ct] (tieTo N.ties (whoS N out lines k) q))) (fun i _ => N.ties.length - (intOf i).toNat)
          case atStart => exact ⟨0, rfl, Nat.zero_le _, HST⟩
          case round =>
            clear HST
            obtain ⟨q, rfl, hq, HST⟩ := hrel
            have c5 : wr.cell? ⟨w.heap.size, 5, none⟩ = some (.slice at' N.ties.length ct) := by simp only [World.cell?, HST.out.box]; rfl
            by_cases hql : q < N.ties.length
            · obtain ⟨bt, ot, ct', ex, hbt, hct⟩ := row_elem (f := TieM.cells) (fun _ => rfl) HTI.out q hql (by decide)
              cases ex
              obtain ⟨t, ht⟩ : ∃ t, t = N.ties[q] := ⟨_, rfl⟩
              rw [← ht] at hct
              have hte := HE.out.ties t (by rw [ht]; exact List.getElem_mem hql)
              have hc1 := hct 1 _ rfl
              have hc2 := hct 2 _ rfl
              have hc3 := hct 3 _ rfl
              have hp : tieTo N.ties (whoS N out lines k) (q + 1) = if t.closed then levelL (tieTo N.ties (whoS N out lines k) q) t.frm.toNat t.to.toNat else tieTo N.ties (whoS N out lines k) q := by
                rw [tieTo, List.getElem?_eq_getElem hql, ht]
              obtain ⟨fN, hfN⟩ := Int.eq_ofNat_of_zero_le hte.1
              obtain ⟨tN, htN⟩ := Int.eq_ofNat_of_zero_le hte.2.2.1
              rw [hfN] at hc1
              rw [htN] at hc2
              rw [hfN, htN, Int.toNat_natCast, Int.toNat_natCast] at hp
              have hfl : fN < N.buses.length := by omega
              have htl : tN < N.buses.length := by omega
              obtain ⟨cl', hcl⟩ : ∃ c, c = t.closed := ⟨_, rfl⟩
              rw [← hcl] at hp hc3
              have d1 := (HST.out.bel.cell (World.block_lt_of_cell? w _ hc1)).trans hc1
              have d2 := (HST.out.bel.cell (World.block_lt_of_cell? w _ hc2)).trans hc2
              have d3 := (HST.out.bel.cell (World.block_lt_of_cell? w _ hc3)).trans hc3
              have hwl : (tieTo N.ties (whoS N out lines k) q).length = N.buses.length := by rw [tieTo_len, whoS_len]
              have HWL := hide' hwl
              have HP := hide' hp
              clear hct hc1 hc2 hc3 hp hte hfN htN hcl ht hbt hwl
              cases cl' with
              | true =>
                go_wp2_with fail
                refine wp_region_tail (fun W => W.cell? ⟨w.heap.size, 5, none⟩ = some (.slice (some ⟨bt, ot, none⟩) N.ties.length ct) ∧ W.cell? ⟨bt, ot + q * 4 + 1, none⟩ = some (.int .i64 (fN : Int)) ∧ W.cell? ⟨bt, ot + q * 4 + 2, none⟩ = some (.int .i64 (tN : Int))) 13 (by kernel_rfl) ?_
                refine wpAnyD_takeAt 0 (some 48) (v := ?_) rfl (by kernel_rfl) (by kernel_rfl) (by kernel_rfl) (by kernel_rfl) (by kernel_rfl) (fun _ _ _ h => h) (by exact ⟨c5, d1, d2⟩) (fun o hop => ?_) ?_
                rotate_left
                · injection hop with hop
                  subst hop
                  refine ⟨rfl, fun W hW => ?_⟩
                  obtain ⟨s0, s1, s2⟩ := hW
                  go_simp
                  first
                  | rfl
                  | rw [if_neg (by omega)]
                try simp only [Act.put, List.setIfInBounds_toArray, List.set_cons_zero, List.set_cons_succ]
                refine wpAnyD_takeAt 1 (some 49) (v := ?_) rfl (by kernel_rfl) (by kernel_rfl) (by kernel_rfl) (by kernel_rfl) (by kernel_rfl) (fun _ _ _ h => h) (by exact ⟨c5, d1, d2⟩) (fun o hop => ?_) ?_
                rotate_left
                · injection hop with hop
                  subst hop
                  refine ⟨rfl, fun W hW => ?_⟩
                  obtain ⟨s0, s1, s2⟩ := hW
                  go_simp
                  first
                  | rfl
                  | rw [if_neg (by omega)]
                try simp only [Act.put, List.setIfInBounds_toArray, List.set_cons_zero, List.set_cons_succ]
                refine wpAnyD_takeAt 2 (some 50) (v := ?_) rfl (by kernel_rfl) (by kernel_rfl) (by kernel_rfl) (by kernel_rfl) (by kernel_rfl) (fun _ _ _ h => h) (by exact ⟨c5, d1, d2⟩) (fun o hop => ?_) ?_
                rotate_left
                · injection hop with hop
                  subst hop
                  refine ⟨rfl, fun W hW => ?_⟩
                  obtain ⟨s0, s1, s2⟩ := hW
                  go_simp
                  first
                  | rfl
                  | rw [if_neg (by omega)]
                try simp only [Act.put, List.setIfInBounds_toArray, List.set_cons_zero, List.set_cons_succ]
                refine wpAnyD_takeAt 3 (some 51) (v := ?_) rfl (by kernel_rfl) (by kernel_rfl) (by kernel_rfl) (by kernel_rfl) (by kernel_rfl) (fun _ _ _ h => h) (by exact ⟨c5, d1, d2⟩) (fun o hop => ?_) ?_
                rotate_left
                · injection hop with hop
                  subst hop
                  refine ⟨rfl, fun W hW => ?_⟩
                  obtain ⟨s0, s1, s2⟩ := hW
                  go_simp
                  first
                  | rfl
                  | rw [if_neg (by omega)]
                try simp only [Act.put, List.setIfInBounds_toArray, List.set_cons_zero, List.set_cons_succ]
                refine wpAnyD_takeAt 4 (some 52) (v := ?_) rfl (by kernel_rfl) (by kernel_rfl) (by kernel_rfl) (by kernel_rfl) (by kernel_rfl) (fun _ _ _ h => h) (by exact ⟨c5, d1, d2⟩) (fun o hop => ?_) ?_
                rotate_left
                · injection hop with hop
                  subst hop
                  refine ⟨rfl, fun W hW => ?_⟩
                  obtain ⟨s0, s1, s2⟩ := hW
                  go_simp
                  first
                  | rfl
                  | rw [if_neg (by omega)]
                try simp only [Act.put, List.setIfInBounds_toArray, List.set_cons_zero, List.set_cons_succ]
                refine wpAnyD_takeAt 5 (some 53) (v := ?_) rfl (by kernel_rfl) (by kernel_rfl) (by kernel_rfl) (by kernel_rfl) (by kernel_rfl) (fun _ _ _ h => h) (by exact ⟨c5, d1, d2⟩) (fun o hop => ?_) ?_
                rotate_left
                · injection hop with hop
                  subst hop
                  refine ⟨rfl, fun W hW => ?_⟩
                  obtain ⟨s0, s1, s2⟩ := hW
                  go_simp
                  first
                  | rfl
                  | rw [if_neg (by omega)]
                try simp only [Act.put, List.setIfInBounds_toArray, List.set_cons_zero, List.set_cons_succ]
                refine wpAnyD_takeAt 6 (some 54) (v := ?_) rfl (by kernel_rfl) (by kernel_rfl) (by kernel_rfl) (by kernel_rfl) (by kernel_rfl) (fun _ _ _ h => h) (by exact ⟨c5, d1, d2⟩) (fun o hop => ?_) ?_
                rotate_left
                · injection hop with hop
                  subst hop
                  refine ⟨rfl, fun W hW => ?_⟩
                  obtain ⟨s0, s1, s2⟩ := hW
                  go_simp
                  first
                  | rfl
                  | rw [if_neg (by omega)]
                try simp only [Act.put, List.setIfInBounds_toArray, List.set_cons_zero, List.set_cons_succ]
                refine wpAnyD_takeAt 7 (some 55) (v := ?_) rfl (by kernel_rfl) (by kernel_rfl) (by kernel_rfl) (by kernel_rfl) (by kernel_rfl) (fun _ _ _ h => h) (by exact ⟨c5, d1, d2⟩) (fun o hop => ?_) ?_
                rotate_left
                · injection hop with hop
                  subst hop
                  refine ⟨rfl, fun W hW => ?_⟩
                  obtain ⟨s0, s1, s2⟩ := hW
                  go_simp
                  first
                  | rfl
                  | rw [if_neg (by omega)]
                try simp only [Act.put, List.setIfInBounds_toArray, List.set_cons_zero, List.set_cons_succ]
                refine wpAnyD_takeAt 8 (some 56) (v := ?_) rfl (by kernel_rfl) (by kernel_rfl) (by kernel_rfl) (by kernel_rfl) (by kernel_rfl) (fun _ _ _ h => h) (by exact ⟨c5, d1, d2⟩) (fun o hop => ?_) ?_
                rotate_left
                · injection hop with hop
                  subst hop
                  refine ⟨rfl, fun W hW => ?_⟩
                  obtain ⟨s0, s1, s2⟩ := hW
                  go_simp
                  first
                  | rfl
                  | rw [if_neg (by omega)]
                try simp only [Act.put, List.setIfInBounds_toArray, List.set_cons_zero, List.set_cons_succ]
                refine wpAnyD_takeAt 9 (some 57) (v := ?_) rfl (by kernel_rfl) (by kernel_rfl) (by kernel_rfl) (by kernel_rfl) (by kernel_rfl) (fun _ _ _ h => h) (by exact ⟨c5, d1, d2⟩) (fun o hop => ?_) ?_
                rotate_left
                · injection hop with hop
                  subst hop
                  refine ⟨rfl, fun W hW => ?_⟩
                  obtain ⟨s0, s1, s2⟩ := hW
                  go_simp
                  first
                  | rfl
                  | rw [if_neg (by omega)]
                try simp only [Act.put, List.setIfInBounds_toArray, List.set_cons_zero, List.set_cons_succ]
                refine wpAnyD_takeAt 10 (some 58) (v := ?_) rfl (by kernel_rfl) (by kernel_rfl) (by kernel_rfl) (by kernel_rfl) (by kernel_rfl) (fun _ _ _ h => h) (by exact ⟨c5, d1, d2⟩) (fun o hop => ?_) ?_
                rotate_left
                · injection hop with hop
                  subst hop
                  refine ⟨rfl, fun W hW => ?_⟩
                  obtain ⟨s0, s1, s2⟩ := hW
                  go_simp
                  first
                  | rfl
                  | rw [if_neg (by omega)]
                try simp only [Act.put, List.setIfInBounds_toArray, List.set_cons_zero, List.set_cons_succ]
                refine wpAnyD_takeAt 11 (some 59) (v := ?_) rfl (by kernel_rfl) (by kernel_rfl) (by kernel_rfl) (by kernel_rfl) (by kernel_rfl) (fun _ _ _ h => h) (by exact ⟨c5, d1, d2⟩) (fun o hop => ?_) ?_
                rotate_left
                · injection hop with hop
                  subst hop
                  refine ⟨rfl, fun W hW => ?_⟩
                  obtain ⟨s0, s1, s2⟩ := hW
                  go_simp
                  first
                  | rfl
                  | rw [if_neg (by omega)]
                try simp only [Act.put, List.setIfInBounds_toArray, List.set_cons_zero, List.set_cons_succ]
                refine wpAnyD_takeAt 12 (some 60) (v := ?_) rfl (by kernel_rfl) (by kernel_rfl) (by kernel_rfl) (by kernel_rfl) (by kernel_rfl) (fun _ _ _ h => h) (by exact ⟨c5, d1, d2⟩) (fun o hop => ?_) ?_
                rotate_left
                · injection hop with hop
                  subst hop
                  refine ⟨rfl, fun W hW => ?_⟩
                  obtain ⟨s0, s1, s2⟩ := hW
                  go_simp
                  first
                  | rfl
                  | rw [if_neg (by omega)]
                try simp only [Act.put, List.setIfInBounds_toArray, List.set_cons_zero, List.set_cons_succ]
                refine wpAnyT_one (i := 13) (by kernel_rfl) rfl rfl (fun K' hK => ?_)
                go_simp
                go_at_call 64
                refine (level_any _ N.buses.length fN tN (w.heap.size + 1) HWL.out hfl htl wr.drew HST.out.hF).mono ?_
                rintro e w2 ⟨rfl, hF2, ho2⟩
                have HS2 : Hid (JSt w w2 (w.heap.size + 1) #[.string N.name, .slice ab N.buses.length cb, .slice al N.lines.length cl, .slice ag N.gens.length cg, .slice ad N.loads.length cd, .slice (some ⟨bt, ot, none⟩) N.ties.length ct] (tieTo N.ties (whoS N out lines k) (q + 1))) := by
                  rw [HP.out]
                  exact (HST.out.later (Below.refl _ wr).drew).only hF2 ho2
                refine hK.out _ _ (fun h => absurd rfl h) ?_
                clear hK K' hF2 ho2 c5 d1 d2 d3
                refine wpAnyT_done (by kernel_rfl) ?_ _
                go_wp2
                exact ⟨⟨q + 1, by go_num, by omega, HS2⟩, by simp [intOf]; omega⟩
              | false =>
                have HS2 : Hid (JSt w wr (w.heap.size + 1) #[.string N.name, .slice ab N.buses.length cb, .slice al N.lines.length cl, .slice ag N.gens.length cg, .slice ad N.loads.length cd, .slice (some ⟨bt, ot, none⟩) N.ties.length ct] (tieTo N.ties (whoS N out lines k) (q + 1))) := by
                  rw [HP.out]
                  exact HST.out
                go_wp2
                go_roundw
                case rel => exact ⟨q + 1, by go_num, by omega, HS2⟩
                case measure => simp [intOf]; omega
            · have hqn : q = N.ties.length := by omega
              subst hqn
              go_wp2_with fail
              go_loopw [12] (fun i wr => ∃ (q : Nat), i = .int .i64 q ∧ q ≤ N.lines.length ∧ (lines = false → q = 0) ∧ Hid (JSt w wr (w.heap.size + 1) #[.string N.name, .slice ab N.buses.length cb, .slice al N.lines.length cl, .slice ag N.gens.length cg, .slice ad N.loads.length cd, .slice at' N.ties.length ct] (lineTo N.lines out (tieTo N.ties (whoS N out lines k) N.ties.length) q))) (fun i _ => N.lines.length - (intOf i).toNat)
              case atStart => exact ⟨0, rfl, Nat.zero_le _, fun _ => rfl, HST⟩
              case round =>
                clear HST c5 hq hql
                obtain ⟨q, rfl, hq, hq0, HST⟩ := hrel
                have c2 : wr.cell? ⟨w.heap.size, 2, none⟩ = some (.slice al N.lines.length cl) := by simp only [World.cell?, HST.out.box]; rfl
                cases lines with
                | false =>
                  have hq00 := hq0 rfl
                  subst hq00
                  have HS2 : Hid (JSt w wr (w.heap.size + 1) #[.string N.name, .slice ab N.buses.length cb, .slice al N.lines.length cl, .slice ag N.gens.length cg, .slice ad N.loads.length cd, .slice at' N.ties.length ct] (whoS N out false (k + 1))) := HST
                  clear hq0
                  by_cases hql : 0 < N.lines.length
                  · go_wp2
                    go_roundw
                    case rel => exact ⟨k + 1, by go_num, by omega, HS2⟩
                    case measure => simp [intOf]; omega
                  · go_wp2
                    go_roundw
                    case rel => exact ⟨k + 1, by go_num, by omega, HS2⟩
                    case measure => simp [intOf]; omega
                | true =>
                  clear hq0
                  by_cases hql : q < N.lines.length
                  · obtain ⟨hol, hor⟩ := HO.out rfl
                    obtain ⟨bt, ot, ct', ex, hbt, hct⟩ := row_elem (f := LineM.cells) (fun _ => rfl) HLI.out q hql (by decide)
                    cases ex
                    obtain ⟨bo, oo, co, rfl, hbo, hco⟩ := Row1.cell hor q (by omega)
                    obtain ⟨t, ht⟩ : ∃ t, t = N.lines[q] := ⟨_, rfl⟩
                    rw [← ht] at hct
                    have hte := HE.out.lines t (by rw [ht]; exact List.getElem_mem hql)
                    have hc1 := hct 1 _ rfl
                    have hc2 := hct 2 _ rfl
                    have hp : lineTo N.lines out (tieTo N.ties (whoS N out true k) N.ties.length) (q + 1) = if out.getD q false then lineTo N.lines out (tieTo N.ties (whoS N out true k) N.ties.length) q else levelL (lineTo N.lines out (tieTo N.ties (whoS N out true k) N.ties.length) q) t.frm.toNat t.to.toNat := by
                      rw [lineTo, List.getElem?_eq_getElem hql, ht]
                    obtain ⟨fN, hfN⟩ := Int.eq_ofNat_of_zero_le hte.1
                    obtain ⟨tN, htN⟩ := Int.eq_ofNat_of_zero_le hte.2.2.1
                    rw [hfN] at hc1
                    rw [htN] at hc2
                    rw [hfN, htN, Int.toNat_natCast, Int.toNat_natCast] at hp
                    have hfl : fN < N.buses.length := by omega
                    have htl : tN < N.buses.length := by omega
                    obtain ⟨cl', hcl⟩ : ∃ c, c = out.getD q false := ⟨_, rfl⟩
                    rw [← hcl] at hp hco
                    have d1 := (HST.out.bel.cell (World.block_lt_of_cell? w _ hc1)).trans hc1
                    have d2 := (HST.out.bel.cell (World.block_lt_of_cell? w _ hc2)).trans hc2
                    have d3 := (HST.out.bel.cell (World.block_lt_of_cell? w _ hco)).trans hco
                    have hwl : (lineTo N.lines out (tieTo N.ties (whoS N out true k) N.ties.length) q).length = N.buses.length := by rw [lineTo_len, tieTo_len, whoS_len]
                    have HWL := hide' hwl
                    have HP := hide' hp
                    clear hct hc1 hc2 hco hp hte hfN htN hcl ht hbt hwl hor hbo
                    cases cl' with
                    | false =>
                      go_wp2_with fail
                      refine wp_region_tail (fun W => W.cell? ⟨w.heap.size, 2, none⟩ = some (.slice (some ⟨bt, ot, none⟩) N.lines.length cl) ∧ W.cell? ⟨bt, ot + q * 5 + 1, none⟩ = some (.int .i64 (fN : Int)) ∧ W.cell? ⟨bt, ot + q * 5 + 2, none⟩ = some (.int .i64 (tN : Int))) 13 (by kernel_rfl) ?_
                      refine wpAnyD_takeAt 0 (some 77) (v := ?_) rfl (by kernel_rfl) (by kernel_rfl) (by kernel_rfl) (by kernel_rfl) (by kernel_rfl) (fun _ _ _ h => h) (by exact ⟨c2, d1, d2⟩) (fun o hop => ?_) ?_
                      rotate_left
                      · injection hop with hop
                        subst hop
                        refine ⟨rfl, fun W hW => ?_⟩
                        obtain ⟨s0, s1, s2⟩ := hW
                        go_simp
                        first
                        | rfl
                        | rw [if_neg (by omega)]
                      try simp only [Act.put, List.setIfInBounds_toArray, List.set_cons_zero, List.set_cons_succ]
                      refine wpAnyD_takeAt 1 (some 78) (v := ?_) rfl (by kernel_rfl) (by kernel_rfl) (by kernel_rfl) (by kernel_rfl) (by kernel_rfl) (fun _ _ _ h => h) (by exact ⟨c2, d1, d2⟩) (fun o hop => ?_) ?_
                      rotate_left
                      · injection hop with hop
                        subst hop
                        refine ⟨rfl, fun W hW => ?_⟩
                        obtain ⟨s0, s1, s2⟩ := hW
                        go_simp
                        first
                        | rfl
                        | rw [if_neg (by omega)]
                      try simp only [Act.put, List.setIfInBounds_toArray, List.set_cons_zero, List.set_cons_succ]
                      refine wpAnyD_takeAt 2 (some 79) (v := ?_) rfl (by kernel_rfl) (by kernel_rfl) (by kernel_rfl) (by kernel_rfl) (by kernel_rfl) (fun _ _ _ h => h) (by exact ⟨c2, d1, d2⟩) (fun o hop => ?_) ?_
                      rotate_left
                      · injection hop with hop
                        subst hop
                        refine ⟨rfl, fun W hW => ?_⟩
                        obtain ⟨s0, s1, s2⟩ := hW
                        go_simp
                        first
                        | rfl
                        | rw [if_neg (by omega)]
                      try simp only [Act.put, List.setIfInBounds_toArray, List.set_cons_zero, List.set_cons_succ]
                      refine wpAnyD_takeAt 3 (some 80) (v := ?_) rfl (by kernel_rfl) (by kernel_rfl) (by kernel_rfl) (by kernel_rfl) (by kernel_rfl) (fun _ _ _ h => h) (by exact ⟨c2, d1, d2⟩) (fun o hop => ?_) ?_
                      rotate_left
                      · injection hop with hop
                        subst hop
                        refine ⟨rfl, fun W hW => ?_⟩
                        obtain ⟨s0, s1, s2⟩ := hW
                        go_simp
                        first
                        | rfl
                        | rw [if_neg (by omega)]
                      try simp only [Act.put, List.setIfInBounds_toArray, List.set_cons_zero, List.set_cons_succ]
                      refine wpAnyD_takeAt 4 (some 81) (v := ?_) rfl (by kernel_rfl) (by kernel_rfl) (by kernel_rfl) (by kernel_rfl) (by kernel_rfl) (fun _ _ _ h => h) (by exact ⟨c2, d1, d2⟩) (fun o hop => ?_) ?_
                      rotate_left
                      · injection hop with hop
                        subst hop
                        refine ⟨rfl, fun W hW => ?_⟩
                        obtain ⟨s0, s1, s2⟩ := hW
                        go_simp
                        first
                        | rfl
                        | rw [if_neg (by omega)]
                      try simp only [Act.put, List.setIfInBounds_toArray, List.set_cons_zero, List.set_cons_succ]
                      refine wpAnyD_takeAt 5 (some 82) (v := ?_) rfl (by kernel_rfl) (by kernel_rfl) (by kernel_rfl) (by kernel_rfl) (by kernel_rfl) (fun _ _ _ h => h) (by exact ⟨c2, d1, d2⟩) (fun o hop => ?_) ?_
                      rotate_left
                      · injection hop with hop
                        subst hop
                        refine ⟨rfl, fun W hW => ?_⟩
                        obtain ⟨s0, s1, s2⟩ := hW
                        go_simp
                        first
                        | rfl
                        | rw [if_neg (by omega)]
                      try simp only [Act.put, List.setIfInBounds_toArray, List.set_cons_zero, List.set_cons_succ]
                      refine wpAnyD_takeAt 6 (some 83) (v := ?_) rfl (by kernel_rfl) (by kernel_rfl) (by kernel_rfl) (by kernel_rfl) (by kernel_rfl) (fun _ _ _ h => h) (by exact ⟨c2, d1, d2⟩) (fun o hop => ?_) ?_
                      rotate_left
                      · injection hop with hop
                        subst hop
                        refine ⟨rfl, fun W hW => ?_⟩
                        obtain ⟨s0, s1, s2⟩ := hW
                        go_simp
                        first
                        | rfl
                        | rw [if_neg (by omega)]
                      try simp only [Act.put, List.setIfInBounds_toArray, List.set_cons_zero, List.set_cons_succ]
                      refine wpAnyD_takeAt 7 (some 84) (v := ?_) rfl (by kernel_rfl) (by kernel_rfl) (by kernel_rfl) (by kernel_rfl) (by kernel_rfl) (fun _ _ _ h => h) (by exact ⟨c2, d1, d2⟩) (fun o hop => ?_) ?_
                      rotate_left
                      · injection hop with hop
                        subst hop
                        refine ⟨rfl, fun W hW => ?_⟩
                        obtain ⟨s0, s1, s2⟩ := hW
                        go_simp
                        first
                        | rfl
                        | rw [if_neg (by omega)]
                      try simp only [Act.put, List.setIfInBounds_toArray, List.set_cons_zero, List.set_cons_succ]
                      refine wpAnyD_takeAt 8 (some 85) (v := ?_) rfl (by kernel_rfl) (by kernel_rfl) (by kernel_rfl) (by kernel_rfl) (by kernel_rfl) (fun _ _ _ h => h) (by exact ⟨c2, d1, d2⟩) (fun o hop => ?_) ?_
                      rotate_left
                      · injection hop with hop
                        subst hop
                        refine ⟨rfl, fun W hW => ?_⟩
                        obtain ⟨s0, s1, s2⟩ := hW
                        go_simp
                        first
                        | rfl
                        | rw [if_neg (by omega)]
                      try simp only [Act.put, List.setIfInBounds_toArray, List.set_cons_zero, List.set_cons_succ]
                      refine wpAnyD_takeAt 9 (some 86) (v := ?_) rfl (by kernel_rfl) (by kernel_rfl) (by kernel_rfl) (by kernel_rfl) (by kernel_rfl) (fun _ _ _ h => h) (by exact ⟨c2, d1, d2⟩) (fun o hop => ?_) ?_
                      rotate_left
                      · injection hop with hop
                        subst hop
                        refine ⟨rfl, fun W hW => ?_⟩
                        obtain ⟨s0, s1, s2⟩ := hW
                        go_simp
                        first
                        | rfl
                        | rw [if_neg (by omega)]
                      try simp only [Act.put, List.setIfInBounds_toArray, List.set_cons_zero, List.set_cons_succ]
                      refine wpAnyD_takeAt 10 (some 87) (v := ?_) rfl (by kernel_rfl) (by kernel_rfl) (by kernel_rfl) (by kernel_rfl) (by kernel_rfl) (fun _ _ _ h => h) (by exact ⟨c2, d1, d2⟩) (fun o hop => ?_) ?_
                      rotate_left
                      · injection hop with hop
                        subst hop
                        refine ⟨rfl, fun W hW => ?_⟩
                        obtain ⟨s0, s1, s2⟩ := hW
                        go_simp
                        first
                        | rfl
                        | rw [if_neg (by omega)]
                      try simp only [Act.put, List.setIfInBounds_toArray, List.set_cons_zero, List.set_cons_succ]
                      refine wpAnyD_takeAt 11 (some 88) (v := ?_) rfl (by kernel_rfl) (by kernel_rfl) (by kernel_rfl) (by kernel_rfl) (by kernel_rfl) (fun _ _ _ h => h) (by exact ⟨c2, d1, d2⟩) (fun o hop => ?_) ?_
                      rotate_left
                      · injection hop with hop
                        subst hop
                        refine ⟨rfl, fun W hW => ?_⟩
                        obtain ⟨s0, s1, s2⟩ := hW
                        go_simp
                        first
                        | rfl
                        | rw [if_neg (by omega)]
                      try simp only [Act.put, List.setIfInBounds_toArray, List.set_cons_zero, List.set_cons_succ]
                      refine wpAnyD_takeAt 12 (some 89) (v := ?_) rfl (by kernel_rfl) (by kernel_rfl) (by kernel_rfl) (by kernel_rfl) (by kernel_rfl) (fun _ _ _ h => h) (by exact ⟨c2, d1, d2⟩) (fun o hop => ?_) ?_
                      rotate_left
                      · injection hop with hop
                        subst hop
                        refine ⟨rfl, fun W hW => ?_⟩
                        obtain ⟨s0, s1, s2⟩ := hW
                        go_simp
                        first
                        | rfl
                        | rw [if_neg (by omega)]
                      try simp only [Act.put, List.setIfInBounds_toArray, List.set_cons_zero, List.set_cons_succ]
                      refine wpAnyT_one (i := 13) (by kernel_rfl) rfl rfl (fun K' hK => ?_)
                      go_simp
                      go_at_call 64
                      refine (level_any _ N.buses.length fN tN (w.heap.size + 1) HWL.out hfl htl wr.drew HST.out.hF).mono ?_
                      rintro e w2 ⟨rfl, hF2, ho2⟩
                      have HS2 : Hid (JSt w w2 (w.heap.size + 1) #[.string N.name, .slice ab N.buses.length cb, .slice (some ⟨bt, ot, none⟩) N.lines.length cl, .slice ag N.gens.length cg, .slice ad N.loads.length cd, .slice at' N.ties.length ct] (lineTo N.lines out (tieTo N.ties (whoS N out true k) N.ties.length) (q + 1))) := by
                        rw [HP.out]
                        exact (HST.out.later (Below.refl _ wr).drew).only hF2 ho2
                      refine hK.out _ _ (fun h => absurd rfl h) ?_
                      clear hK K' hF2 ho2 c2 d1 d2 d3
                      refine wpAnyT_done (by kernel_rfl) ?_ _
                      go_wp2
                      exact ⟨⟨q + 1, by go_num, by omega, (fun h => by cases h), HS2⟩, by simp [intOf]; omega⟩
                    | true =>
                      have HS2 : Hid (JSt w wr (w.heap.size + 1) #[.string N.name, .slice ab N.buses.length cb, .slice (some ⟨bt, ot, none⟩) N.lines.length cl, .slice ag N.gens.length cg, .slice ad N.loads.length cd, .slice at' N.ties.length ct] (lineTo N.lines out (tieTo N.ties (whoS N out true k) N.ties.length) (q + 1))) := by
                        rw [HP.out]
                        exact HST.out
                      go_wp2
                      go_roundw
                      case rel => exact ⟨q + 1, by go_num, by omega, (fun h => by cases h), HS2⟩
                      case measure => simp [intOf]; omega
                  · have hqn : q = N.lines.length := by omega
                    subst hqn
                    have HS2 : Hid (JSt w wr (w.heap.size + 1) #[.string N.name, .slice ab N.buses.length cb, .slice al N.lines.length cl, .slice ag N.gens.length cg, .slice ad N.loads.length cd, .slice at' N.ties.length ct] (whoS N out true (k + 1))) := HST
                    go_wp2
                    go_roundw
                    case rel => exact ⟨k + 1, by go_num, by omega, HS2⟩
                    case measure => simp [intOf]; omega
        · have hkn : k = N.buses.length := by omega
          subst hkn
          go_wp2_with (at_make; refine wpList_make_full _ rfl _ _ 36 rfl wr.heap.size 3 i0 (.int .i64 0) 1 Tryz.underlying36 hi0 hzz0 hzz1 .i64 .i64 _ _ N.buses.length rfl rfl rfl rfl (by rw [hzz2]; omega) (by unfold maxLen; omega) (Nat.le_refl _) ?_; intro w1 hown1 hg1; refine Still.go ?_)
          unfold Still
          have hFl : w.heap.size + 1 < wr.heap.size := (Array.getElem?_eq_some_iff.1 HST.out.hF).1
          have hb1 : Below wr.heap.size wr w1 := (Below.refl _ wr).grown hg1 (Nat.le_refl _) (fun k e => by cases e)
          have HSW := hide' (HST.out.later hb1)
          have HSN : Hid (JSt w w1 wr.heap.size #[.string N.name, .slice ab N.buses.length cb, .slice al N.lines.length cl, .slice ag N.gens.length cg, .slice ad N.loads.length cd, .slice at' N.ties.length ct] ((numS N.buses.length (whoL N out lines) 0).1)) := by
            have h1 := row_of_own hown1
            rw [made_zero] at h1
            exact ⟨by rw [h1, numS, ints, List.map_replicate], HSW.out.bel, HSW.out.box, by omega⟩
          obtain ⟨G, hG⟩ : ∃ G, G = wr.heap.size := ⟨_, rfl⟩
          rw [← hG] at HSN hFl
          rw [← hG]
          clear hown1 hg1 hb1 HST hG
          go_wp2_with fail
          go_loopw [14, 15] (fun nx i wr => ∃ (k c : Nat), nx = .int .i64 c ∧ i = .int .i64 k ∧ k ≤ N.buses.length ∧ c ≤ k ∧ Hid (JSt w wr (w.heap.size + 1) #[.string N.name, .slice ab N.buses.length cb, .slice al N.lines.length cl, .slice ag N.gens.length cg, .slice ad N.loads.length cd, .slice at' N.ties.length ct] (whoL N out lines)) ∧ Hid (JSt w wr G #[.string N.name, .slice ab N.buses.length cb, .slice al N.lines.length cl, .slice ag N.gens.length cg, .slice ad N.loads.length cd, .slice at' N.ties.length ct] ((numS N.buses.length (whoL N out lines) k).1)) ∧ Hid ((numS N.buses.length (whoL N out lines) k).2 = c)) (fun _ i _ => N.buses.length - (intOf i).toNat)
          case atStart => exact ⟨0, 0, rfl, rfl, Nat.zero_le _, Nat.le_refl _, HSW, HSN, rfl⟩
          case round =>
            clear HSW HSN hk hlt
            obtain ⟨k, c, rfl, rfl, hk, hck, HSW, HSN, HC⟩ := hrel
            by_cases hlt : k < N.buses.length
            · have hwl : (whoL N out lines).length = N.buses.length := whoS_len _ _ _ _
              obtain ⟨cW, fW⟩ := intsCell HSW.out.hF (j := k) (by rw [hwl]; exact hlt)
              obtain ⟨cN, fN⟩ := intsCell HSN.out.hF (j := k) (by rw [numS_len]; exact hlt)
              have hwr := InR.who HE.out (by omega) out lines N.buses.length _ (getD_in (D := whoL N out lines) (j := k) (by rw [hwl]; exact hlt)).2
              have hnu : numS N.buses.length (whoL N out lines) (k + 1) = if (whoL N out lines).getD k 0 = (k : Int) then ((numS N.buses.length (whoL N out lines) k).1.set k (c : Int), c + 1) else ((numS N.buses.length (whoL N out lines) k).1.set k ((numS N.buses.length (whoL N out lines) k).1.getD ((whoL N out lines).getD k 0).toNat 0), c) := by
                rw [numS, HC.out]
              obtain ⟨z, hz⟩ : ∃ z, z = (numS N.buses.length (whoL N out lines) k).1.getD k 0 := ⟨_, rfl⟩
              obtain ⟨x, hxw⟩ : ∃ x, x = (whoL N out lines).getD k 0 := ⟨_, rfl⟩
              rw [← hz] at cN
              rw [← hxw] at cW hwr hnu
              clear hz hxw
              by_cases hc : x = (k : Int)
              · subst hc
                rw [if_pos rfl] at hnu
                have HNU := hide' hnu
                clear hnu hwr
                go_wp2
                go_roundw
                case rel => exact ⟨k + 1, c + 1, by go_num, by go_num, by omega, by omega, HSW.out.other (by omega) HSN.out.hlt (Only.set G k _ wr), by rw [HNU.out]; exact HSN.out.set k c, by rw [HNU.out]; rfl⟩
                case measure => simp [intOf]; omega
              · rw [if_neg hc] at hnu
                obtain ⟨xN, rfl⟩ := Int.eq_ofNat_of_zero_le hwr.1
                have hxl : xN < N.buses.length := by omega
                obtain ⟨cX, fX⟩ := intsCell HSN.out.hF (j := xN) (by rw [numS_len]; exact hxl)
                rw [Int.toNat_natCast] at hnu
                obtain ⟨y, hy⟩ : ∃ y, y = (numS N.buses.length (whoL N out lines) k).1.getD xN 0 := ⟨_, rfl⟩
                rw [← hy] at cX hnu
                have HNU := hide' hnu
                clear hnu hwr hy
                go_wp2
                go_roundw
                case rel => exact ⟨k + 1, c, rfl, by go_num, by omega, by omega, HSW.out.other (by omega) HSN.out.hlt (Only.set G k _ wr), by rw [HNU.out]; exact HSN.out.set k y, by rw [HNU.out]; rfl⟩
                case measure => simp [intOf]; omega
            · have hkn : k = N.buses.length := by omega
              subst hkn
              go_wp2
              go_ret
              exact ⟨G, rfl, Nat.le_of_lt HSN.out.hlt, HSN.out.hF, HSN.out.bel⟩
end Go.Proofs.YtkcldnnopmagjabGreatDoor.Bar
