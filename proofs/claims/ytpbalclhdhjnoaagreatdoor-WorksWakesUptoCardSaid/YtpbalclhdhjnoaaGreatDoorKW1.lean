/- The document's own counts of hops: of two buses next to each other the farther comes nearer. -/
import Derived.Test.YtpbalclhdhjnoaaGreatDoorKBra
import Derived.Test.YtpbalclhdhjnoaaGreatDoorKBp0
import Derived.BigQuiet
import Derived.Test.YtpbalclhdhjnoaaGreatDoorKBrb
namespace Go.Proofs.YtpbalclhdhjnoaaGreatDoor.Bar
open Go.RowKit Go.Shelf Doc

def nearerL (l : List Int) (a b : Nat) : List Int := if l.getD b 0 + 1 < l.getD a 0 then l.set a (l.getD b 0 + 1) else if l.getD a 0 + 1 < l.getD b 0 then l.set b (l.getD a 0 + 1) else l
theorem nearerL_len (l : List Int) (a b : Nat) : (nearerL l a b).length = l.length := by
  unfold nearerL
  split
  · rw [List.length_set]
  · split
    · rw [List.length_set]
    · rfl

set_option maxRecDepth 100000 in
set_option maxHeartbeats 2000000 in
theorem nearer_any (l : List Int) (n a b F : Nat) (hl : l.length = n) (ha : a < n) (hb : b < n) (hlow : ∀ x ∈ l, 0 ≤ x ∧ x ≤ 1000) (w : World) (hF : w.heap[F]? = some (.cells (ints l).toArray 3 (0, 0))) :
    Calls Tryz.prog 22 #[.slice (some ⟨F, 0, none⟩) n n, .int .i64 (a : Int), .int .i64 (b : Int)] w fun e w' => e = .returned (.tuple #[]) ∧ w'.heap[F]? = some (.cells (ints (nearerL l a b)).toArray 3 (0, 0)) ∧ Only F w w' := by
  obtain ⟨cA, fA⟩ := intsCell hF (j := a) (by omega)
  obtain ⟨cB, fB⟩ := intsCell hF (j := b) (by omega)
  have hxr := hlow _ (getD_in (D := l) (j := a) (by omega)).2
  have hyr := hlow _ (getD_in (D := l) (j := b) (by omega)).2
  have hset : ∀ (v : Nat) (z : Int), (w.setCell ⟨F, v, none⟩ (.int .i64 z)).heap[F]? = some (.cells (ints (l.set v z)).toArray 3 (0, 0)) := fun v z => by rw [set_any hF v (.int .i64 z), ints_set]
  have HF := hide' hF
  have hla : a < l.length := by omega
  have hlb : b < l.length := by omega
  have hcell : ∀ (v : Nat) (z : Int) (k : Nat), k < l.length → (w.setCell ⟨F, v, none⟩ (.int .i64 z)).cell? ⟨F, k, none⟩ = some (.int .i64 ((l.set v z).getD k 0)) := fun v z k hk => (intsCell (hset v z) (by rw [List.length_set]; exact hk)).1
  obtain ⟨x, hx⟩ : ∃ x, x = l.getD a 0 := ⟨_, rfl⟩
  obtain ⟨y, hy⟩ : ∃ y, y = l.getD b 0 := ⟨_, rfl⟩
  have HL : Hid (nearerL l a b = if y + 1 < x then l.set a (y + 1) else if x + 1 < y then l.set b (x + 1) else l) := by rw [hx, hy]; rfl
  rw [← hx] at cA hxr
  rw [← hy] at cB hyr
  have hw1 : IntKind.i64.wrap (y + 1) = y + 1 := Go.IntWalk.i64_in _ (by omega)
  have hw2 : IntKind.i64.wrap (x + 1) = x + 1 := Go.IntWalk.i64_in _ (by omega)
  have HSET := hide' hset
  by_cases hc : y + 1 < x
  · have hab : a ≠ b := fun e => by subst e; omega
    have e1 : (w.setCell ⟨F, a, none⟩ (.int .i64 (y + 1))).cell? ⟨F, a, none⟩ = some (.int .i64 (y + 1)) := by
      rw [hcell a (y + 1) a hla, List.getD_eq_getElem?_getD, List.getElem?_set_self hla]; rfl
    have e2 : (w.setCell ⟨F, a, none⟩ (.int .i64 (y + 1))).cell? ⟨F, b, none⟩ = some (.int .i64 y) := by
      rw [hcell a (y + 1) b hlb, List.getD_eq_getElem?_getD, List.getElem?_set_ne hab, ← List.getD_eq_getElem?_getD, hy]
    have hw3 : IntKind.i64.wrap (y + 1 + 1) = y + 1 + 1 := Go.IntWalk.i64_in _ (by omega)
    clear hF hx hy hset hcell
    go_enter Tryz.func22, Tryz.ntmps22
    go_wp2_with fail
    go_region
    go_wp2_with fail
    go_region
    go_wp2
    refine bodyPost_end (results_none rfl _ _ _) rfl ?_
    refine ⟨rfl, ?_, ((Only.set F _ _ w).drew').drew'⟩
    rw [HL.out, if_pos hc]
    exact HSET.out a (y + 1)
  · clear hcell hset hF hx hy
    go_enter Tryz.func22, Tryz.ntmps22
    go_wp2_with fail
    by_cases hc2 : x + 1 < y
    · go_region
      go_wp2_with fail
      go_region
      go_wp2
      refine bodyPost_end (results_none rfl _ _ _) rfl ?_
      refine ⟨rfl, ?_, ((Only.set F _ _ w).drew').drew'⟩
      rw [HL.out, if_neg (by omega), if_pos hc2]
      exact HSET.out b (x + 1)
    · go_region
      go_wp2_with fail
      go_region
      go_wp2
      refine bodyPost_end (results_none rfl _ _ _) rfl ?_
      refine ⟨rfl, ?_, ⟨rfl, rfl, rfl, rfl, fun _ _ => rfl⟩⟩
      rw [HL.out, if_neg (by omega), if_neg (by omega)]
      exact HF.out
end Go.Proofs.YtpbalclhdhjnoaaGreatDoor.Bar

namespace Go.Proofs.YtpbalclhdhjnoaaGreatDoor.Bar
open Go.RowKit Go.Shelf Doc

def lenTo (n : Nat) : Nat → List Int
  | 0 => List.replicate n 0
  | k + 1 => (lenTo n k).set k (n : Int)
def nLine (ls : List LineM) (out : List Bool) (l : List Int) : Nat → List Int
  | 0 => l
  | k + 1 => match ls[k]? with
    | some t => if out.getD k false then nLine ls out l k else nearerL (nLine ls out l k) t.frm.toNat t.to.toNat
    | none => nLine ls out l k
def nTie (ts : List TieM) (l : List Int) : Nat → List Int
  | 0 => l
  | k + 1 => match ts[k]? with
    | some t => if t.closed then nearerL (nTie ts l k) t.frm.toNat t.to.toNat else nTie ts l k
    | none => nTie ts l k
def awayS (N : NetM) (out : List Bool) (b : Nat) : Nat → List Int
  | 0 => (lenTo N.buses.length N.buses.length).set b 0
  | k + 1 => nTie N.ties (nLine N.lines out (awayS N out b k) N.lines.length) N.ties.length
def awayL (N : NetM) (out : List Bool) (b : Nat) : List Int := awayS N out b N.buses.length
theorem lenTo_len (n : Nat) : ∀ k, (lenTo n k).length = n
  | 0 => by simp [lenTo]
  | k + 1 => by rw [lenTo, List.length_set, lenTo_len n k]
theorem nLine_len (ls : List LineM) (out : List Bool) (l : List Int) : ∀ k, (nLine ls out l k).length = l.length
  | 0 => rfl
  | k + 1 => by
    rw [nLine]
    split
    · split
      · exact nLine_len ls out l k
      · rw [nearerL_len, nLine_len ls out l k]
    · exact nLine_len ls out l k
theorem nTie_len (ts : List TieM) (l : List Int) : ∀ k, (nTie ts l k).length = l.length
  | 0 => rfl
  | k + 1 => by
    rw [nTie]
    split
    · split
      · rw [nearerL_len, nTie_len ts l k]
      · exact nTie_len ts l k
    · exact nTie_len ts l k
theorem awayS_len (N : NetM) (out : List Bool) (b : Nat) : ∀ k, (awayS N out b k).length = N.buses.length
  | 0 => by rw [awayS, List.length_set, lenTo_len]
  | k + 1 => by rw [awayS, nTie_len, nLine_len, awayS_len N out b k]
/-- No count is out of bounds. -/
def InB (l : List Int) : Prop := ∀ x ∈ l, 0 ≤ x ∧ x ≤ 1000
theorem InB.set {l : List Int} (h : InB l) {v : Nat} {x : Int} (hx : 0 ≤ x ∧ x ≤ 1000) : InB (l.set v x) := fun y hy => by
  rcases List.mem_or_eq_of_mem_set hy with hy | rfl
  · exact h y hy
  · exact hx
theorem getD_low {l : List Int} (h : InB l) (j : Nat) : 0 ≤ l.getD j 0 ∧ l.getD j 0 ≤ 1000 := by
  by_cases hj : j < l.length
  · exact h _ (getD_in hj).2
  · rw [List.getD_eq_getElem?_getD, List.getElem?_eq_none (by omega)]
    exact ⟨Int.le_refl _, by decide⟩
theorem InB.near {l : List Int} (h : InB l) (a b : Nat) : InB (nearerL l a b) := by
  have ha := getD_low h a
  have hb := getD_low h b
  unfold nearerL
  split
  · exact h.set (by omega)
  · split
    · exact h.set (by omega)
    · exact h
theorem InB.line {l : List Int} (ls : List LineM) (out : List Bool) (h : InB l) : ∀ k, InB (nLine ls out l k)
  | 0 => h
  | k + 1 => by
    rw [nLine]
    split
    · split
      · exact InB.line ls out h k
      · exact (InB.line ls out h k).near _ _
    · exact InB.line ls out h k
theorem InB.tie {l : List Int} (ts : List TieM) (h : InB l) : ∀ k, InB (nTie ts l k)
  | 0 => h
  | k + 1 => by
    rw [nTie]
    split
    · split
      · exact (InB.tie ts h k).near _ _
      · exact InB.tie ts h k
    · exact InB.tie ts h k
theorem InB.len (n : Nat) (hn : n ≤ 1000) : ∀ k, InB (lenTo n k)
  | 0 => fun x hx => by rw [List.eq_of_mem_replicate hx]; omega
  | k + 1 => (InB.len n hn k).set (by omega)
theorem InB.away {N : NetM} (out : List Bool) (b : Nat) (hn : N.buses.length ≤ 16) : ∀ k, InB (awayS N out b k)
  | 0 => (InB.len _ (by omega) _).set (by omega)
  | k + 1 => InB.tie _ (InB.line _ _ (InB.away out b hn k) _) _

set_option maxRecDepth 100000 in
set_option maxHeartbeats 4000000 in
theorem awayFrom_any (N : NetM) (v outv : Value) (out : List Bool) (b : Nat) (hb : b < N.buses.length) (w : World) (hx : NetAt w v N) (hfit : Fits N) (he : EndsM N) (hol : out.length = N.lines.length) (ho : RowAt w outv N.lines.length 1 (out.map Value.bool)) :
    Calls Tryz.prog 13 #[v, outv, .int .i64 (b : Int)] w fun e w' => ∃ F, e = .returned (.slice (some ⟨F, 0, none⟩) N.buses.length N.buses.length) ∧ w.heap.size ≤ F ∧ w'.heap[F]? = some (.cells (ints (awayL N out b)).toArray 3 (0, 0)) ∧ Below w.heap.size w w' := by
  obtain ⟨vb, vl, vg, vd, vt, rfl, ⟨xb, ab, cb, rfl, rb⟩, ⟨xl, al, cl, rfl, rl⟩, ⟨xg, ag, cg, rfl, rg⟩, ⟨xd, ad, cd, rfl, rd⟩, ⟨xt, at', ct, rfl, rt⟩⟩ := hx
  have HTI : Hid (RowAt w (.slice at' N.ties.length ct) N.ties.length 4 (N.ties.flatMap TieM.cells)) := ⟨xt, at', ct, rfl, rt⟩
  have HLI : Hid (RowAt w (.slice al N.lines.length cl) N.lines.length 5 (N.lines.flatMap LineM.cells)) := ⟨xl, al, cl, rfl, rl⟩
  have HE := hide' he
  have HO := hide' ho
  have HOL := hide' hol
  obtain ⟨ao, co', rfl⟩ := rowAt_slice ho
  have hb16 : N.buses.length ≤ 16 := hfit.1
  have hlt16 : N.ties.length ≤ 24 := hfit.2.2.2.2
  have hll16 : N.lines.length ≤ 30 := hfit.2.1
  obtain ⟨i0, hi0, hzz0, hzz1, hzz2⟩ := info_parts Doc.Tryz.info3
  clear xb rb xl rl xg rg xd rd xt rt he ho hol hfit
  go_enter Tryz.func13, Tryz.ntmps13
  go_wp2_with (at_make; refine wpList_make_full _ rfl _ _ 30 rfl (w.heap.size + 1) 3 i0 (.int .i64 0) 1 Tryz.underlying30 hi0 hzz0 hzz1 .i64 .i64 _ _ N.buses.length rfl rfl rfl rfl (by rw [hzz2]; omega) (by unfold maxLen; omega) (by simp) ?_; intro w1 hown1 hg1; refine Still.go ?_)
  unfold Still
  have HST : Hid (JSt w w1 (w.heap.size + 1) #[.string N.name, .slice ab N.buses.length cb, .slice al N.lines.length cl, .slice ag N.gens.length cg, .slice ad N.loads.length cd, .slice at' N.ties.length ct] (lenTo N.buses.length 0)) := by
    have h1 := row_of_own hown1
    rw [made_zero, World.size_alloc] at h1
    refine ⟨by rw [h1, lenTo, ints, List.map_replicate], ((Below.refl _ w).alloc (Nat.le_refl _) _).grown hg1 (by simp) (fun k e => by cases e), ?_, by omega⟩
    exact (hg1.block _ (by simp) (fun e => by cases e)).trans (World.alloc_heap_new w _)
  clear hown1 hg1
  go_wp2_with fail
  go_loopw [8] (fun i wr => ∃ (k : Nat), i = .int .i64 k ∧ k ≤ N.buses.length ∧ Hid (JSt w wr (w.heap.size + 1) #[.string N.name, .slice ab N.buses.length cb, .slice al N.lines.length cl, .slice ag N.gens.length cg, .slice ad N.loads.length cd, .slice at' N.ties.length ct] (lenTo N.buses.length k))) (fun i _ => N.buses.length - (intOf i).toNat)
  case atStart => exact ⟨0, rfl, Nat.zero_le _, HST⟩
  case round =>
    clear HST
    obtain ⟨k, rfl, hk, HST⟩ := hrel
    by_cases hlt : k < N.buses.length
    · obtain ⟨cW, fW⟩ := intsCell HST.out.hF (j := k) (by rw [lenTo_len]; exact hlt)
      obtain ⟨z, hz⟩ : ∃ z, z = (lenTo N.buses.length k).getD k 0 := ⟨_, rfl⟩
      rw [← hz] at cW
      clear hz
      go_wp2
      go_roundw
      case rel => exact ⟨k + 1, by go_num, by omega, HST.out.set k _⟩
      case measure => simp [intOf]; omega
    · have hkn : k = N.buses.length := by omega
      subst hkn
      obtain ⟨cW, fW⟩ := intsCell HST.out.hF (j := b) (by rw [lenTo_len]; exact hb)
      obtain ⟨z, hz⟩ : ∃ z, z = (lenTo N.buses.length N.buses.length).getD b 0 := ⟨_, rfl⟩
      rw [← hz] at cW
      clear hz
      have HS0 : Hid (JSt w (wr.setCell ⟨w.heap.size + 1, b, none⟩ (.int .i64 0)) (w.heap.size + 1) #[.string N.name, .slice ab N.buses.length cb, .slice al N.lines.length cl, .slice ag N.gens.length cg, .slice ad N.loads.length cd, .slice at' N.ties.length ct] (awayS N out b 0)) := HST.out.set b 0
      go_wp2_with fail
      go_loopw [9] (fun i wr => ∃ (k : Nat), i = .int .i64 k ∧ k ≤ N.buses.length ∧ Hid (JSt w wr (w.heap.size + 1) #[.string N.name, .slice ab N.buses.length cb, .slice al N.lines.length cl, .slice ag N.gens.length cg, .slice ad N.loads.length cd, .slice at' N.ties.length ct] (awayS N out b k))) (fun i _ => N.buses.length - (intOf i).toNat)
      case atStart => exact ⟨0, rfl, Nat.zero_le _, HS0⟩
      case round =>
        clear HST HS0 hk hlt cW fW
        obtain ⟨k, rfl, hk, HST⟩ := hrel
        by_cases hlt : k < N.buses.length
        · go_wp2_with fail
          go_loopw [10] (fun i wr => ∃ (q : Nat), i = .int .i64 q ∧ q ≤ N.lines.length ∧ Hid (JSt w wr (w.heap.size + 1) #[.string N.name, .slice ab N.buses.length cb, .slice al N.lines.length cl, .slice ag N.gens.length cg, .slice ad N.loads.length cd, .slice at' N.ties.length ct] (nLine N.lines out (awayS N out b k) q))) (fun i _ => N.lines.length - (intOf i).toNat)
          case atStart => exact ⟨0, rfl, Nat.zero_le _, HST⟩
          case round =>
            clear HST
            obtain ⟨q, rfl, hq, HST⟩ := hrel
            have c5 : wr.cell? ⟨w.heap.size, 2, none⟩ = some (.slice al N.lines.length cl) := by simp only [World.cell?, HST.out.box]; rfl
            by_cases hql : q < N.lines.length
            · skip
              obtain ⟨bt, ot, ct', ex, hbt, hct⟩ := row_elem (f := LineM.cells) (fun _ => rfl) HLI.out q hql (by decide)
              cases ex
              obtain ⟨bo, oo, co, exo, hbo, hco⟩ := Row1.cell HO.out q (by rw [HOL.out]; exact hql)
              cases exo
              obtain ⟨t, ht⟩ : ∃ t, t = N.lines[q] := ⟨_, rfl⟩
              rw [← ht] at hct
              have hte := HE.out.lines t (by rw [ht]; exact List.getElem_mem hql)
              have hc1 := hct 1 _ rfl
              have hc2 := hct 2 _ rfl
              have hp : nLine N.lines out (awayS N out b k) (q + 1) = if out.getD q false then nLine N.lines out (awayS N out b k) q else nearerL (nLine N.lines out (awayS N out b k) q) t.frm.toNat t.to.toNat := by
                rw [nLine, List.getElem?_eq_getElem hql, ht]
              obtain ⟨fN, hfN⟩ := Int.eq_ofNat_of_zero_le hte.1
              obtain ⟨tN, htN⟩ := Int.eq_ofNat_of_zero_le hte.2.2.1
              rw [hfN] at hc1
              rw [htN] at hc2
              rw [hfN, htN, Int.toNat_natCast, Int.toNat_natCast] at hp
              have hfl : fN < N.buses.length := by omega
              have htl : tN < N.buses.length := by omega
              obtain ⟨cl', hcl⟩ : ∃ c, c = out.getD q false := ⟨_, rfl⟩
              rw [← hcl] at hp hco
              have d1 := (HST.out.bel.cell (World.block_lt_of_cell? w _ hc1)).trans hc1
              have d2 := (HST.out.bel.cell (World.block_lt_of_cell? w _ hc2)).trans hc2
              have d3 := (HST.out.bel.cell (World.block_lt_of_cell? w _ hco)).trans hco
              have hwl : (nLine N.lines out (awayS N out b k) q).length = N.buses.length := by rw [nLine_len, awayS_len]
              have HIB := hide' (InB.line _ _ (InB.away out b hb16 k) _ : InB (nLine N.lines out (awayS N out b k) q))
              have HWL := hide' hwl
              have HP := hide' hp
              clear hct hc1 hc2 hco hp hte hfN htN hcl ht hbt hwl hbo
              cases cl' with
              | false =>
                go_wp2_with fail
                refine wp_region_tail (fun W => W.cell? ⟨w.heap.size, 2, none⟩ = some (.slice (some ⟨bt, ot, none⟩) N.lines.length cl) ∧ W.cell? ⟨bt, ot + q * 5 + 1, none⟩ = some (.int .i64 (fN : Int)) ∧ W.cell? ⟨bt, ot + q * 5 + 2, none⟩ = some (.int .i64 (tN : Int))) 13 (by kernel_rfl) ?_
                refine wpAnyD_takeAt 0 (some 48) (v := ?_) rfl (by kernel_rfl) (by kernel_rfl) (by kernel_rfl) (by kernel_rfl) (by kernel_rfl) (fun _ _ _ h => h) (by exact ⟨c5, d1, d2⟩) (fun o hop => ?_) ?_
                rotate_left
                · injection hop with hop
                  subst hop
                  refine ⟨rfl, fun W hW => ?_⟩
                  obtain ⟨s0, s1, s2⟩ := hW
                  go_simp
                  first
                  | rfl
                  | rw [if_neg (by omega)]
                try simp only [Act.put, List.setIfInBounds_toArray, List.set_cons_zero, List.set_cons_succ]
                refine wpAnyD_takeAt 1 (some 49) (v := ?_) rfl (by kernel_rfl) (by kernel_rfl) (by kernel_rfl) (by kernel_rfl) (by kernel_rfl) (fun _ _ _ h => h) (by exact ⟨c5, d1, d2⟩) (fun o hop => ?_) ?_
                rotate_left
                · injection hop with hop
                  subst hop
                  refine ⟨rfl, fun W hW => ?_⟩
                  obtain ⟨s0, s1, s2⟩ := hW
                  go_simp
                  first
                  | rfl
                  | rw [if_neg (by omega)]
                try simp only [Act.put, List.setIfInBounds_toArray, List.set_cons_zero, List.set_cons_succ]
                refine wpAnyD_takeAt 2 (some 50) (v := ?_) rfl (by kernel_rfl) (by kernel_rfl) (by kernel_rfl) (by kernel_rfl) (by kernel_rfl) (fun _ _ _ h => h) (by exact ⟨c5, d1, d2⟩) (fun o hop => ?_) ?_
                rotate_left
                · injection hop with hop
                  subst hop
                  refine ⟨rfl, fun W hW => ?_⟩
                  obtain ⟨s0, s1, s2⟩ := hW
                  go_simp
                  first
                  | rfl
                  | rw [if_neg (by omega)]
                try simp only [Act.put, List.setIfInBounds_toArray, List.set_cons_zero, List.set_cons_succ]
                refine wpAnyD_takeAt 3 (some 51) (v := ?_) rfl (by kernel_rfl) (by kernel_rfl) (by kernel_rfl) (by kernel_rfl) (by kernel_rfl) (fun _ _ _ h => h) (by exact ⟨c5, d1, d2⟩) (fun o hop => ?_) ?_
                rotate_left
                · injection hop with hop
                  subst hop
                  refine ⟨rfl, fun W hW => ?_⟩
                  obtain ⟨s0, s1, s2⟩ := hW
                  go_simp
                  first
                  | rfl
                  | rw [if_neg (by omega)]
                try simp only [Act.put, List.setIfInBounds_toArray, List.set_cons_zero, List.set_cons_succ]
                refine wpAnyD_takeAt 4 (some 52) (v := ?_) rfl (by kernel_rfl) (by kernel_rfl) (by kernel_rfl) (by kernel_rfl) (by kernel_rfl) (fun _ _ _ h => h) (by exact ⟨c5, d1, d2⟩) (fun o hop => ?_) ?_
                rotate_left
                · injection hop with hop
                  subst hop
                  refine ⟨rfl, fun W hW => ?_⟩
                  obtain ⟨s0, s1, s2⟩ := hW
                  go_simp
                  first
                  | rfl
                  | rw [if_neg (by omega)]
                try simp only [Act.put, List.setIfInBounds_toArray, List.set_cons_zero, List.set_cons_succ]
                refine wpAnyD_takeAt 5 (some 53) (v := ?_) rfl (by kernel_rfl) (by kernel_rfl) (by kernel_rfl) (by kernel_rfl) (by kernel_rfl) (fun _ _ _ h => h) (by exact ⟨c5, d1, d2⟩) (fun o hop => ?_) ?_
                rotate_left
                · injection hop with hop
                  subst hop
                  refine ⟨rfl, fun W hW => ?_⟩
                  obtain ⟨s0, s1, s2⟩ := hW
                  go_simp
                  first
                  | rfl
                  | rw [if_neg (by omega)]
                try simp only [Act.put, List.setIfInBounds_toArray, List.set_cons_zero, List.set_cons_succ]
                refine wpAnyD_takeAt 6 (some 54) (v := ?_) rfl (by kernel_rfl) (by kernel_rfl) (by kernel_rfl) (by kernel_rfl) (by kernel_rfl) (fun _ _ _ h => h) (by exact ⟨c5, d1, d2⟩) (fun o hop => ?_) ?_
                rotate_left
                · injection hop with hop
                  subst hop
                  refine ⟨rfl, fun W hW => ?_⟩
                  obtain ⟨s0, s1, s2⟩ := hW
                  go_simp
                  first
                  | rfl
                  | rw [if_neg (by omega)]
                try simp only [Act.put, List.setIfInBounds_toArray, List.set_cons_zero, List.set_cons_succ]
                refine wpAnyD_takeAt 7 (some 55) (v := ?_) rfl (by kernel_rfl) (by kernel_rfl) (by kernel_rfl) (by kernel_rfl) (by kernel_rfl) (fun _ _ _ h => h) (by exact ⟨c5, d1, d2⟩) (fun o hop => ?_) ?_
                rotate_left
                · injection hop with hop
                  subst hop
                  refine ⟨rfl, fun W hW => ?_⟩
                  obtain ⟨s0, s1, s2⟩ := hW
                  go_simp
                  first
                  | rfl
                  | rw [if_neg (by omega)]
                try simp only [Act.put, List.setIfInBounds_toArray, List.set_cons_zero, List.set_cons_succ]
                refine wpAnyD_takeAt 8 (some 56) (v := ?_) rfl (by kernel_rfl) (by kernel_rfl) (by kernel_rfl) (by kernel_rfl) (by kernel_rfl) (fun _ _ _ h => h) (by exact ⟨c5, d1, d2⟩) (fun o hop => ?_) ?_
                rotate_left
                · injection hop with hop
                  subst hop
                  refine ⟨rfl, fun W hW => ?_⟩
                  obtain ⟨s0, s1, s2⟩ := hW
                  go_simp
                  first
                  | rfl
                  | rw [if_neg (by omega)]
                try simp only [Act.put, List.setIfInBounds_toArray, List.set_cons_zero, List.set_cons_succ]
                refine wpAnyD_takeAt 9 (some 57) (v := ?_) rfl (by kernel_rfl) (by kernel_rfl) (by kernel_rfl) (by kernel_rfl) (by kernel_rfl) (fun _ _ _ h => h) (by exact ⟨c5, d1, d2⟩) (fun o hop => ?_) ?_
                rotate_left
                · injection hop with hop
                  subst hop
                  refine ⟨rfl, fun W hW => ?_⟩
                  obtain ⟨s0, s1, s2⟩ := hW
                  go_simp
                  first
                  | rfl
                  | rw [if_neg (by omega)]
                try simp only [Act.put, List.setIfInBounds_toArray, List.set_cons_zero, List.set_cons_succ]
                refine wpAnyD_takeAt 10 (some 58) (v := ?_) rfl (by kernel_rfl) (by kernel_rfl) (by kernel_rfl) (by kernel_rfl) (by kernel_rfl) (fun _ _ _ h => h) (by exact ⟨c5, d1, d2⟩) (fun o hop => ?_) ?_
                rotate_left
                · injection hop with hop
                  subst hop
                  refine ⟨rfl, fun W hW => ?_⟩
                  obtain ⟨s0, s1, s2⟩ := hW
                  go_simp
                  first
                  | rfl
                  | rw [if_neg (by omega)]
                try simp only [Act.put, List.setIfInBounds_toArray, List.set_cons_zero, List.set_cons_succ]
                refine wpAnyD_takeAt 11 (some 59) (v := ?_) rfl (by kernel_rfl) (by kernel_rfl) (by kernel_rfl) (by kernel_rfl) (by kernel_rfl) (fun _ _ _ h => h) (by exact ⟨c5, d1, d2⟩) (fun o hop => ?_) ?_
                rotate_left
                · injection hop with hop
                  subst hop
                  refine ⟨rfl, fun W hW => ?_⟩
                  obtain ⟨s0, s1, s2⟩ := hW
                  go_simp
                  first
                  | rfl
                  | rw [if_neg (by omega)]
                try simp only [Act.put, List.setIfInBounds_toArray, List.set_cons_zero, List.set_cons_succ]
                refine wpAnyD_takeAt 12 (some 60) (v := ?_) rfl (by kernel_rfl) (by kernel_rfl) (by kernel_rfl) (by kernel_rfl) (by kernel_rfl) (fun _ _ _ h => h) (by exact ⟨c5, d1, d2⟩) (fun o hop => ?_) ?_
                rotate_left
                · injection hop with hop
                  subst hop
                  refine ⟨rfl, fun W hW => ?_⟩
                  obtain ⟨s0, s1, s2⟩ := hW
                  go_simp
                  first
                  | rfl
                  | rw [if_neg (by omega)]
                try simp only [Act.put, List.setIfInBounds_toArray, List.set_cons_zero, List.set_cons_succ]
                refine wpAnyT_one (i := 13) (by kernel_rfl) rfl rfl (fun K' hK => ?_)
                go_simp
                go_at_call 22
                refine (nearer_any _ N.buses.length fN tN (w.heap.size + 1) HWL.out hfl htl HIB.out wr.drew HST.out.hF).mono ?_
                rintro e w2 ⟨rfl, hF2, ho2⟩
                have HS2 : Hid (JSt w w2 (w.heap.size + 1) #[.string N.name, .slice ab N.buses.length cb, .slice (some ⟨bt, ot, none⟩) N.lines.length cl, .slice ag N.gens.length cg, .slice ad N.loads.length cd, .slice at' N.ties.length ct] (nLine N.lines out (awayS N out b k) (q + 1))) := by
                  rw [HP.out]
                  exact (HST.out.later (Below.refl _ wr).drew).only hF2 ho2
                refine hK.out _ _ (fun h => absurd rfl h) ?_
                clear hK K' hF2 ho2 c5 d1 d2 d3
                refine wpAnyT_done (by kernel_rfl) ?_ _
                go_wp2
                exact ⟨⟨q + 1, by go_num, by omega, HS2⟩, by simp [intOf]; omega⟩
              | true =>
                have HS2 : Hid (JSt w wr (w.heap.size + 1) #[.string N.name, .slice ab N.buses.length cb, .slice (some ⟨bt, ot, none⟩) N.lines.length cl, .slice ag N.gens.length cg, .slice ad N.loads.length cd, .slice at' N.ties.length ct] (nLine N.lines out (awayS N out b k) (q + 1))) := by
                  rw [HP.out]
                  exact HST.out
                go_wp2
                go_roundw
                case rel => exact ⟨q + 1, by go_num, by omega, HS2⟩
                case measure => simp [intOf]; omega
            · have hqn : q = N.lines.length := by omega
              subst hqn
              go_wp2_with fail
              go_loopw [11] (fun i wr => ∃ (q : Nat), i = .int .i64 q ∧ q ≤ N.ties.length ∧ Hid (JSt w wr (w.heap.size + 1) #[.string N.name, .slice ab N.buses.length cb, .slice al N.lines.length cl, .slice ag N.gens.length cg, .slice ad N.loads.length cd, .slice at' N.ties.length ct] (nTie N.ties (nLine N.lines out (awayS N out b k) N.lines.length) q))) (fun i _ => N.ties.length - (intOf i).toNat)
              case atStart => exact ⟨0, rfl, Nat.zero_le _, HST⟩
              case round =>
                clear HST c5 hq hql
                obtain ⟨q, rfl, hq, HST⟩ := hrel
                have c5 : wr.cell? ⟨w.heap.size, 5, none⟩ = some (.slice at' N.ties.length ct) := by simp only [World.cell?, HST.out.box]; rfl
                by_cases hql : q < N.ties.length
                · skip
                  obtain ⟨bt, ot, ct', ex, hbt, hct⟩ := row_elem (f := TieM.cells) (fun _ => rfl) HTI.out q hql (by decide)
                  cases ex
                  obtain ⟨t, ht⟩ : ∃ t, t = N.ties[q] := ⟨_, rfl⟩
                  rw [← ht] at hct
                  have hte := HE.out.ties t (by rw [ht]; exact List.getElem_mem hql)
                  have hc1 := hct 1 _ rfl
                  have hc2 := hct 2 _ rfl
                  have hco := hct 3 _ rfl
                  have hp : nTie N.ties (nLine N.lines out (awayS N out b k) N.lines.length) (q + 1) = if t.closed then nearerL (nTie N.ties (nLine N.lines out (awayS N out b k) N.lines.length) q) t.frm.toNat t.to.toNat else nTie N.ties (nLine N.lines out (awayS N out b k) N.lines.length) q := by
                    rw [nTie, List.getElem?_eq_getElem hql, ht]
                  obtain ⟨fN, hfN⟩ := Int.eq_ofNat_of_zero_le hte.1
                  obtain ⟨tN, htN⟩ := Int.eq_ofNat_of_zero_le hte.2.2.1
                  rw [hfN] at hc1
                  rw [htN] at hc2
                  rw [hfN, htN, Int.toNat_natCast, Int.toNat_natCast] at hp
                  have hfl : fN < N.buses.length := by omega
                  have htl : tN < N.buses.length := by omega
                  obtain ⟨cl', hcl⟩ : ∃ c, c = t.closed := ⟨_, rfl⟩
                  rw [← hcl] at hp hco
                  have d1 := (HST.out.bel.cell (World.block_lt_of_cell? w _ hc1)).trans hc1
                  have d2 := (HST.out.bel.cell (World.block_lt_of_cell? w _ hc2)).trans hc2
                  have d3 := (HST.out.bel.cell (World.block_lt_of_cell? w _ hco)).trans hco
                  have hwl : (nTie N.ties (nLine N.lines out (awayS N out b k) N.lines.length) q).length = N.buses.length := by rw [nTie_len, nLine_len, awayS_len]
                  have HIB := hide' (InB.tie _ (InB.line _ _ (InB.away out b hb16 k) _) _ : InB (nTie N.ties (nLine N.lines out (awayS N out b k) N.lines.length) q))
                  have HWL := hide' hwl
                  have HP := hide' hp
                  clear hct hc1 hc2 hco hp hte hfN htN hcl ht hbt hwl
                  cases cl' with
                  | true =>
                    go_wp2_with fail
                    refine wp_region_tail (fun W => W.cell? ⟨w.heap.size, 5, none⟩ = some (.slice (some ⟨bt, ot, none⟩) N.ties.length ct) ∧ W.cell? ⟨bt, ot + q * 4 + 1, none⟩ = some (.int .i64 (fN : Int)) ∧ W.cell? ⟨bt, ot + q * 4 + 2, none⟩ = some (.int .i64 (tN : Int))) 13 (by kernel_rfl) ?_
                    refine wpAnyD_takeAt 0 (some 75) (v := ?_) rfl (by kernel_rfl) (by kernel_rfl) (by kernel_rfl) (by kernel_rfl) (by kernel_rfl) (fun _ _ _ h => h) (by exact ⟨c5, d1, d2⟩) (fun o hop => ?_) ?_
                    rotate_left
                    · injection hop with hop
                      subst hop
                      refine ⟨rfl, fun W hW => ?_⟩
                      obtain ⟨s0, s1, s2⟩ := hW
                      go_simp
                      first
                      | rfl
                      | rw [if_neg (by omega)]
                    try simp only [Act.put, List.setIfInBounds_toArray, List.set_cons_zero, List.set_cons_succ]
                    refine wpAnyD_takeAt 1 (some 76) (v := ?_) rfl (by kernel_rfl) (by kernel_rfl) (by kernel_rfl) (by kernel_rfl) (by kernel_rfl) (fun _ _ _ h => h) (by exact ⟨c5, d1, d2⟩) (fun o hop => ?_) ?_
                    rotate_left
                    · injection hop with hop
                      subst hop
                      refine ⟨rfl, fun W hW => ?_⟩
                      obtain ⟨s0, s1, s2⟩ := hW
                      go_simp
                      first
                      | rfl
                      | rw [if_neg (by omega)]
                    try simp only [Act.put, List.setIfInBounds_toArray, List.set_cons_zero, List.set_cons_succ]
                    refine wpAnyD_takeAt 2 (some 77) (v := ?_) rfl (by kernel_rfl) (by kernel_rfl) (by kernel_rfl) (by kernel_rfl) (by kernel_rfl) (fun _ _ _ h => h) (by exact ⟨c5, d1, d2⟩) (fun o hop => ?_) ?_
                    rotate_left
                    · injection hop with hop
                      subst hop
                      refine ⟨rfl, fun W hW => ?_⟩
                      obtain ⟨s0, s1, s2⟩ := hW
                      go_simp
                      first
                      | rfl
                      | rw [if_neg (by omega)]
                    try simp only [Act.put, List.setIfInBounds_toArray, List.set_cons_zero, List.set_cons_succ]
                    refine wpAnyD_takeAt 3 (some 78) (v := ?_) rfl (by kernel_rfl) (by kernel_rfl) (by kernel_rfl) (by kernel_rfl) (by kernel_rfl) (fun _ _ _ h => h) (by exact ⟨c5, d1, d2⟩) (fun o hop => ?_) ?_
                    rotate_left
                    · injection hop with hop
                      subst hop
                      refine ⟨rfl, fun W hW => ?_⟩
                      obtain ⟨s0, s1, s2⟩ := hW
                      go_simp
                      first
                      | rfl
                      | rw [if_neg (by omega)]
                    try simp only [Act.put, List.setIfInBounds_toArray, List.set_cons_zero, List.set_cons_succ]
                    refine wpAnyD_takeAt 4 (some 79) (v := ?_) rfl (by kernel_rfl) (by kernel_rfl) (by kernel_rfl) (by kernel_rfl) (by kernel_rfl) (fun _ _ _ h => h) (by exact ⟨c5, d1, d2⟩) (fun o hop => ?_) ?_
                    rotate_left
                    · injection hop with hop
                      subst hop
                      refine ⟨rfl, fun W hW => ?_⟩
                      obtain ⟨s0, s1, s2⟩ := hW
                      go_simp
                      first
                      | rfl
                      | rw [if_neg (by omega)]
                    try simp only [Act.put, List.setIfInBounds_toArray, List.set_cons_zero, List.set_cons_succ]
                    refine wpAnyD_takeAt 5 (some 80) (v := ?_) rfl (by kernel_rfl) (by kernel_rfl) (by kernel_rfl) (by kernel_rfl) (by kernel_rfl) (fun _ _ _ h => h) (by exact ⟨c5, d1, d2⟩) (fun o hop => ?_) ?_
                    rotate_left
                    · injection hop with hop
                      subst hop
                      refine ⟨rfl, fun W hW => ?_⟩
                      obtain ⟨s0, s1, s2⟩ := hW
                      go_simp
                      first
                      | rfl
                      | rw [if_neg (by omega)]
                    try simp only [Act.put, List.setIfInBounds_toArray, List.set_cons_zero, List.set_cons_succ]
                    refine wpAnyD_takeAt 6 (some 81) (v := ?_) rfl (by kernel_rfl) (by kernel_rfl) (by kernel_rfl) (by kernel_rfl) (by kernel_rfl) (fun _ _ _ h => h) (by exact ⟨c5, d1, d2⟩) (fun o hop => ?_) ?_
                    rotate_left
                    · injection hop with hop
                      subst hop
                      refine ⟨rfl, fun W hW => ?_⟩
                      obtain ⟨s0, s1, s2⟩ := hW
                      go_simp
                      first
                      | rfl
                      | rw [if_neg (by omega)]
                    try simp only [Act.put, List.setIfInBounds_toArray, List.set_cons_zero, List.set_cons_succ]
                    refine wpAnyD_takeAt 7 (some 82) (v := ?_) rfl (by kernel_rfl) (by kernel_rfl) (by kernel_rfl) (by kernel_rfl) (by kernel_rfl) (fun _ _ _ h => h) (by exact ⟨c5, d1, d2⟩) (fun o hop => ?_) ?_
                    rotate_left
                    · injection hop with hop
                      subst hop
                      refine ⟨rfl, fun W hW => ?_⟩
                      obtain ⟨s0, s1, s2⟩ := hW
                      go_simp
                      first
                      | rfl
                      | rw [if_neg (by omega)]
                    try simp only [Act.put, List.setIfInBounds_toArray, List.set_cons_zero, List.set_cons_succ]
                    refine wpAnyD_takeAt 8 (some 83) (v := ?_) rfl (by kernel_rfl) (by kernel_rfl) (by kernel_rfl) (by kernel_rfl) (by kernel_rfl) (fun _ _ _ h => h) (by exact ⟨c5, d1, d2⟩) (fun o hop => ?_) ?_
                    rotate_left
                    · injection hop with hop
                      subst hop
                      refine ⟨rfl, fun W hW => ?_⟩
                      obtain ⟨s0, s1, s2⟩ := hW
                      go_simp
                      first
                      | rfl
                      | rw [if_neg (by omega)]
                    try simp only [Act.put, List.setIfInBounds_toArray, List.set_cons_zero, List.set_cons_succ]
                    refine wpAnyD_takeAt 9 (some 84) (v := ?_) rfl (by kernel_rfl) (by kernel_rfl) (by kernel_rfl) (by kernel_rfl) (by kernel_rfl) (fun _ _ _ h => h) (by exact ⟨c5, d1, d2⟩) (fun o hop => ?_) ?_
                    rotate_left
                    · injection hop with hop
                      subst hop
                      refine ⟨rfl, fun W hW => ?_⟩
                      obtain ⟨s0, s1, s2⟩ := hW
                      go_simp
                      first
                      | rfl
                      | rw [if_neg (by omega)]
                    try simp only [Act.put, List.setIfInBounds_toArray, List.set_cons_zero, List.set_cons_succ]
                    refine wpAnyD_takeAt 10 (some 85) (v := ?_) rfl (by kernel_rfl) (by kernel_rfl) (by kernel_rfl) (by kernel_rfl) (by kernel_rfl) (fun _ _ _ h => h) (by exact ⟨c5, d1, d2⟩) (fun o hop => ?_) ?_
                    rotate_left
                    · injection hop with hop
                      subst hop
                      refine ⟨rfl, fun W hW => ?_⟩
                      obtain ⟨s0, s1, s2⟩ := hW
                      go_simp
                      first
                      | rfl
                      | rw [if_neg (by omega)]
                    try simp only [Act.put, List.setIfInBounds_toArray, List.set_cons_zero, List.set_cons_succ]
                    refine wpAnyD_takeAt 11 (some 86) (v := ?_) rfl (by kernel_rfl) (by kernel_rfl) (by kernel_rfl) (by kernel_rfl) (by kernel_rfl) (fun _ _ _ h => h) (by exact ⟨c5, d1, d2⟩) (fun o hop => ?_) ?_
                    rotate_left
                    · injection hop with hop
                      subst hop
                      refine ⟨rfl, fun W hW => ?_⟩
                      obtain ⟨s0, s1, s2⟩ := hW
                      go_simp
                      first
                      | rfl
                      | rw [if_neg (by omega)]
                    try simp only [Act.put, List.setIfInBounds_toArray, List.set_cons_zero, List.set_cons_succ]
                    refine wpAnyD_takeAt 12 (some 87) (v := ?_) rfl (by kernel_rfl) (by kernel_rfl) (by kernel_rfl) (by kernel_rfl) (by kernel_rfl) (fun _ _ _ h => h) (by exact ⟨c5, d1, d2⟩) (fun o hop => ?_) ?_
                    rotate_left
                    · injection hop with hop
                      subst hop
                      refine ⟨rfl, fun W hW => ?_⟩
                      obtain ⟨s0, s1, s2⟩ := hW
                      go_simp
                      first
                      | rfl
                      | rw [if_neg (by omega)]
                    try simp only [Act.put, List.setIfInBounds_toArray, List.set_cons_zero, List.set_cons_succ]
                    refine wpAnyT_one (i := 13) (by kernel_rfl) rfl rfl (fun K' hK => ?_)
                    go_simp
                    go_at_call 22
                    refine (nearer_any _ N.buses.length fN tN (w.heap.size + 1) HWL.out hfl htl HIB.out wr.drew HST.out.hF).mono ?_
                    rintro e w2 ⟨rfl, hF2, ho2⟩
                    have HS2 : Hid (JSt w w2 (w.heap.size + 1) #[.string N.name, .slice ab N.buses.length cb, .slice al N.lines.length cl, .slice ag N.gens.length cg, .slice ad N.loads.length cd, .slice (some ⟨bt, ot, none⟩) N.ties.length ct] (nTie N.ties (nLine N.lines out (awayS N out b k) N.lines.length) (q + 1))) := by
                      rw [HP.out]
                      exact (HST.out.later (Below.refl _ wr).drew).only hF2 ho2
                    refine hK.out _ _ (fun h => absurd rfl h) ?_
                    clear hK K' hF2 ho2 c5 d1 d2 d3
                    refine wpAnyT_done (by kernel_rfl) ?_ _
                    go_wp2
                    exact ⟨⟨q + 1, by go_num, by omega, HS2⟩, by simp [intOf]; omega⟩
                  | false =>
                    have HS2 : Hid (JSt w wr (w.heap.size + 1) #[.string N.name, .slice ab N.buses.length cb, .slice al N.lines.length cl, .slice ag N.gens.length cg, .slice ad N.loads.length cd, .slice (some ⟨bt, ot, none⟩) N.ties.length ct] (nTie N.ties (nLine N.lines out (awayS N out b k) N.lines.length) (q + 1))) := by
                      rw [HP.out]
                      exact HST.out
                    go_wp2
                    go_roundw
                    case rel => exact ⟨q + 1, by go_num, by omega, HS2⟩
                    case measure => simp [intOf]; omega
                · have hqn : q = N.ties.length := by omega
                  subst hqn
                  have HS2 : Hid (JSt w wr (w.heap.size + 1) #[.string N.name, .slice ab N.buses.length cb, .slice al N.lines.length cl, .slice ag N.gens.length cg, .slice ad N.loads.length cd, .slice at' N.ties.length ct] (awayS N out b (k + 1))) := HST
                  go_wp2
                  go_roundw
                  case rel => exact ⟨k + 1, by go_num, by omega, HS2⟩
                  case measure => simp [intOf]; omega
        · have hkn : k = N.buses.length := by omega
          subst hkn
          go_wp2
          go_ret
          exact ⟨w.heap.size + 1, rfl, Nat.le_succ _, HST.out.hF, HST.out.bel⟩
end Go.Proofs.YtpbalclhdhjnoaaGreatDoor.Bar

namespace Go.Proofs.YtpbalclhdhjnoaaGreatDoor.Bar

/-- How far the k-th reached bus is. -/
def atK (s : Reach2) (k : Nat) : Int := s.1.getD (s.2.getD k 0).toNat 0
/-- The reached buses stand by how far they are; none is more than one hop farther than the i-th. -/
structure Lvl (s : Reach2) (i : Nat) : Prop where
  mono : ∀ j k, j ≤ k → k < s.2.length → atK s j ≤ atK s k
  near : i < s.2.length → ∀ k, k < s.2.length → atK s k ≤ atK s i + 1
theorem getD_app {l e : List Int} {k : Nat} (h : k < l.length) : (l ++ e).getD k 0 = l.getD k 0 := by
  rw [List.getD_eq_getElem?_getD, List.getElem?_append_left h, ← List.getD_eq_getElem?_getD]
theorem Lvl.visit {n : Nat} {links : List LinkM} {b : Int} {s : Reach2} {i : Nat} (h : Seen n links b s) (hl : Lvl s i) (hi : i < s.2.length) {u v : Nat} (hu : s.2.getD i 0 = (u : Int)) (hv : v < n) : Lvl (Bar.visit (u : Int) s (v : Int)) i ∧ (∀ k, k < s.2.length → atK (Bar.visit (u : Int) s (v : Int)) k = atK s k) := by
  unfold Bar.visit
  rw [Int.toNat_natCast, Int.toNat_natCast]
  split
  · next hc =>
    have hvl : v < s.1.length := by rw [h.good.len]; exact hv
    have hsame : ∀ k, k < s.2.length → atK (s.1.set v (s.1.getD u 0 + 1), s.2 ++ [(v : Int)]) k = atK s k := fun k hk => by
      obtain ⟨m0, m1⟩ := h.good.mem _ (getD_in hk).2
      unfold atK
      show (s.1.set v (s.1.getD u 0 + 1)).getD ((s.2 ++ [(v : Int)]).getD k 0).toNat 0 = _
      rw [getD_app hk, getD_set _ _ _ _ hvl, if_neg]
      intro e
      have hin := (h.inn v hv).2 (by
        have := (getD_in hk).2
        rw [show (v : Int) = s.2.getD k 0 by omega]
        exact this)
      exact hin hc
    have hlast : atK (s.1.set v (s.1.getD u 0 + 1), s.2 ++ [(v : Int)]) s.2.length = s.1.getD u 0 + 1 := by
      unfold atK
      show (s.1.set v (s.1.getD u 0 + 1)).getD ((s.2 ++ [(v : Int)]).getD s.2.length 0).toNat 0 = _
      have hlv : (s.2 ++ [(v : Int)]).getD s.2.length 0 = (v : Int) := by
        rw [List.getD_eq_getElem?_getD, List.getElem?_append_right (Nat.le_refl _), Nat.sub_self]
        rfl
      rw [hlv, Int.toNat_natCast, getD_set _ _ _ _ hvl, if_pos rfl]
    have hui : atK s i = s.1.getD u 0 := by unfold atK; rw [hu, Int.toNat_natCast]
    have hnear := hl.near hi
    refine ⟨⟨fun j k hjk hk => ?_, fun _ k hk => ?_⟩, hsame⟩
    · rw [List.length_append] at hk
      simp only [List.length_cons, List.length_nil] at hk
      by_cases e : k = s.2.length
      · by_cases e2 : j = s.2.length
        · rw [e, e2]; exact Int.le_refl _
        · rw [e, hlast, hsame j (by omega), ← hui]
          exact hnear j (by omega)
      · rw [hsame k (by omega), hsame j (by omega)]
        exact hl.mono j k hjk (by omega)
    · rw [List.length_append] at hk
      simp only [List.length_cons, List.length_nil] at hk
      rw [hsame i hi]
      by_cases e : k = s.2.length
      · rw [e, hlast, hui]; exact Int.le_refl _
      · rw [hsame k (by omega)]
        exact hnear k (by omega)
  · exact ⟨hl, fun _ _ => rfl⟩
theorem Lvl.fold {n : Nat} {links : List LinkM} {b : Int} (he : Ends n links) {i : Nat} {u : Nat} (hu : u < n) : ∀ (xs : List (LinkM × Int)) {s : Reach2}, Seen n links b s → Lvl s i → i < s.2.length → s.2.getD i 0 = (u : Int) → (∀ x ∈ xs, Adj links u x.2 ∧ 0 ≤ x.2 ∧ x.2 < n) →
    Lvl (xs.foldl (fun s x => Bar.visit u s x.2) s) i ∧ (∀ k, k < s.2.length → atK (xs.foldl (fun s x => Bar.visit u s x.2) s) k = atK s k)
  | [], _, _, hl, _, _, _ => ⟨hl, fun _ _ => rfl⟩
  | x :: r, s, h, hl, hi, hui, hx => by
    obtain ⟨ha, h0, h1⟩ := hx x (by simp)
    obtain ⟨v, hv⟩ := Int.eq_ofNat_of_zero_le h0
    have hvn : v < n := by omega
    rw [List.foldl_cons, hv]
    have hum : (u : Int) ∈ s.2 := by rw [← hui]; exact (getD_in hi).2
    have hs := h.visit hu hvn hum (by rw [← hv]; exact ha)
    obtain ⟨l1, l2⟩ := hl.visit h hi hui hvn
    obtain ⟨e, hp⟩ := visit_prefix (u : Int) s (v : Int)
    have hi2 : i < (Bar.visit (u : Int) s (v : Int)).2.length := by rw [hp, List.length_append]; omega
    obtain ⟨i1, i2⟩ := Lvl.fold he hu r hs l1 hi2 (by rw [hp, getD_app hi]; exact hui) (fun y hy => hx y (by simp [hy]))
    exact ⟨i1, fun k hk => (i2 k (by rw [hp, List.length_append]; omega)).trans (l2 k hk)⟩
/-- Next to the first i, none is farther by more than one hop. -/
def StepTo (links : List LinkM) (s : Reach2) (i : Nat) : Prop := ∀ j, j < i → j < s.2.length → ∀ v, Adj links (s.2.getD j 0) v → s.1.getD v.toNat 0 ≤ atK s j + 1
theorem bfs_step {n : Nat} {links : List LinkM} {b : Int} (he : Ends n links) : ∀ (f i : Nat) (s : Reach2), Seen n links b s → DoneTo links s i → Lvl s i → StepTo links s i → f + i = n + 1 → StepTo links (bfs links f i s) (n + 1)
  | 0, i, s, _, _, _, hst, hf => by rw [show n + 1 = i by omega]; exact hst
  | f + 1, i, s, h, hd, hl, hst, hf => by
    rw [bfs]
    split
    · next hlt =>
      obtain ⟨m0, m1⟩ := h.good.mem _ (getD_in hlt).2
      obtain ⟨u, hu⟩ := Int.eq_ofNat_of_zero_le m0
      have hun : u < n := by omega
      have hum : (u : Int) ∈ s.2 := by rw [← hu]; exact (getD_in hlt).2
      have hx : ∀ x ∈ onw links u, Adj links u x.2 ∧ 0 ≤ x.2 ∧ x.2 < n := fun x hx => ⟨⟨x.1, (onw_mem hx).1, (onw_mem hx).2⟩, onw_ends he x hx⟩
      obtain ⟨h1, h2⟩ := Seen.fold he hun (onw links u) h hum hx
      obtain ⟨l1, l2⟩ := Lvl.fold he hun (onw links u) h hl hlt hu hx
      obtain ⟨ext, hp⟩ := fold_pre (u : Int) (onw links u) s
      obtain ⟨t, ht⟩ : ∃ t, t = (onw links u).foldl (fun s x => Bar.visit u s x.2) s := ⟨_, rfl⟩
      have hrt : roundB links (s.2.getD i 0) s = t := by rw [hu, ht]; rfl
      rw [← ht] at h1 h2 l1 l2 hp
      rw [hrt]
      have hlen : s.2.length ≤ t.2.length := by rw [hp, List.length_append]; omega
      have hg : ∀ j, j < s.2.length → t.2.getD j 0 = s.2.getD j 0 := fun j hj => by rw [hp, getD_app hj]
      have hdn : DoneTo links t (i + 1) := fun j hj hjl v hv => by
        by_cases e : j = i
        · subst e
          rw [hg _ hlt, hu] at hv
          obtain ⟨l, hl1, hn⟩ := hv
          exact h2 (l, v) (mem_onw hl1 hn)
        · rw [hg j (by omega)] at hv
          rw [hp]
          exact List.mem_append_left _ (hd j (by omega) (by omega) v hv)
      refine bfs_step he f (i + 1) t h1 hdn ⟨l1.mono, fun hi1 k hk => ?_⟩ ?_ (by omega)
      · have a1 := l1.near (by omega) k hk
        have a2 := l1.mono i (i + 1) (by omega) hi1
        omega
      · intro j hj hjl v hv
        have hvt := hdn j hj hjl v hv
        obtain ⟨k, hk, hke⟩ := List.getElem_of_mem hvt
        have hkd : t.2.getD k 0 = v := by rw [List.getD_eq_getElem?_getD, List.getElem?_eq_getElem hk, hke]; rfl
        by_cases e : j = i
        · subst e
          have := l1.near (by omega) k hk
          unfold atK at this ⊢
          rw [hkd] at this
          exact this
        · have hj2 : j < s.2.length := by omega
          rw [hg j hj2] at hv
          have hvs := hd j (by omega) hj2 v hv
          obtain ⟨k2, hk2, hke2⟩ := List.getElem_of_mem hvs
          have hkd2 : s.2.getD k2 0 = v := by rw [List.getD_eq_getElem?_getD, List.getElem?_eq_getElem hk2, hke2]; rfl
          have a1 := hst j (by omega) hj2 v hv
          have a2 := l2 k2 hk2
          rw [l2 j hj2]
          unfold atK at a2
          rw [hg k2 hk2, hkd2] at a2
          rw [a2]
          exact a1
    · next hlt => exact fun j _ hj v hv => hst j (by omega) hj v hv
/-- Two buses next to each other differ by one hop at most. -/
theorem far_near {n : Nat} {links : List LinkM} (he : Ends n links) {b : Nat} (hb : b < n) {u v : Nat} (hu : u < n) (hju : (farL n links b).getD u 0 ≠ -1) (ha : Adj links (u : Int) (v : Int)) : (farL n links b).getD v 0 ≤ (farL n links b).getD u 0 + 1 := by
  have hstart : Lvl (start n (b : Int)) 0 := ⟨fun j k hjk hk => by
    have hk0 : k = 0 := by simp [Bar.start] at hk; omega
    have hj0 : j = 0 := by omega
    rw [hk0, hj0]; exact Int.le_refl _, fun _ k hk => by
    have hk0 : k = 0 := by simp [Bar.start] at hk; omega
    rw [hk0]; omega⟩
  have hs := bfs_seen he (n + 1) 0 _ (Seen.start (links := links) hb) (fun j hj => by omega) rfl
  have hst := bfs_step he (n + 1) 0 _ (Seen.start (links := links) hb) (fun j hj => by omega) hstart (fun j hj => by omega) rfl
  have hm := (hs.1.inn u hu).1 hju
  obtain ⟨k, hk, hke⟩ := List.getElem_of_mem hm
  have hkd : (bfs links (n + 1) 0 (start n (b : Int))).2.getD k 0 = (u : Int) := by rw [List.getD_eq_getElem?_getD, List.getElem?_eq_getElem hk, hke]; rfl
  have := hst k (by have := hs.1.good.le; omega) hk (v : Int) (by rw [hkd]; exact ha)
  unfold atK at this
  rw [hkd, Int.toNat_natCast, Int.toNat_natCast] at this
  exact this
end Go.Proofs.YtpbalclhdhjnoaaGreatDoor.Bar

namespace Go.Proofs.YtpbalclhdhjnoaaGreatDoor.Bar

def nears (l : List Int) (ps : List (Nat × Nat)) : List Int := ps.foldl (fun l p => nearerL l p.1 p.2) l
theorem nears_app (l : List Int) (ps qs : List (Nat × Nat)) : nears l (ps ++ qs) = nears (nears l ps) qs := by simp [nears]
theorem nTie_nears (ts : List TieM) (l : List Int) : ∀ k, nTie ts l k = nears l ((linksT ts k).map pr)
  | 0 => rfl
  | k + 1 => by
    have ih := nTie_nears ts l k
    rw [nTie, linksT]
    cases ts[k]? with
    | none => exact ih
    | some t =>
      show (if t.closed then nearerL (nTie ts l k) t.frm.toNat t.to.toNat else nTie ts l k) = nears l ((if t.closed then linksT ts k ++ [⟨true, (k : Int), t.frm, t.to⟩] else linksT ts k).map pr)
      by_cases hc : t.closed = true
      · rw [if_pos hc, if_pos hc, List.map_append, nears_app, ← ih]
        rfl
      · rw [if_neg hc, if_neg hc]
        exact ih
theorem nLine_nears (ls : List LineM) (out : List Bool) (l : List Int) : ∀ k, nLine ls out l k = nears l ((linksN ls out k).map pr)
  | 0 => rfl
  | k + 1 => by
    have ih := nLine_nears ls out l k
    rw [nLine, linksN]
    cases ls[k]? with
    | none => exact ih
    | some t =>
      show (if out.getD k false then nLine ls out l k else nearerL (nLine ls out l k) t.frm.toNat t.to.toNat) = nears l ((if out.getD k false then linksN ls out k else linksN ls out k ++ [⟨false, (k : Int), t.frm, t.to⟩]).map pr)
      by_cases hc : out.getD k false = true
      · rw [if_pos hc, if_pos hc]
        exact ih
      · rw [if_neg hc, if_neg hc, List.map_append, nears_app, ← ih]
        rfl
/-- No count is below T. -/
def Over (n : Nat) (T : Nat → Int) (l : List Int) : Prop := l.length = n ∧ ∀ j, j < n → T j ≤ l.getD j 0
theorem near_get {l : List Int} {a b : Nat} (ha : a < l.length) (hb : b < l.length) (j : Nat) : (nearerL l a b).getD j 0 = if l.getD b 0 + 1 < l.getD a 0 then (if a = j then l.getD b 0 + 1 else l.getD j 0) else if l.getD a 0 + 1 < l.getD b 0 then (if b = j then l.getD a 0 + 1 else l.getD j 0) else l.getD j 0 := by
  unfold nearerL
  by_cases h : l.getD b 0 + 1 < l.getD a 0
  · rw [if_pos h, if_pos h, getD_set _ _ _ _ ha]
  · rw [if_neg h, if_neg h]
    by_cases h2 : l.getD a 0 + 1 < l.getD b 0
    · rw [if_pos h2, if_pos h2, getD_set _ _ _ _ hb]
    · rw [if_neg h2, if_neg h2]
theorem near_facts {n : Nat} {T : Nat → Int} {l : List Int} (h : Over n T l) {a b : Nat} (ha : a < n) (hb : b < n) (hab : T a ≤ T b + 1) (hba : T b ≤ T a + 1) :
    Over n T (nearerL l a b) ∧ (∀ j, j < n → (nearerL l a b).getD j 0 ≤ l.getD j 0) ∧ (nearerL l a b).getD b 0 ≤ l.getD a 0 + 1 ∧ (nearerL l a b).getD a 0 ≤ l.getD b 0 + 1 := by
  have hla : a < l.length := by rw [h.1]; exact ha
  have hlb : b < l.length := by rw [h.1]; exact hb
  have hg := near_get hla hlb
  have h1 := h.2 a ha
  have h2 := h.2 b hb
  have key : ∀ j, j < n → T j ≤ (nearerL l a b).getD j 0 ∧ (nearerL l a b).getD j 0 ≤ l.getD j 0 := fun j hj => by
    have h3 := h.2 j hj
    rw [hg j]
    by_cases hc : l.getD b 0 + 1 < l.getD a 0
    · rw [if_pos hc]
      by_cases e : a = j
      · subst e; rw [if_pos rfl]; omega
      · rw [if_neg e]; exact ⟨h3, Int.le_refl _⟩
    · rw [if_neg hc]
      by_cases hc2 : l.getD a 0 + 1 < l.getD b 0
      · rw [if_pos hc2]
        by_cases e : b = j
        · subst e; rw [if_pos rfl]; omega
        · rw [if_neg e]; exact ⟨h3, Int.le_refl _⟩
      · rw [if_neg hc2]; exact ⟨h3, Int.le_refl _⟩
  refine ⟨⟨by rw [nearerL_len, h.1], fun j hj => (key j hj).1⟩, fun j hj => (key j hj).2, ?_, ?_⟩
  · rw [hg b]
    by_cases hc : l.getD b 0 + 1 < l.getD a 0
    · rw [if_pos hc]
      by_cases e : a = b
      · rw [if_pos e]; omega
      · rw [if_neg e]; omega
    · rw [if_neg hc]
      by_cases hc2 : l.getD a 0 + 1 < l.getD b 0
      · rw [if_pos hc2, if_pos rfl]; exact Int.le_refl _
      · rw [if_neg hc2]; omega
  · rw [hg a]
    by_cases hc : l.getD b 0 + 1 < l.getD a 0
    · rw [if_pos hc, if_pos rfl]; exact Int.le_refl _
    · rw [if_neg hc]
      by_cases hc2 : l.getD a 0 + 1 < l.getD b 0
      · rw [if_pos hc2]
        by_cases e : b = a
        · rw [if_pos e, e]; exact Int.le_refl _
        · rw [if_neg e]; omega
      · rw [if_neg hc2]; omega
def PairsT (n : Nat) (T : Nat → Int) (ps : List (Nat × Nat)) : Prop := ∀ p ∈ ps, p.1 < n ∧ p.2 < n ∧ T p.1 ≤ T p.2 + 1 ∧ T p.2 ≤ T p.1 + 1
theorem nears_facts {n : Nat} {T : Nat → Int} : ∀ (ps : List (Nat × Nat)) {l : List Int}, PairsT n T ps → Over n T l →
    Over n T (nears l ps) ∧ (∀ j, j < n → (nears l ps).getD j 0 ≤ l.getD j 0) ∧ ∀ p ∈ ps, (nears l ps).getD p.2 0 ≤ l.getD p.1 0 + 1 ∧ (nears l ps).getD p.1 0 ≤ l.getD p.2 0 + 1
  | [], l, _, h => ⟨h, fun _ _ => Int.le_refl _, fun p hp => by cases hp⟩
  | p :: r, l, hp, h => by
    obtain ⟨p1, p2, p3, p4⟩ := hp p (by simp)
    obtain ⟨h1, h2, h3, h4⟩ := near_facts h p1 p2 p3 p4
    obtain ⟨i1, i2, i3⟩ := nears_facts r (fun q hq => hp q (by simp [hq])) h1
    refine ⟨i1, fun j hj => Int.le_trans (i2 j hj) (h2 j hj), fun q hq => ?_⟩
    rcases List.mem_cons.1 hq with rfl | hq'
    · exact ⟨Int.le_trans (i2 _ p2) h3, Int.le_trans (i2 _ p1) h4⟩
    · obtain ⟨q1, q2, _, _⟩ := hp q (by simp [hq'])
      obtain ⟨a1, a4⟩ := i3 q hq'
      have a2 := h2 _ q1
      have a3 := h2 _ q2
      exact ⟨Int.le_trans a1 (Int.add_le_add_right a2 1), Int.le_trans a4 (Int.add_le_add_right a3 1)⟩
theorem lenTo_get (n : Nat) (j : Nat) (hj : j < n) : ∀ k, k ≤ n → (lenTo n k).getD j 0 = if j < k then (n : Int) else 0
  | 0, _ => by
    rw [lenTo, if_neg (by omega), List.getD_eq_getElem?_getD, List.getElem?_replicate, if_pos hj]
    rfl
  | k + 1, hk => by
    rw [lenTo, getD_set _ _ _ _ (by rw [lenTo_len]; omega), lenTo_get n j hj k (by omega)]
    by_cases e : k = j
    · subst e; rw [if_pos rfl, if_pos (by omega)]
    · rw [if_neg e]
      by_cases h : j < k
      · rw [if_pos h, if_pos (by omega)]
      · rw [if_neg h, if_neg (by omega)]
/-- The counts, sweep by sweep. -/
def awayI (n : Nat) (ps : List (Nat × Nat)) (b : Nat) : Nat → List Int
  | 0 => (lenTo n n).set b 0
  | k + 1 => nears (awayI n ps b k) ps
theorem away_service (N : NetM) (out : List Bool) (b : Nat) : ∀ k, awayS N out b k = awayI N.buses.length ((serviceL N out).map pr) b k
  | 0 => rfl
  | k + 1 => by
    rw [awayS, awayI, nTie_nears, nLine_nears, ← nears_app, away_service N out b k, serviceL, List.map_append]
theorem visit_keep (u v : Int) (s : Reach2) (j : Nat) (h : s.1.getD j 0 ≠ -1) : (Bar.visit u s v).1.getD j 0 = s.1.getD j 0 := by
  unfold Bar.visit
  split
  · next hc =>
    have hne : v.toNat ≠ j := fun e => h (by rw [← e]; exact hc)
    show (s.1.set v.toNat (s.1.getD u.toNat 0 + 1)).getD j 0 = _
    rw [List.getD_eq_getElem?_getD, List.getElem?_set_ne hne, ← List.getD_eq_getElem?_getD]
  · rfl
theorem fold_keep (u : Int) (j : Nat) : ∀ (xs : List (LinkM × Int)) (s : Reach2), s.1.getD j 0 ≠ -1 → (xs.foldl (fun s x => Bar.visit u s x.2) s).1.getD j 0 = s.1.getD j 0
  | [], _, _ => rfl
  | x :: r, s, h => by
    have h1 := visit_keep u x.2 s j h
    rw [List.foldl_cons, fold_keep u j r _ (by rw [h1]; exact h), h1]
theorem bfs_keep {links : List LinkM} : ∀ (f i : Nat) (s : Reach2) (j : Nat), s.1.getD j 0 ≠ -1 → (bfs links f i s).1.getD j 0 = s.1.getD j 0
  | 0, _, _, _, _ => rfl
  | f + 1, i, s, j, h => by
    rw [bfs]
    split
    · have h1 := fold_keep (s.2.getD i 0) j (onw links (s.2.getD i 0)) s h
      rw [bfs_keep f (i + 1) _ j (by rw [roundB, h1]; exact h), roundB, h1]
    · rfl
/-- What each count comes to: the search's, or how many buses there are where the bus is not joined. -/
def target (n : Nat) (links : List LinkM) (b j : Nat) : Int := if (farL n links b).getD j 0 = -1 then (n : Int) else (farL n links b).getD j 0
theorem awayI_spec {n : Nat} {links : List LinkM} (he : Ends n links) {b : Nat} (hb : b < n) (j : Nat) (hj : j < n) : (awayI n (links.map pr) b n).getD j 0 = target n links b j := by
  obtain ⟨f1, f2, f3⟩ := far_spec he hb
  have hadj : ∀ l ∈ links, ∃ u v : Nat, l.p = u ∧ l.q = v ∧ u < n ∧ v < n := fun l hl => by
    obtain ⟨h1, h2, h3, h4⟩ := he l hl
    obtain ⟨u, hu⟩ := Int.eq_ofNat_of_zero_le h1
    obtain ⟨v, hv⟩ := Int.eq_ofNat_of_zero_le h3
    exact ⟨u, v, hu, hv, by omega, by omega⟩
  have hT : ∀ u v : Nat, u < n → v < n → Adj links (u : Int) (v : Int) → target n links b v ≤ target n links b u + 1 := fun u v hu hv ha => by
    unfold target
    by_cases h1 : (farL n links b).getD u 0 = -1
    · rw [if_pos h1]
      have := f2 v hv
      split <;> omega
    · rw [if_neg h1]
      have h2 : (farL n links b).getD v 0 ≠ -1 := (f1 v hv).2 (((f1 u hu).1 h1).step ha)
      rw [if_neg h2]
      exact far_near he hb hu h1 ha
  have hp : PairsT n (target n links b) (links.map pr) := fun p hp => by
    obtain ⟨l, hl1, rfl⟩ := List.mem_map.1 hp
    obtain ⟨u, v, hu, hv, hun, hvn⟩ := hadj l hl1
    have ha : Adj links (u : Int) (v : Int) := ⟨l, hl1, nextOf_iff.2 (.inl ⟨hu, hv⟩)⟩
    simp only [pr, hu, hv, Int.toNat_natCast]
    exact ⟨hun, hvn, hT v u hvn hun ha.symm, hT u v hun hvn ha⟩
  have hq : ∀ u v : Nat, Adj links (u : Int) (v : Int) → (u, v) ∈ links.map pr ∨ (v, u) ∈ links.map pr := fun u v ⟨l, hl1, hn⟩ => by
    rcases nextOf_iff.1 hn with ⟨h1, h2⟩ | ⟨h1, h2⟩
    · refine .inl (List.mem_map.2 ⟨l, hl1, ?_⟩)
      simp [pr, h1, h2]
    · refine .inr (List.mem_map.2 ⟨l, hl1, ?_⟩)
      simp [pr, h1, h2]
  have hbl : b < (lenTo n n).length := by rw [lenTo_len]; exact hb
  have hzero : ∀ j, j < n → (awayI n (links.map pr) b 0).getD j 0 = if b = j then 0 else (n : Int) := fun j hj => by
    rw [awayI, getD_set _ _ _ _ hbl, lenTo_get n j hj n (Nat.le_refl _), if_pos hj]
  have hbz : (farL n links b).getD b 0 = 0 := by
    have h1 : (start n (b : Int)).1.getD b 0 = 0 := by
      show ((List.replicate n (-1 : Int)).set (b : Int).toNat 0).getD b 0 = 0
      rw [Int.toNat_natCast, getD_set _ _ _ _ (by simpa using hb), if_pos rfl]
    show (bfs links (n + 1) 0 (start n (b : Int))).1.getD b 0 = 0
    rw [bfs_keep (n + 1) 0 _ b (by rw [h1]; decide), h1]
  have hov : ∀ k, Over n (target n links b) (awayI n (links.map pr) b k) := by
    intro k
    induction k with
    | zero =>
      refine ⟨by rw [awayI, List.length_set, lenTo_len], fun j hj => ?_⟩
      rw [hzero j hj]
      by_cases e : b = j
      · subst e
        rw [if_pos rfl, target, if_neg (by omega)]; omega
      · rw [if_neg e]
        unfold target
        have := f2 j hj
        split <;> omega
    | succ k ih => exact (nears_facts _ hp ih).1
  have hup0 : ∀ k j, j < n → (awayI n (links.map pr) b k).getD j 0 ≤ (n : Int) := by
    intro k
    induction k with
    | zero =>
      intro j hj
      rw [hzero j hj]
      split <;> omega
    | succ k ih => exact fun j hj => Int.le_trans ((nears_facts _ hp (hov k)).2.1 j hj) (ih j hj)
  have hup : ∀ k j : Nat, j < n → (farL n links b).getD j 0 ≠ -1 → (farL n links b).getD j 0 ≤ (k : Int) → (awayI n (links.map pr) b k).getD j 0 ≤ (farL n links b).getD j 0 := by
    intro k
    induction k with
    | zero =>
      intro j hj hd hk
      rcases f3 j hj hd with ⟨h1, h2⟩ | ⟨u, hu, _, h2, h3⟩
      · rw [hzero j hj, if_pos (by omega), h2]; exact Int.le_refl _
      · have := f2 u hu
        omega
    | succ k ih =>
      intro j hj hd hk
      obtain ⟨_, g2, g3⟩ := nears_facts _ hp (hov k)
      by_cases hkk : (farL n links b).getD j 0 ≤ (k : Int)
      · exact Int.le_trans (g2 j hj) (ih j hj hd hkk)
      · rcases f3 j hj hd with ⟨h1, h0⟩ | ⟨u, hu, ha, h2, h3⟩
        · omega
        · have hw := ih u hu h2 (by omega)
          rcases hq u j ha with h | h
          · have := (g3 _ h).1
            show (nears _ _).getD j 0 ≤ _
            simp only at this
            omega
          · have := (g3 _ h).2
            show (nears _ _).getD j 0 ≤ _
            simp only at this
            omega
  have h1 := (hov n).2 j hj
  unfold target at h1 ⊢
  by_cases hd : (farL n links b).getD j 0 = -1
  · rw [if_pos hd] at h1 ⊢
    exact Int.le_antisymm (hup0 n j hj) h1
  · rw [if_neg hd] at h1 ⊢
    have := f2 j hj
    exact Int.le_antisymm (hup n j hj hd (by omega)) h1
end Go.Proofs.YtpbalclhdhjnoaaGreatDoor.Bar

namespace Go.Proofs.YtpbalclhdhjnoaaGreatDoor.Bar
open Go.RowKit Go.Shelf Doc

end Go.Proofs.YtpbalclhdhjnoaaGreatDoor.Bar

namespace Go.Proofs.YtpbalclhdhjnoaaGreatDoor.Bar

theorem far_self {n : Nat} (links : List LinkM) {b : Nat} (hb : b < n) : (farL n links b).getD b 0 = 0 := by
  have h1 : (start n (b : Int)).1.getD b 0 = 0 := by
    show ((List.replicate n (-1 : Int)).set (b : Int).toNat 0).getD b 0 = 0
    rw [Int.toNat_natCast, getD_set _ _ _ _ (by simpa using hb), if_pos rfl]
  show (bfs links (n + 1) 0 (start n (b : Int))).1.getD b 0 = 0
  rw [bfs_keep (n + 1) 0 _ b (by rw [h1]; decide), h1]
/-- The first link that leads on to a bus that is nearer by one hop. -/
def hopOn (links : List LinkM) (D : List Int) (u : Int) : Option (LinkM × Int) := (onw links u).find? (fun x => D.getD x.2.toNat 0 == D.getD u.toNat 0 - 1)
/-- The way: so many hops from a bus on. -/
def wayL (links : List LinkM) (D : List Int) : Nat → Int → List LinkM
  | 0, _ => []
  | k + 1, u => match hopOn links D u with
    | some x => x.1 :: wayL links D k x.2
    | none => []
/-- Nought hops away is the bus itself. -/
theorem far_zero {n : Nat} {links : List LinkM} (he : Ends n links) {b : Nat} (hb : b < n) {u : Nat} (hu : u < n) (hd : (farL n links b).getD u 0 = 0) : u = b := by
  obtain ⟨_, f2, f3⟩ := far_spec he hb
  rcases f3 u hu (by omega) with ⟨h1, _⟩ | ⟨v, hv, _, h2, h3⟩
  · omega
  · have := f2 v hv
    omega
/-- What a hop is looked for by. -/
def isHop (D : List Int) (a : Int) (x : LinkM × Int) : Bool := D.getD x.2.toNat 0 == D.getD a.toNat 0 - 1
/-- No link of these leads nearer. -/
def NoHop (links : List LinkM) (D : List Int) (a : Int) : Prop := (onw links a).find? (isHop D a) = none
theorem NoHop.nil (D : List Int) (a : Int) : NoHop [] D a := rfl
theorem NoHop.out {links : List LinkM} {D : List Int} {a : Int} (h : NoHop links D a) : hopOn links D a = none := h
end Go.Proofs.YtpbalclhdhjnoaaGreatDoor.Bar

namespace Go.Proofs.YtpbalclhdhjnoaaGreatDoor.Bar
open Go.RowKit Go.Shelf Doc

end Go.Proofs.YtpbalclhdhjnoaaGreatDoor.Bar

namespace Go.Proofs.YtpbalclhdhjnoaaGreatDoor.Bar
open Go.RowKit Go.Shelf Doc

def hopCells (x : LinkM) : List Value := [.bool x.tie, .int .i64 x.no]
theorem wayL_len (links : List LinkM) (D : List Int) : ∀ (k : Nat) (u : Int), (wayL links D k u).length ≤ k
  | 0, _ => Nat.le_refl _
  | k + 1, u => by
    rw [wayL]
    split
    · next x _ => have := wayL_len links D k x.2; simp; omega
    · simp
theorem service_ends {N : NetM} (he : EndsM N) (out : List Bool) : Ends N.buses.length (serviceL N out) := fun l hl => by
  rcases List.mem_append.1 hl with hl | hl
  · exact linksN_ends he out _ l hl
  · exact linksT_ends he _ l hl
/-- What the way is: hops, or a fault. -/
def WayIs (N : NetM) (out : List Bool) (a b : Int) (l : List LinkM) (code : Int) : Prop :=
  (¬ MayM N ∧ l = [] ∧ code = 14) ∨ (MayM N ∧ out.length ≠ N.lines.length ∧ l = [] ∧ code = 2) ∨
  (MayM N ∧ out.length = N.lines.length ∧ ¬ (0 ≤ a ∧ a < N.buses.length ∧ 0 ≤ b ∧ b < N.buses.length) ∧ l = [] ∧ code = 4) ∨
  (MayM N ∧ out.length = N.lines.length ∧ ∃ x y : Nat, a = x ∧ b = y ∧ x < N.buses.length ∧ y < N.buses.length ∧ (farL N.buses.length (serviceL N out) y).getD x 0 = -1 ∧ l = [] ∧ code = 10) ∨
  (MayM N ∧ out.length = N.lines.length ∧ ∃ x y : Nat, a = x ∧ b = y ∧ x < N.buses.length ∧ y < N.buses.length ∧ (farL N.buses.length (serviceL N out) y).getD x 0 ≠ -1 ∧ l = wayL (serviceL N out) (farL N.buses.length (serviceL N out) y) ((farL N.buses.length (serviceL N out) y).getD x 0).toNat x ∧ code = 0)
theorem WayIs.len {N : NetM} {out : List Bool} {a b : Int} {l : List LinkM} {code : Int} (h : WayIs N out a b l code) : l.length ≤ 1000 := by
  rcases h with ⟨_, rfl, _⟩ | ⟨_, _, rfl, _⟩ | ⟨_, _, _, rfl, _⟩ | ⟨_, _, _, _, _, _, _, _, _, rfl, _⟩ | ⟨hm, _, x, y, _, _, hx, hy, hd, rfl, _⟩
  · exact Nat.zero_le _
  · exact Nat.zero_le _
  · exact Nat.zero_le _
  · exact Nat.zero_le _
  · have h1 := wayL_len (serviceL N out) (farL N.buses.length (serviceL N out) y) ((farL N.buses.length (serviceL N out) y).getD x 0).toNat x
    have h2 := (far_spec (service_ends (MayM.ends hm) out) hy).2.1 x hx
    have h3 := hm.fits.1
    omega
end Go.Proofs.YtpbalclhdhjnoaaGreatDoor.Bar
