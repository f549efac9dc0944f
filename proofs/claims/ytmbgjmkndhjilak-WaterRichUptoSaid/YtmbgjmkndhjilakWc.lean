/- Numbers picked; tables of raw numbers. -/
import Derived.Test.YtmbgjmkndhjilakWb
namespace Go.Proofs.Ytmbgjmkndhjilak
open Go.RowKit Go.Shelf

theorem tmod_within (x : Int) (f : Nat) (hx : 0 ≤ x) (hf : 0 < f) : ∃ p : Nat, x.tmod f = (p : Int) ∧ p < f := by
  refine ⟨(x.tmod f).toNat, ?_, ?_⟩
  · have := Int.tmod_nonneg (f : Int) hx
    omega
  · have := Int.tmod_lt_of_pos x (b := (f : Int)) (by omega)
    omega
theorem picked_is (n : Int) (f : Nat) (h : I6 n) (hf : 0 < f) (hf1 : f ≤ 3000) :
    ∃ p : Nat, p < f ∧ ∀ w : World, Calls Try.prog 8 #[.int .i64 n, .int .i64 f] w fun e w' => e = .returned (.int .i64 (p : Int)) ∧ w' = w := by
  obtain ⟨h0, h1⟩ := h
  have hf0 : ((f : Int) == 0) = false := by simp; omega
  by_cases hn : n < 0
  · obtain ⟨p, hp, hlt⟩ := tmod_within (-(n + 1)) f (by omega) hf
    rw [Int.neg_tmod] at hp
    refine ⟨p, hlt, fun w => ?_⟩
    go_enter Try.func8, Try.ntmps8
    go_wp2
    go_ret
    exact ⟨by first | rfl | rw [hp], rfl⟩
  · obtain ⟨p, hp, hlt⟩ := tmod_within n f (by omega) hf
    refine ⟨p, hlt, fun w => ?_⟩
    go_enter Try.func8, Try.ntmps8
    go_wp2
    go_ret
    exact ⟨by first | rfl | rw [hp], rfl⟩
theorem made_int (n : Nat) : (madeCells (Value.int .i64 0).cells (n * 1)).toList = ints (List.replicate n 0) := by
  apply List.ext_getElem
  · simp [madeCells, ints]
  · intro i h1 h2
    simp [madeCells, Value.cells, Nat.mod_one, ints]
theorem ints_own {w : World} {B T n : Nat} {l : List Int} (h : w.heap[T]? = some (.cells (ints l).toArray 3 (0, 0))) (hs : B ≤ T) (hl : l.length = n) (hn : n ≤ 1000) : w.ownsRow B 3 1 (.slice (some ⟨T, 0, none⟩) n n) n (ints l) := by
  subst hl
  exact ⟨by simp [ints], .inr ⟨T, _, _, rfl, hs, h, Nat.le_refl _, by unfold maxLen; omega, by simp [ints], by rw [List.take_of_length_le (by simp [ints])]⟩⟩
theorem ints_set' (l : List Int) (j : Nat) (x : Int) : (ints l).toArray.setIfInBounds j (.int .i64 x) = (ints (l.set j x)).toArray := by
  rw [List.setIfInBounds_toArray]
  unfold ints
  rw [List.map_set]
set_option maxRecDepth 100000 in
set_option maxHeartbeats 4000000 in
theorem tableFrom_any (raw : List Int) (v : Value) (rows n of : Nat) (w : World) (hx : RowAt w v raw.length 1 (ints raw)) (hI : ∀ x ∈ raw, I6 x) (_hrl : raw.length ≤ 9000000000000000000) (hr : rows ≤ 8) (hn : n ≤ 2) (hof : 0 < of) (hof2 : of ≤ 3000) :
    Calls Try.prog 9 #[v, .int .i64 (rows : Int), .int .i64 (n : Int), .int .i64 (of : Int)] w fun e w' => ∃ (t : List (List Int)) (v' : Value), e = .returned v' ∧ t.length = rows ∧ (∀ l ∈ t, l.length = n ∧ ∀ x ∈ l, 0 ≤ x ∧ x < (of : Int)) ∧ StepsAt w' w.heap.size v' t ∧ Below w.heap.size w w' := by
  obtain ⟨i3, hi3, h30, h31, h32⟩ := info_parts Try.info3'
  obtain ⟨i23, hi23, h230, h231, h232⟩ := info_parts Try.info23'
  have HX := hide' hx
  have HI : Hid (∀ k, k < raw.length → I6 (raw.getD k 0)) := fun k hk => hI _ (by rw [List.getD_eq_getElem?_getD, List.getElem?_eq_getElem hk]; exact List.getElem_mem hk)
  obtain ⟨ar, cr, rfl⟩ := rowAt_slice hx
  clear hx hI
  go_enter Try.func9, Try.ntmps9
  go_wp2_with fail
  go_loopw [9, 10] (fun tv i wr => ∃ (k : Nat) (t : List (List Int)), i = .int .i64 k ∧ k ≤ rows ∧ Hid (t.length = k ∧ ∀ l ∈ t, l.length = n ∧ ∀ x ∈ l, 0 ≤ x ∧ x < (of : Int)) ∧ Hid (StepsAt wr w.heap.size tv t ∧ Below w.heap.size w wr)) (fun _ i _ => rows - (intOf i).toNat)
  case atStart => exact ⟨0, [], rfl, Nat.zero_le _, ⟨rfl, fun l hl => by cases hl⟩, StepsAt.nil _ _, Below.refl _ w⟩
  case round =>
    obtain ⟨k, t, rfl, hk, HT, HW⟩ := hrel
    by_cases hlt : k < rows
    · go_wp2_with (at_make; refine wpList_make_full _ rfl _ _ 23 rfl wr.heap.size 3 i3 (.int .i64 0) 1 Try.underlying23 hi3 h30 h31 .i64 .i64 _ _ n rfl rfl rfl rfl (by rw [h32]; omega) (by unfold maxLen; omega) (Nat.le_refl _) ?_; intro w3 hown3 hgr3; refine Still.go ?_)
      unfold Still
      have HG3 : Hid (w3.heap[wr.heap.size]? = some (.cells (ints (List.replicate n 0)).toArray 3 (0, 0))) := by
        rw [made_int] at hown3
        exact row_cells hown3
      have HB3 : Hid (Below wr.heap.size wr w3) := (Below.refl _ wr).grown hgr3 (Nat.le_refl _) (fun k e => by cases e)
      obtain ⟨G, hG⟩ : ∃ x, x = wr.heap.size := ⟨_, rfl⟩
      rw [← hG] at HG3
      rw [show (Value.slice (some { block := wr.heap.size, off := 0 }) n n) = Value.slice (some { block := G, off := 0 }) n n by rw [hG]]
      have HGG : Hid (wr.heap.size ≤ G) := by show _ ≤ _; omega
      have HSB : Hid (∀ W : World, ∀ y j, Below wr.heap.size wr W → Below wr.heap.size wr (W.setCell ⟨G, j, none⟩ y)) := fun W y j hb => hb.setCell (p := ⟨G, j, none⟩) HGG.out _
      clear hown3 hgr3 hG
      go_upto_block 2 with fail
      go_cut [12] from 20 to 45 (fun _ wc => ∃ l : List Int, Hid (l.length = n ∧ ∀ x ∈ l, 0 ≤ x ∧ x < (of : Int)) ∧ Hid (wc.heap[G]? = some (.cells (ints l).toArray 3 (0, 0)) ∧ Below wr.heap.size wr wc))
      case first =>
        have hp : IntKind.i64.wrap ((k : Int) * (n : Int)) = ((k * n : Nat) : Int) := by
          rw [Int.natCast_mul]
          have h1 : k * n ≤ 8 * 2 := Nat.mul_le_mul (by omega) hn
          have h2 : (k : Int) * (n : Int) = ((k * n : Nat) : Int) := (Int.natCast_mul k n).symm
          exact Go.IntWalk.i64_in _ (by rw [h2]; omega)
        have hkn : k * n ≤ 16 := Nat.mul_le_mul (show k ≤ 8 by omega) hn
        obtain ⟨p, hpq⟩ : ∃ x, x = k * n := ⟨_, rfl⟩
        rw [← hpq] at hp hkn
        clear hpq
        go_wp2_with fail
        go_loopw [12] (fun jv wq => ∃ (j : Nat) (l : List Int), jv = .int .i64 j ∧ j ≤ n ∧ Hid (l.length = n ∧ ∀ x ∈ l, 0 ≤ x ∧ x < (of : Int)) ∧ Hid (wq.heap[G]? = some (.cells (ints l).toArray 3 (0, 0)) ∧ Below wr.heap.size wr wq)) (fun jv _ => n - (intOf jv).toNat)
        case atStart => exact ⟨0, List.replicate n 0, rfl, Nat.zero_le _, ⟨List.length_replicate, fun x hx => by rw [(List.mem_replicate.1 hx).2]; omega⟩, HG3.out, HB3.out⟩
        case round =>
          obtain ⟨j, l, rfl, hj, HL, HG⟩ := hrel
          by_cases hjn : j < n
          · have hm2 : IntKind.i64.wrap ((p : Int) + (j : Int)) = ((p + j : Nat) : Int) := by
              rw [Int.natCast_add]
              exact Go.IntWalk.i64_in _ (by omega)
            obtain ⟨m, hm⟩ : ∃ x, x = p + j := ⟨_, rfl⟩
            rw [← hm] at hm2
            clear hm
            by_cases hmr : m < raw.length
            · obtain ⟨bt, ot, ct, ex, hct⟩ := ints_cell HX.out m hmr
              cases ex
              obtain ⟨q, hq, hpc⟩ := picked_is (raw.getD m 0) of (HI.out m hmr) hof hof2
              obtain ⟨x, hx⟩ : ∃ x, x = raw.getD m 0 := ⟨_, rfl⟩
              rw [← hx] at hct hpc
              have HPC := hide' hpc
              have hc1 := up_cell (HW.out.2.trans (HG.out.2.mono HW.out.2.size)) hct
              have hlj : j < (ints l).length := by unfold ints; rw [List.length_map, HL.out.1]; exact hjn
              have g0 : wr.cell? ⟨G, j, none⟩ = some ((ints l)[j]'hlj) := (cells_at HG.out.1 j).trans (by rw [List.getElem?_toArray, List.getElem?_eq_getElem hlj])
              obtain ⟨gv, hgv⟩ : ∃ x, x = (ints l)[j]'hlj := ⟨_, rfl⟩
              rw [← hgv] at g0
              have t0 := frozen_no HG.out.1 j
              have HN : Hid (∀ y, (wr.setCell ⟨G, j, none⟩ (.int .i64 y)).heap[G]? = some (.cells (ints (l.set j y)).toArray 3 (0, 0)) ∧ True) := fun y => ⟨by rw [set_any HG.out.1 j (.int .i64 y), ints_set'], trivial⟩
              have HNB := hide' (fun y => HSB.out wr y j HG.out.2)
              have HLS : Hid ((l.set j (q : Int)).length = n ∧ ∀ x ∈ l.set j (q : Int), 0 ≤ x ∧ x < (of : Int)) := ⟨by rw [List.length_set]; exact HL.out.1, fun y hy => by
                rcases List.mem_or_eq_of_mem_set hy with h | h
                · exact HL.out.2 y h
                · rw [h]; omega⟩
              clear hct hpc hx hgv hlj HG HL
              go_wp2_with fail
              refine (HPC.out _).mono ?_
              rintro e zz ⟨rfl, hzz⟩
              obtain rfl := hzz.symm
              go_wp2_with fail
              go_roundw
              case rel => exact ⟨j + 1, l.set j (q : Int), by go_num, by omega, HLS, (HN.out _).1, HNB.out _⟩
              case measure => simp [intOf]; omega
            · go_wp2_with fail
              go_roundw
              case rel => exact ⟨j + 1, l, by go_num, by omega, HL, HG⟩
              case measure => simp [intOf]; omega
          · go_wp2_with fail
            go_meet
            case rel => exact ⟨l, HL, HG⟩
      case rest =>
        obtain ⟨l, HL, HG⟩ := hcut
        have HS : Hid (StepsAt wc w.heap.size u9 t) := HW.out.1.below HG.out.2
        have HBW : Hid (Below w.heap.size w wc) := HW.out.2.trans (HG.out.2.mono HW.out.2.size)
        have HO : Hid (wc.ownsRow w.heap.size 3 1 (.slice (some ⟨G, 0, none⟩) n n) n (ints l)) := ints_own HG.out.1 (Nat.le_trans HW.out.2.size HGG.out) HL.out.1 (by omega)
        have HTK : Hid (t.length ≤ 8) := by have := HT.out.1; show _ ≤ _; omega
        clear HW HG HG3 HB3
        obtain ⟨vals, hvl, hva, hvr⟩ := HS.out
        have HVA := hide' (And.intro hvl (And.intro hva hvr))
        clear hvl hva hvr
        go_wp2_with (at_builtin; refine wpList_append_own _ rfl _ _ 27 rfl w.heap.size 23 i23 (.slice none 0 0) 1 24 Try.underlying27 hi23 h230 h231 h232 rfl (by decide) _ _ _ rfl (own_below HVA.out.2.1 (below_al _ _) (Nat.le_refl _)) ⟨wc.heap.size, 0, none⟩ 1 1 [.slice (some ⟨G, 0, none⟩) n n] rfl rfl (cell_one_new _ _ _) (one_cell rfl) (by have := HTK.out; unfold maxLen; omega) (by have := HTK.out; omega) (Nat.le_trans HBW.out.size (below_al _ _).size) ?_; intro v' w8 hown' hgrow _; refine Still.go ?_)
        unfold Still
        have HL2 := hide' HL.out
        have HNS : Hid (StepsAt w8 w.heap.size v' (t ++ [l]) ∧ Below w.heap.size w w8) := ⟨StepsAt.more HVA.out.1 HVA.out.2.1 HVA.out.2.2 (by rw [HL2.out.1]; exact HO.out) hown' rfl hgrow, (HBW.out.trans ((below_al _ _).mono HBW.out.size)).grown hgrow (Nat.le_trans HBW.out.size (below_al _ _).size) (own_at HVA.out.2.1)⟩
        have HNT : Hid ((t ++ [l]).length = k + 1 ∧ ∀ q ∈ t ++ [l], q.length = n ∧ ∀ x ∈ q, 0 ≤ x ∧ x < (of : Int)) := ⟨by rw [List.length_append, HT.out.1]; rfl, fun q hq => by
          rcases List.mem_append.1 hq with h | h
          · exact HT.out.2 q h
          · rw [List.mem_singleton.1 h]; exact HL2.out⟩
        clear hown' hgrow HVA HO HS HBW HL HL2 HT
        go_wp2_with fail
        go_roundw
        case rel => exact ⟨k + 1, t ++ [l], by go_num, by omega, HNT, HNS⟩
        case measure => simp [intOf]; omega
    · obtain rfl : k = rows := by omega
      go_wp2
      go_ret
      exact ⟨t, _, rfl, HT.out.1, HT.out.2, HW.out⟩
end Go.Proofs.Ytmbgjmkndhjilak
