/- list. -/
import Derived.Test.YtnhddmcdmcpkeajW4
namespace Go.Proofs.Ytnhddmcdmcpkeaj
open Go.RowKit Go.Shelf

theorem step_make_own {P : Program} {ops : Array Oper} {o : Oper} {a : Act} {w : World} {K : Act → World → Prop} {Q : Exit → Act → World → Prop} {E : Prop}
    (hg : o.guard = none) (l c : Operand) (t : TypeId) (hop : o.op = Op.makeSlice t l c)
    (base : Nat) (e : TypeId) (i : TypeInfo) (z : Value) (size : Nat) (h1 : P.underlying t = some (.slice e)) (h2 : P.info? e = some i) (h3 : i.zero = some z) (h4 : i.size = size)
    (kl kc : IntKind) (C : Int) (n : Nat) (hl : a.eval l = .int kl 0) (hc : a.eval c = .int kc C) (hC : C = (n : Int)) (b2 : i.bytes * n ≤ 281474976710656) (b3 : n ≤ maxLen) (b4 : base ≤ w.heap.size)
    (hK : ∀ w', w'.ownsRow base e size (.slice (some ⟨w.heap.size, 0, none⟩) 0 n) 0 [] → w.grownBy w' none → K (a.put o.dst (.slice (some ⟨w.heap.size, 0, none⟩) 0 n)) w') :
    if Region.wanted o (yielded ops a.tmps) = true then Oper.wp P o a w K Q else E := by
  have hw : Region.wanted o (yielded ops a.tmps) = true := by simp [Region.wanted, hg]
  rw [if_pos hw]
  obtain ⟨w', hrun, r1, r2⟩ := run_make_own (P := P) w base t e i z size h1 h2 h3 h4 kl kc n b2 b3 b4
  subst hC
  unfold Oper.wp
  simp [execOp, hop, hl, hc, hrun, Result.andThen]
  exact hK _ r1 r2
def listOf (r0 r1 : Int) (L : Nat) : List Int := [r0, r1].take L
theorem arr_row {w : World} {R : Nat} {r0 r1 : Int} (h : w.heap[R]? = some (.cells #[.int .i64 r0, .int .i64 r1] 117 (0, 0))) {L : Nat} (hL : L ≤ 2) (c : Nat) : RowAt w (.slice (some ⟨R, 0, none⟩) L c) L 1 (ints (listOf r0 r1 L)) := by
  refine ⟨by unfold listOf; simp [ints]; omega, _, _, rfl, fun j u hj => ⟨R, 0, rfl, ?_⟩⟩
  have hjL : j < L := by have := (List.getElem?_eq_some_iff.1 hj).1; unfold listOf at this; simp [ints] at this; omega
  rw [Nat.zero_add, cells_at h j]
  unfold ints listOf at hj
  rw [List.getElem?_map, List.getElem?_take_of_lt hjL] at hj
  match j, hj with
  | 0, hj => simpa using hj
  | 1, hj => simpa using hj
  | j + 2, _ => omega
theorem Try.info3' : (Try.prog.info? 3).map (fun i => (i.zero, i.size, i.bytes)) = some (some (.int .i64 0), 1, 8) := by kernel_rfl
set_option maxRecDepth 100000 in
set_option maxHeartbeats 2000000 in
theorem list_any (r0 r1 : Int) (L : Nat) (hL : L ≤ 2) (w : World) : Calls Try.prog 66 #[.agg #[.int .i64 r0, .int .i64 r1], .int .i64 (L : Int)] w fun e w' => ∃ v, e = .returned v ∧ w'.ownsRow w.heap.size 3 1 v (listOf r0 r1 L).length (ints (listOf r0 r1 L)) ∧ Below w.heap.size w w' := by
  obtain ⟨i3, hi3, h30, h31, h32⟩ := info_parts Try.info3'
  go_enter Try.func66, Try.ntmps66
  go_upto_region 1 with fail
  have hqR := alloc_new w (.cells #[.int .i64 r0, .int .i64 r1] 117)
  have hb1 := below_al w (.cells #[.int .i64 r0, .int .i64 r1] 117)
  obtain ⟨w1, hw1⟩ : ∃ x, x = (w.alloc (.cells #[.int .i64 r0, .int .i64 r1] 117)) := ⟨_, rfl⟩
  rw [← hw1] at hqR hb1 ⊢
  obtain ⟨R, hnR⟩ : ∃ x, x = w.heap.size := ⟨_, rfl⟩
  have HNE : Hid (w.heap.size ≤ R) := by show _ ≤ _; omega
  rw [← hnR] at hqR
  rw [show (Value.pointer (some { block := w.heap.size, off := 0 })) = Value.pointer (some { block := R, off := 0 }) by rw [hnR]]
  have HQR := hide' hqR
  have HB1 := hide' hb1
  clear hqR hb1 hw1 hnR
  have hsl : ∀ W : World, (Instr.sliceAt 117 (.pointer (some ⟨R, 0, none⟩)) none (some (.int .i64 (L : Int))) none).run Try.prog W = .ok (.slice (some ⟨R, 0, none⟩) L 2) W := by
    intro W
    have h : L = 0 ∨ L = 1 ∨ L = 2 := by omega
    rcases h with rfl | rfl | rfl
    all_goals
      go_simp
  refine wp_region_tail (fun W => W.heap[R]? = some (.cells #[.int .i64 r0, .int .i64 r1] 117 (0, 0))) 5 (by kernel_rfl) ?_
  refine wpAnyT_letter (fun W => Below w1.heap.size w1 W) (Below.refl _ w1).drew ?_
  rintro z hbz
  have hz : z.heap[R]? = some (.cells #[.int .i64 r0, .int .i64 r1] 117 (0, 0)) := (hbz.block R (lt_heap HQR.out)).trans HQR.out
  refine wpAnyD_takeAt 0 (some 5) (v := ?_) rfl (by kernel_rfl) (by kernel_rfl) (by kernel_rfl) (by kernel_rfl) (by kernel_rfl) (fun _ _ _ h => h) (by exact hz) (fun o hop => ?_) ?_
  rotate_left
  · injection hop with hop
    subst hop
    refine ⟨rfl, fun W hW => ?_⟩
    have s0 := hW
    go_simp
    first
    | rfl
    | (constructor <;> rfl)
    | rw [if_neg (by omega)]
  try simp only [Act.put, List.setIfInBounds_toArray, List.set_cons_zero, List.set_cons_succ]
  refine wpAnyD_takeAt 2 (some 7) (v := ?_) rfl (by kernel_rfl) (by kernel_rfl) (by kernel_rfl) (by kernel_rfl) (by kernel_rfl) (fun _ _ _ h => h) (by exact hz) (fun o hop => ?_) ?_
  rotate_left
  · injection hop with hop
    subst hop
    refine ⟨rfl, fun W hW => ?_⟩
    have s0 := hW
    go_simp
    first
    | rfl
    | (constructor <;> rfl)
    | rw [if_neg (by omega)]
  try simp only [Act.put, List.setIfInBounds_toArray, List.set_cons_zero, List.set_cons_succ]
  refine wpAnyD_takeAt 3 (some 8) (v := ?_) rfl (by kernel_rfl) (by kernel_rfl) (by kernel_rfl) (by kernel_rfl) (by kernel_rfl) (fun _ _ _ h => h) (by exact hz) (fun o hop => ?_) ?_
  rotate_left
  · injection hop with hop
    subst hop
    refine ⟨rfl, fun W hW => ?_⟩
    have s0 := hW
    go_simp
    first
    | rfl
    | (constructor <;> rfl)
    | rw [if_neg (by omega)]
  try simp only [Act.put, List.setIfInBounds_toArray, List.set_cons_zero, List.set_cons_succ]
  refine wpAnyT_one (i := 1) (by kernel_rfl) rfl rfl (fun K' hK => ?_)
  refine step_make_own rfl _ _ 39 rfl w.heap.size 3 i3 (.int .i64 0) 1 Try.underlying39 hi3 h30 h31 .i64 .i64 _ L rfl rfl rfl (by rw [h32]; omega) (by unfold maxLen; omega) (Nat.le_trans HB1.out.size hbz.size) ?_
  intro z2 hown hgr
  have hb2 : Below z.heap.size z z2 := (Below.refl _ z).grown hgr (Nat.le_refl _) (fun k e => by cases e)
  have hz2 : z2.heap[R]? = some (.cells #[.int .i64 r0, .int .i64 r1] 117 (0, 0)) := (hb2.block R (lt_heap hz)).trans hz
  refine hK.out _ _ (fun _ => hz2) ?_
  clear hK K'
  simp only [Act.put, List.setIfInBounds_toArray]
  refine wpAnyT_one (i := 4) (by kernel_rfl) rfl rfl (fun K' hK => ?_)
  refine step_append_any rfl _ _ 39 rfl w.heap.size 3 i3 (.int .i64 0) 1 8 Try.underlying39 hi3 h30 h31 h32 rfl (by decide) _ 0 [] rfl hown _ L (ints (listOf r0 r1 L)) rfl (arr_row hz2 hL 2) (ints_one _) (by unfold maxLen; omega) (by omega) (Nat.le_trans (Nat.le_trans HB1.out.size hbz.size) hb2.size) ?_
  intro v z3 hown3 hgr3
  rw [Nat.zero_add, List.nil_append] at hown3
  have hlen : (listOf r0 r1 L).length = L := by unfold listOf; simp; omega
  have hbw : Below w.heap.size w z2 := (HB1.out.trans (hbz.mono HB1.out.size)).trans (hb2.mono (Nat.le_trans HB1.out.size hbz.size))
  have HF : Hid (z3.ownsRow w.heap.size 3 1 v (listOf r0 r1 L).length (ints (listOf r0 r1 L)) ∧ Below w.heap.size w z3) := ⟨by rw [hlen]; exact hown3, hbw.grown hgr3 hbw.size (own_at hown)⟩
  have hz3 : z3.heap[R]? = some (.cells #[.int .i64 r0, .int .i64 r1] 117 (0, 0)) := (hgr3.block R (lt_heap hz2) (fun e => by have h1 := lt_heap hz; have h2 : some R = some z.heap.size := e; have h3 := Option.some.inj h2; omega)).trans hz2
  refine hK.out _ _ (fun _ => hz3) ?_
  clear hK K'
  simp only [Act.put]
  refine wpAnyT_one (i := 5) (by kernel_rfl) rfl rfl (fun K' hK => ?_)
  go_simp
  refine hK.out _ _ (fun h => absurd rfl h) ?_
  clear hK K' hown hown3 hgr3 hz3 hz2 hz hb2 hbw hbz hgr
  refine wpAnyT_done (by kernel_rfl) ?_ _
  go_wp2_with fail
  go_ret
  exact ⟨_, rfl, HF.out⟩
end Go.Proofs.Ytnhddmcdmcpkeaj
