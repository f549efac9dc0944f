/- The choices, one by one. -/
import Derived.Test.YtnhddmcdmcpkeajV3
namespace Go.Proofs.Ytnhddmcdmcpkeaj
open Go.RowKit Go.Shelf
attribute [local go_sem] Oper.semAt_some wide_fn wide_depth

section
variable {F : Fence} {n : Nat} {P : Program} {ops : Array Oper} {Q : Exit → Act → World → Prop} {md : Region.Mode} {S : World → Prop} {tl : Nat}
/-- Pass number i over, that is not wanted. -/
theorem wpAnyU_skipAt (i : Nat) (d : Option Tmp) {fuel : Nat} {listed : Array Bool} {a : Act} {w : World} (hro : noDefer ops = true) (hd : (ops[i]?).map Oper.dst = some d)
    (hs : Region.noSelect ops = true) (hf : Region.free md ops listed i = true) (hr : (Region.ready md ops listed).contains i = true) (hsh : shutB md ops listed = true) (hwt : deep md ops i ops.size tl = true)
    (hQ : ∀ c a w, Q (.panic c) (a.put d undef) w → Q (.panic c) a w) (hS : S w) (hab : ∀ o, ops[i]? = some o → ∀ w, o.about P w a.eval = none)
    (hy : ∀ o, ops[i]? = some o → Region.wanted o (yielded ops a.tmps) = false)
    (h : wpAnyU F n P md ops Q S tl fuel (listed.setIfInBounds i true) (a.put d undef) w) : wpAnyU F n P md ops Q S tl (fuel + 1) listed a w := by
  cases ho : ops[i]? with
  | none => rw [ho] at hd; cases hd
  | some oi =>
    rw [ho] at hd
    have e : oi.dst = d := by simpa using hd
    subst e
    exact wpAnyU_first hro ho (Region.noSelect_spec hs) hQ hwt fuel listed a w (shutB_spec hsh) (Region.free_spec ho hf) (by simpa using hr) ⟨Or.inr ⟨hy oi ho, rfl⟩, hab oi ho⟩ hS h
end
/-- All cells but those of one block lie as they lay. -/
def KeptC (T : Nat) (A B : World) : Prop := A.heap.size ≤ B.heap.size ∧ ∀ (k : Nat) (c : Array Value) (e : TypeId) (fz : Nat × Nat), k ≠ T → A.heap[k]? = some (.cells c e fz) → B.heap[k]? = some (.cells c e fz)
theorem KeptC.refl (T : Nat) (A : World) : KeptC T A A := ⟨Nat.le_refl _, fun _ _ _ _ _ h => h⟩
theorem KeptC.trans {T : Nat} {A B C : World} (h : KeptC T A B) (k : KeptC T B C) : KeptC T A C := ⟨Nat.le_trans h.1 k.1, fun i c e f hi hc => k.2 i c e f hi (h.2 i c e f hi hc)⟩
def choA (m1 j : Nat) : Pair2 := ⟨((j / (m1 + 1) : Nat) : Int), ((j % (m1 + 1) : Nat) : Int)⟩
def choL (m0 m1 : Nat) : List Pair2 := (List.range ((m0 + 1) * (m1 + 1))).map (choA m1)
def choV (x : Pair2) : Array Value := #[.agg #[.int .i64 x.a, .int .i64 x.b]]
/-- The place at work, c of its digits turned back. -/
def choS (a b : Nat) (c : Nat) : Array Value := match c with
  | 0 => #[.int .i64 (a : Int), .int .i64 (b : Int)]
  | 1 => #[.int .i64 (a : Int), .int .i64 0]
  | _ => #[.int .i64 0, .int .i64 0]
theorem cho_snoc (m1 j : Nat) : (List.range j).map (choA m1) ++ [choA m1 j] = (List.range (j + 1)).map (choA m1) := by rw [List.range_succ, List.map_append]; rfl
theorem cho_prefix (m1 : Nat) {j n : Nat} (h : j < n) : (List.range (j + 1)).map (choA m1) <+: (List.range n).map (choA m1) := by
  have e : (List.range n).take (j + 1) = List.range (j + 1) := by rw [List.take_range, Nat.min_eq_left (by omega)]
  rw [← e, List.map_take]
  exact List.take_prefix _ _
theorem div_step {j m a b : Nat} (ha : a = j / (m + 1)) (hb : b = j % (m + 1)) (h : b < m) : a = (j + 1) / (m + 1) ∧ b + 1 = (j + 1) % (m + 1) := by
  have e : j = (m + 1) * a + b := by rw [ha, hb]; exact (Nat.div_add_mod _ _).symm
  have e2 : j + 1 = (b + 1) + (m + 1) * a := by omega
  rw [e2, Nat.add_mul_div_left _ _ (by omega), Nat.add_mul_mod_self_left, Nat.div_eq_of_lt (by omega), Nat.mod_eq_of_lt (by omega)]
  omega
theorem div_wrap {j m a b : Nat} (ha : a = j / (m + 1)) (hb : b = j % (m + 1)) (h : b = m) : a + 1 = (j + 1) / (m + 1) ∧ 0 = (j + 1) % (m + 1) ∧ j + 1 = (a + 1) * (m + 1) := by
  have e : j = (m + 1) * a + b := by rw [ha, hb]; exact (Nat.div_add_mod _ _).symm
  have e2 : j + 1 = (m + 1) * (a + 1) := by rw [Nat.mul_add]; omega
  refine ⟨by rw [e2, Nat.mul_div_cancel_left _ (by omega)], by rw [e2, Nat.mul_mod_right], by rw [e2, Nat.mul_comm]⟩
set_option maxRecDepth 100000 in
set_option maxHeartbeats 4000000 in
theorem choices_own (m0 m1 : Nat) (hm0 : m0 ≤ 4) (hm1 : m1 ≤ 4) (bb T : Nat) (w : World) (hT : T < w.heap.size) (hbT : bb ≠ T) (hb : w.heap[bb]? = some (.cells #[.int .i64 m0, .int .i64 m1] 117 (0, 0))) :
    SeqOwn Fence.wide 2 Try.prog 77 #[.pointer (some ⟨bb, 0, none⟩)] choV (KeptC T) (choL m0 m1) w := by
  intro l J W hW hJ hY h0
  have HJ := hide' hJ
  have hB : W.heap[bb]? = some (.cells #[.int .i64 m0, .int .i64 m1] 117 (0, 0)) := (hW.block bb (lt_heap hb)).trans hb
  have hbW := lt_heap hB
  have HBT := hide' hbT
  have hq := alloc_new W (.cells #[.int .i64 0, .int .i64 0] 117)
  have hB1 := (alloc_old W (.cells #[.int .i64 0, .int .i64 0] 117) hbW).trans hB
  have hJ1 := hJ.alloc (.cells #[.int .i64 0, .int .i64 0] 117) h0
  have hsz : (W.alloc (.cells #[.int .i64 0, .int .i64 0] 117)).heap.size = W.heap.size + 1 := by simp
  obtain ⟨R, hR⟩ : ∃ R, R = W.heap.size := ⟨_, rfl⟩
  have HNE : Hid (R ≠ bb ∧ R ≠ T ∧ W.heap.size ≤ R) := ⟨by omega, by have := hW.size; omega, by omega⟩
  rw [← hR] at hq
  have HW1 : Hid ((W.alloc (.cells #[.int .i64 0, .int .i64 0] 117)).heap[R]? = some (.cells #[.int .i64 0, .int .i64 0] 117 (0, 0)) ∧ (W.alloc (.cells #[.int .i64 0, .int .i64 0] 117)).heap[bb]? = some (.cells #[.int .i64 m0, .int .i64 m1] 117 (0, 0))) := ⟨hq, hB1⟩
  have HJ1 := hide' hJ1
  have HY := hide' hY
  clear hW hB hq hB1 hJ1 hb hJ hbW hY h0 hbT hT hsz
  refine callsIn_of_wp Try.func77 rfl trivial ?_ rfl
  simp only [Try.ntmps77, List.size_toArray, List.length_cons, List.length_nil, Nat.reduceAdd, Nat.reduceSub, Array.replicate_succ, Array.replicate_zero, List.push_toArray, List.append_toArray, List.nil_append, List.cons_append]
  gi_wp2_with fail
  rw [show (Value.pointer (some { block := W.heap.size, off := 0 })) = Value.pointer (some { block := R, off := 0 }) by rw [hR]]
  clear hR
  gi_loopg [4] ((m0 + 1) * (m1 + 1)) (fun g _ wr => ∃ (j a b : Nat), (m0 + 1) * (m1 + 1) - j ≤ g ∧ Hid (a = j / (m1 + 1)) ∧ Hid (b = j % (m1 + 1)) ∧ b ≤ m1 ∧ a ≤ m0 ∧ Hid (j < (m0 + 1) * (m1 + 1)) ∧ Hid (J ((List.range j).map (choA m1)) wr) ∧ Hid (wr.heap[R]? = some (.cells #[.int .i64 a, .int .i64 b] 117 (0, 0)) ∧ wr.heap[bb]? = some (.cells #[.int .i64 m0, .int .i64 m1] 117 (0, 0))))
  case atStart => exact ⟨0, 0, 0, Nat.le_refl _, by show _ = _; simp, by show _ = _; simp, Nat.zero_le _, Nat.zero_le _, Nat.mul_pos (by omega) (by omega), HJ1.out, HW1.out⟩
  case round =>
    obtain ⟨j, a, b, hg, HA, HB, hb, ha, HJL, HJP, HW⟩ := hrel
    have hpl : ((List.range j).map (choA m1) ++ [choA m1 j]) <+: choL m0 m1 := by rw [cho_snoc]; exact cho_prefix m1 HJL.out
    obtain ⟨fn, tmps, assign, body, hy, hR⟩ := HY.out _ (choA m1 j) wr HJP.out hpl
    have HR2 := hide' hR
    rw [cho_snoc] at HR2
    have hcv : choV (choA m1 j) = #[.agg #[.int .i64 (a : Int), .int .i64 (b : Int)]] := by unfold choV choA; rw [← HA.out, ← HB.out]
    rw [hcv] at hy
    have r0 : wr.cell? ⟨R, 0, none⟩ = some (.int .i64 a) := (cells_at HW.out.1 0).trans rfl
    have r1 : wr.cell? ⟨R, 1, none⟩ = some (.int .i64 b) := (cells_at HW.out.1 1).trans rfl
    clear hR hcv hpl
    gi_wp2_with fail
    refine HR2.out.mono ?_
    rintro e W3 ⟨rfl, hJ3, hk3⟩
    have HJ3 := hide' hJ3
    have HW3 : Hid (W3.heap[R]? = some (.cells #[.int .i64 a, .int .i64 b] 117 (0, 0)) ∧ W3.heap[bb]? = some (.cells #[.int .i64 m0, .int .i64 m1] 117 (0, 0))) := ⟨hk3.2 _ _ _ _ HNE.out.2.1 HW.out.1, hk3.2 _ _ _ _ HBT.out HW.out.2⟩
    clear hJ3 hk3 r0 r1 hy HR2 HJP HW
    gi_wp2_with fail
    gi_loopw [4] (fun iv wx => ∃ c : Nat, iv = .int .i64 (1 - (c : Int)) ∧ c ≤ 2 ∧ Hid ((c = 0 ∨ b = m1) ∧ (c ≤ 1 ∨ a = m0)) ∧ Hid (J ((List.range (j + 1)).map (choA m1)) wx) ∧ Hid (wx.heap[R]? = some (.cells (choS a b c) 117 (0, 0)) ∧ wx.heap[bb]? = some (.cells #[.int .i64 m0, .int .i64 m1] 117 (0, 0)))) (fun iv _ => (intOf iv + 1).toNat)
    case atStart => exact ⟨0, rfl, by omega, ⟨Or.inl rfl, Or.inl (by omega)⟩, HJ3, HW3⟩
    case round =>
      clear HJ3 HW3
      obtain ⟨c, rfl, hc, HCC, HJX, HWX⟩ := hrel
      have hc3 : c = 0 ∨ c = 1 ∨ c = 2 := by omega
      rcases hc3 with rfl | rfl | rfl
      · have k0 : wr.drew.cell? ⟨R, 1, none⟩ = some (.int .i64 b) := (cells_at (w := wr.drew) HWX.out.1 1).trans rfl
        have k1 : wr.drew.cell? ⟨bb, 1, none⟩ = some (.int .i64 m1) := (cells_at (w := wr.drew) HWX.out.2 1).trans rfl
        have g1 : wr.drew.cell? ⟨R, 1, none⟩ = some (.int .i64 b) := k0
        have f1 := frozen_no (w := wr.drew) HWX.out.1 1
        have HJD := hide' (HJ.out _ wr wr.drew none HJX.out (grown_of (Below.refl _ wr).drew) (fun r e => by cases e))
        have HSET : Hid (∀ x : Int, J ((List.range (j + 1)).map (choA m1)) (wr.drew.setCell ⟨R, 1, none⟩ (.int .i64 x)) ∧ (wr.drew.setCell ⟨R, 1, none⟩ (.int .i64 x)).heap[R]? = some (.cells #[.int .i64 a, .int .i64 x] 117 (0, 0)) ∧ (wr.drew.setCell ⟨R, 1, none⟩ (.int .i64 x)).heap[bb]? = some (.cells #[.int .i64 m0, .int .i64 m1] 117 (0, 0))) := fun x => ⟨HJ.out.set _ HJD.out HNE.out.2.2, (set_any (W := wr.drew) HWX.out.1 1 _).trans rfl, (Below.heap_setCell _ _ _ bb HNE.out.1.symm).trans HWX.out.2⟩
        simp only [Int.natCast_zero, Int.sub_zero]
        gi_wp2_with fail
        refine wpIn_region_U (fun W => W.cell? ⟨R, 1, none⟩ = some (.int .i64 b) ∧ W.cell? ⟨bb, 1, none⟩ = some (.int .i64 m1)) 10 (by kernel_rfl) ?_
        refine wpAnyU_takeAt 0 (some 8) (v := ?_) (by kernel_rfl) rfl (by kernel_rfl) (by kernel_rfl) (by kernel_rfl) (by kernel_rfl) (by kernel_rfl) (fun _ _ _ h => h) (by exact ⟨k0, k1⟩) (fun o hop w => by injection hop with hop; subst hop; rfl) (fun o hop => ?_) ?_
        rotate_left
        · injection hop with hop
          subst hop
          refine ⟨rfl, fun W hW => ?_⟩
          obtain ⟨s0, s1⟩ := hW
          go_simp
          first
          | done
          | rfl
        try simp only [Act.put, List.setIfInBounds_toArray, List.set_cons_zero, List.set_cons_succ]
        refine wpAnyU_takeAt 1 (some 9) (v := ?_) (by kernel_rfl) rfl (by kernel_rfl) (by kernel_rfl) (by kernel_rfl) (by kernel_rfl) (by kernel_rfl) (fun _ _ _ h => h) (by exact ⟨k0, k1⟩) (fun o hop w => by injection hop with hop; subst hop; rfl) (fun o hop => ?_) ?_
        rotate_left
        · injection hop with hop
          subst hop
          refine ⟨rfl, fun W hW => ?_⟩
          obtain ⟨s0, s1⟩ := hW
          go_simp
          first
          | done
          | rfl
        try simp only [Act.put, List.setIfInBounds_toArray, List.set_cons_zero, List.set_cons_succ]
        refine wpAnyU_takeAt 2 (some 10) (v := ?_) (by kernel_rfl) rfl (by kernel_rfl) (by kernel_rfl) (by kernel_rfl) (by kernel_rfl) (by kernel_rfl) (fun _ _ _ h => h) (by exact ⟨k0, k1⟩) (fun o hop w => by injection hop with hop; subst hop; rfl) (fun o hop => ?_) ?_
        rotate_left
        · injection hop with hop
          subst hop
          refine ⟨rfl, fun W hW => ?_⟩
          obtain ⟨s0, s1⟩ := hW
          go_simp
          first
          | done
          | rfl
        try simp only [Act.put, List.setIfInBounds_toArray, List.set_cons_zero, List.set_cons_succ]
        refine wpAnyU_takeAt 3 (some 11) (v := ?_) (by kernel_rfl) rfl (by kernel_rfl) (by kernel_rfl) (by kernel_rfl) (by kernel_rfl) (by kernel_rfl) (fun _ _ _ h => h) (by exact ⟨k0, k1⟩) (fun o hop w => by injection hop with hop; subst hop; rfl) (fun o hop => ?_) ?_
        rotate_left
        · injection hop with hop
          subst hop
          refine ⟨rfl, fun W hW => ?_⟩
          obtain ⟨s0, s1⟩ := hW
          go_simp
          first
          | done
          | rfl
        try simp only [Act.put, List.setIfInBounds_toArray, List.set_cons_zero, List.set_cons_succ]
        refine wpAnyU_takeAt 4 (some 12) (v := ?_) (by kernel_rfl) rfl (by kernel_rfl) (by kernel_rfl) (by kernel_rfl) (by kernel_rfl) (by kernel_rfl) (fun _ _ _ h => h) (by exact ⟨k0, k1⟩) (fun o hop w => by injection hop with hop; subst hop; rfl) (fun o hop => ?_) ?_
        rotate_left
        · injection hop with hop
          subst hop
          refine ⟨rfl, fun W hW => ?_⟩
          obtain ⟨s0, s1⟩ := hW
          go_simp
          first
          | done
          | rfl
        try simp only [Act.put, List.setIfInBounds_toArray, List.set_cons_zero, List.set_cons_succ]
        refine wpAnyU_takeAt 5 (some 13) (v := ?_) (by kernel_rfl) rfl (by kernel_rfl) (by kernel_rfl) (by kernel_rfl) (by kernel_rfl) (by kernel_rfl) (fun _ _ _ h => h) (by exact ⟨k0, k1⟩) (fun o hop w => by injection hop with hop; subst hop; rfl) (fun o hop => ?_) ?_
        rotate_left
        · injection hop with hop
          subst hop
          refine ⟨rfl, fun W hW => ?_⟩
          obtain ⟨s0, s1⟩ := hW
          go_simp
          first
          | done
          | rfl
        try simp only [Act.put, List.setIfInBounds_toArray, List.set_cons_zero, List.set_cons_succ]
        refine wpAnyU_takeAt 6 (some 14) (v := ?_) (by kernel_rfl) rfl (by kernel_rfl) (by kernel_rfl) (by kernel_rfl) (by kernel_rfl) (by kernel_rfl) (fun _ _ _ h => h) (by exact ⟨k0, k1⟩) (fun o hop w => by injection hop with hop; subst hop; rfl) (fun o hop => ?_) ?_
        rotate_left
        · injection hop with hop
          subst hop
          refine ⟨rfl, fun W hW => ?_⟩
          obtain ⟨s0, s1⟩ := hW
          go_simp
          first
          | done
          | rfl
        try simp only [Act.put, List.setIfInBounds_toArray, List.set_cons_zero, List.set_cons_succ]
        refine wpAnyU_takeAt 7 (some 15) (v := ?_) (by kernel_rfl) rfl (by kernel_rfl) (by kernel_rfl) (by kernel_rfl) (by kernel_rfl) (by kernel_rfl) (fun _ _ _ h => h) (by exact ⟨k0, k1⟩) (fun o hop w => by injection hop with hop; subst hop; rfl) (fun o hop => ?_) ?_
        rotate_left
        · injection hop with hop
          subst hop
          refine ⟨rfl, fun W hW => ?_⟩
          obtain ⟨s0, s1⟩ := hW
          go_simp
          first
          | done
          | rfl
        try simp only [Act.put, List.setIfInBounds_toArray, List.set_cons_zero, List.set_cons_succ]
        refine wpAnyU_takeAt 8 (some 16) (v := ?_) (by kernel_rfl) rfl (by kernel_rfl) (by kernel_rfl) (by kernel_rfl) (by kernel_rfl) (by kernel_rfl) (fun _ _ _ h => h) (by exact ⟨k0, k1⟩) (fun o hop w => by injection hop with hop; subst hop; rfl) (fun o hop => ?_) ?_
        rotate_left
        · injection hop with hop
          subst hop
          refine ⟨rfl, fun W hW => ?_⟩
          obtain ⟨s0, s1⟩ := hW
          go_simp
          first
          | done
          | rfl
        try simp only [Act.put, List.setIfInBounds_toArray, List.set_cons_zero, List.set_cons_succ]
        refine wpAnyU_takeAt 9 (some 17) (v := ?_) (by kernel_rfl) rfl (by kernel_rfl) (by kernel_rfl) (by kernel_rfl) (by kernel_rfl) (by kernel_rfl) (fun _ _ _ h => h) (by exact ⟨k0, k1⟩) (fun o hop w => by injection hop with hop; subst hop; rfl) (fun o hop => ?_) ?_
        rotate_left
        · injection hop with hop
          subst hop
          refine ⟨rfl, fun W hW => ?_⟩
          obtain ⟨s0, s1⟩ := hW
          go_simp
          first
          | done
          | rfl
        try simp only [Act.put, List.setIfInBounds_toArray, List.set_cons_zero, List.set_cons_succ]
        refine wpAnyU_one (i := 10) (by kernel_rfl) rfl rfl (fun K' hK => ?_)
        go_simp
        refine hK.out _ _ (fun h => absurd rfl h) ?_
        clear hK K'
        refine wpAnyU_done (by kernel_rfl) ?_ _
        clear k0 k1
        by_cases hbm : b < m1
        · obtain ⟨hd1, hd2⟩ := div_step HA.out HB.out hbm
          have HA2 := hide' hd1
          have HB2 := hide' hd2
          have HJ2 : Hid (j + 1 < (m0 + 1) * (m1 + 1)) := by
            show _ < _
            have e : j + 1 = (m1 + 1) * a + (b + 1) := by rw [hd1, hd2]; exact (Nat.div_add_mod _ _).symm
            have e3 : (m1 + 1) * a ≤ (m1 + 1) * m0 := Nat.mul_le_mul_left _ ha
            have e4 : (m0 + 1) * (m1 + 1) = (m1 + 1) * m0 + (m1 + 1) := by rw [Nat.add_mul, Nat.mul_comm, Nat.one_mul]
            omega
          clear hd1 hd2
          have hnb : ¬ (m1 : Int) ≤ (b : Int) := by omega
          have HN : Hid (J ((List.range (j + 1)).map (choA m1)) (wr.drew.setCell ⟨R, 1, none⟩ (.int .i64 ((b : Int) + 1))) ∧ (wr.drew.setCell ⟨R, 1, none⟩ (.int .i64 ((b : Int) + 1))).heap[R]? = some (.cells #[.int .i64 (a : Int), .int .i64 ((b + 1 : Nat) : Int)] 117 (0, 0)) ∧ (wr.drew.setCell ⟨R, 1, none⟩ (.int .i64 ((b : Int) + 1))).heap[bb]? = some (.cells #[.int .i64 m0, .int .i64 m1] 117 (0, 0))) := by
            have h := HSET.out ((b : Int) + 1)
            rw [show ((b + 1 : Nat) : Int) = (b : Int) + 1 from by omega]
            exact h
          clear HSET HJD HJX HWX
          gi_wp2_with fail
          gi_roundg ((m0 + 1) * (m1 + 1) - (j + 1))
          case measure => have := HJ2.out; omega
          case rel => exact ⟨j + 1, a, b + 1, Nat.le_refl _, HA2, HB2, by omega, ha, HJ2, HN.out.1, HN.out.2⟩
        · have hbe : b = m1 := by omega
          have hnb : (m1 : Int) ≤ (b : Int) := by omega
          have HN := hide' (HSET.out 0)
          clear HSET HJD HJX HWX
          gi_wp2_with fail
          go_roundw
          case rel => exact ⟨1, by go_num, by omega, ⟨Or.inr hbe, Or.inl (by omega)⟩, HN.out.1, HN.out.2⟩
          case measure => simp [intOf]
      · have HBE : Hid (b = m1) := by
          rcases HCC.out.1 with h | h
          · exact absurd h (by omega)
          · exact h
        have k0 : wr.drew.cell? ⟨R, 0, none⟩ = some (.int .i64 a) := (cells_at (w := wr.drew) HWX.out.1 0).trans rfl
        have k1 : wr.drew.cell? ⟨bb, 0, none⟩ = some (.int .i64 m0) := (cells_at (w := wr.drew) HWX.out.2 0).trans rfl
        have g1 : wr.drew.cell? ⟨R, 0, none⟩ = some (.int .i64 a) := k0
        have f1 := frozen_no (w := wr.drew) HWX.out.1 0
        have HJD := hide' (HJ.out _ wr wr.drew none HJX.out (grown_of (Below.refl _ wr).drew) (fun r e => by cases e))
        have HSET : Hid (∀ x : Int, J ((List.range (j + 1)).map (choA m1)) (wr.drew.setCell ⟨R, 0, none⟩ (.int .i64 x)) ∧ (wr.drew.setCell ⟨R, 0, none⟩ (.int .i64 x)).heap[R]? = some (.cells #[.int .i64 x, .int .i64 0] 117 (0, 0)) ∧ (wr.drew.setCell ⟨R, 0, none⟩ (.int .i64 x)).heap[bb]? = some (.cells #[.int .i64 m0, .int .i64 m1] 117 (0, 0))) := fun x => ⟨HJ.out.set _ HJD.out HNE.out.2.2, (set_any (W := wr.drew) HWX.out.1 0 _).trans rfl, (Below.heap_setCell _ _ _ bb HNE.out.1.symm).trans HWX.out.2⟩
        rw [show (1 : Int) - ((1 : Nat) : Int) = 0 from rfl]
        gi_wp2_with fail
        refine wpIn_region_U (fun W => W.cell? ⟨R, 0, none⟩ = some (.int .i64 a) ∧ W.cell? ⟨bb, 0, none⟩ = some (.int .i64 m0)) 10 (by kernel_rfl) ?_
        refine wpAnyU_takeAt 0 (some 8) (v := ?_) (by kernel_rfl) rfl (by kernel_rfl) (by kernel_rfl) (by kernel_rfl) (by kernel_rfl) (by kernel_rfl) (fun _ _ _ h => h) (by exact ⟨k0, k1⟩) (fun o hop w => by injection hop with hop; subst hop; rfl) (fun o hop => ?_) ?_
        rotate_left
        · injection hop with hop
          subst hop
          refine ⟨rfl, fun W hW => ?_⟩
          obtain ⟨s0, s1⟩ := hW
          go_simp
          first
          | done
          | rfl
        try simp only [Act.put, List.setIfInBounds_toArray, List.set_cons_zero, List.set_cons_succ]
        refine wpAnyU_takeAt 1 (some 9) (v := ?_) (by kernel_rfl) rfl (by kernel_rfl) (by kernel_rfl) (by kernel_rfl) (by kernel_rfl) (by kernel_rfl) (fun _ _ _ h => h) (by exact ⟨k0, k1⟩) (fun o hop w => by injection hop with hop; subst hop; rfl) (fun o hop => ?_) ?_
        rotate_left
        · injection hop with hop
          subst hop
          refine ⟨rfl, fun W hW => ?_⟩
          obtain ⟨s0, s1⟩ := hW
          go_simp
          first
          | done
          | rfl
        try simp only [Act.put, List.setIfInBounds_toArray, List.set_cons_zero, List.set_cons_succ]
        refine wpAnyU_takeAt 2 (some 10) (v := ?_) (by kernel_rfl) rfl (by kernel_rfl) (by kernel_rfl) (by kernel_rfl) (by kernel_rfl) (by kernel_rfl) (fun _ _ _ h => h) (by exact ⟨k0, k1⟩) (fun o hop w => by injection hop with hop; subst hop; rfl) (fun o hop => ?_) ?_
        rotate_left
        · injection hop with hop
          subst hop
          refine ⟨rfl, fun W hW => ?_⟩
          obtain ⟨s0, s1⟩ := hW
          go_simp
          first
          | done
          | rfl
        try simp only [Act.put, List.setIfInBounds_toArray, List.set_cons_zero, List.set_cons_succ]
        refine wpAnyU_takeAt 3 (some 11) (v := ?_) (by kernel_rfl) rfl (by kernel_rfl) (by kernel_rfl) (by kernel_rfl) (by kernel_rfl) (by kernel_rfl) (fun _ _ _ h => h) (by exact ⟨k0, k1⟩) (fun o hop w => by injection hop with hop; subst hop; rfl) (fun o hop => ?_) ?_
        rotate_left
        · injection hop with hop
          subst hop
          refine ⟨rfl, fun W hW => ?_⟩
          obtain ⟨s0, s1⟩ := hW
          go_simp
          first
          | done
          | rfl
        try simp only [Act.put, List.setIfInBounds_toArray, List.set_cons_zero, List.set_cons_succ]
        refine wpAnyU_takeAt 4 (some 12) (v := ?_) (by kernel_rfl) rfl (by kernel_rfl) (by kernel_rfl) (by kernel_rfl) (by kernel_rfl) (by kernel_rfl) (fun _ _ _ h => h) (by exact ⟨k0, k1⟩) (fun o hop w => by injection hop with hop; subst hop; rfl) (fun o hop => ?_) ?_
        rotate_left
        · injection hop with hop
          subst hop
          refine ⟨rfl, fun W hW => ?_⟩
          obtain ⟨s0, s1⟩ := hW
          go_simp
          first
          | done
          | rfl
        try simp only [Act.put, List.setIfInBounds_toArray, List.set_cons_zero, List.set_cons_succ]
        refine wpAnyU_takeAt 5 (some 13) (v := ?_) (by kernel_rfl) rfl (by kernel_rfl) (by kernel_rfl) (by kernel_rfl) (by kernel_rfl) (by kernel_rfl) (fun _ _ _ h => h) (by exact ⟨k0, k1⟩) (fun o hop w => by injection hop with hop; subst hop; rfl) (fun o hop => ?_) ?_
        rotate_left
        · injection hop with hop
          subst hop
          refine ⟨rfl, fun W hW => ?_⟩
          obtain ⟨s0, s1⟩ := hW
          go_simp
          first
          | done
          | rfl
        try simp only [Act.put, List.setIfInBounds_toArray, List.set_cons_zero, List.set_cons_succ]
        refine wpAnyU_takeAt 6 (some 14) (v := ?_) (by kernel_rfl) rfl (by kernel_rfl) (by kernel_rfl) (by kernel_rfl) (by kernel_rfl) (by kernel_rfl) (fun _ _ _ h => h) (by exact ⟨k0, k1⟩) (fun o hop w => by injection hop with hop; subst hop; rfl) (fun o hop => ?_) ?_
        rotate_left
        · injection hop with hop
          subst hop
          refine ⟨rfl, fun W hW => ?_⟩
          obtain ⟨s0, s1⟩ := hW
          go_simp
          first
          | done
          | rfl
        try simp only [Act.put, List.setIfInBounds_toArray, List.set_cons_zero, List.set_cons_succ]
        refine wpAnyU_takeAt 7 (some 15) (v := ?_) (by kernel_rfl) rfl (by kernel_rfl) (by kernel_rfl) (by kernel_rfl) (by kernel_rfl) (by kernel_rfl) (fun _ _ _ h => h) (by exact ⟨k0, k1⟩) (fun o hop w => by injection hop with hop; subst hop; rfl) (fun o hop => ?_) ?_
        rotate_left
        · injection hop with hop
          subst hop
          refine ⟨rfl, fun W hW => ?_⟩
          obtain ⟨s0, s1⟩ := hW
          go_simp
          first
          | done
          | rfl
        try simp only [Act.put, List.setIfInBounds_toArray, List.set_cons_zero, List.set_cons_succ]
        refine wpAnyU_takeAt 8 (some 16) (v := ?_) (by kernel_rfl) rfl (by kernel_rfl) (by kernel_rfl) (by kernel_rfl) (by kernel_rfl) (by kernel_rfl) (fun _ _ _ h => h) (by exact ⟨k0, k1⟩) (fun o hop w => by injection hop with hop; subst hop; rfl) (fun o hop => ?_) ?_
        rotate_left
        · injection hop with hop
          subst hop
          refine ⟨rfl, fun W hW => ?_⟩
          obtain ⟨s0, s1⟩ := hW
          go_simp
          first
          | done
          | rfl
        try simp only [Act.put, List.setIfInBounds_toArray, List.set_cons_zero, List.set_cons_succ]
        refine wpAnyU_takeAt 9 (some 17) (v := ?_) (by kernel_rfl) rfl (by kernel_rfl) (by kernel_rfl) (by kernel_rfl) (by kernel_rfl) (by kernel_rfl) (fun _ _ _ h => h) (by exact ⟨k0, k1⟩) (fun o hop w => by injection hop with hop; subst hop; rfl) (fun o hop => ?_) ?_
        rotate_left
        · injection hop with hop
          subst hop
          refine ⟨rfl, fun W hW => ?_⟩
          obtain ⟨s0, s1⟩ := hW
          go_simp
          first
          | done
          | rfl
        try simp only [Act.put, List.setIfInBounds_toArray, List.set_cons_zero, List.set_cons_succ]
        refine wpAnyU_one (i := 10) (by kernel_rfl) rfl rfl (fun K' hK => ?_)
        go_simp
        refine hK.out _ _ (fun h => absurd rfl h) ?_
        clear hK K'
        refine wpAnyU_done (by kernel_rfl) ?_ _
        clear k0 k1
        obtain ⟨hd1, hd2, hd3⟩ := div_wrap HA.out HB.out HBE.out
        have HA2 := hide' hd1
        have HB2 := hide' hd2
        have HD3 := hide' hd3
        clear hd1 hd2 hd3
        by_cases ham : a < m0
        · have HJ2 : Hid (j + 1 < (m0 + 1) * (m1 + 1)) := by
            show _ < _
            rw [HD3.out]
            exact Nat.mul_lt_mul_of_pos_right (by omega) (by omega)
          have hnb : ¬ (m0 : Int) ≤ (a : Int) := by omega
          have HN : Hid (J ((List.range (j + 1)).map (choA m1)) (wr.drew.setCell ⟨R, 0, none⟩ (.int .i64 ((a : Int) + 1))) ∧ (wr.drew.setCell ⟨R, 0, none⟩ (.int .i64 ((a : Int) + 1))).heap[R]? = some (.cells #[.int .i64 ((a + 1 : Nat) : Int), .int .i64 ((0 : Nat) : Int)] 117 (0, 0)) ∧ (wr.drew.setCell ⟨R, 0, none⟩ (.int .i64 ((a : Int) + 1))).heap[bb]? = some (.cells #[.int .i64 m0, .int .i64 m1] 117 (0, 0))) := by
            have h := HSET.out ((a : Int) + 1)
            rw [show ((a + 1 : Nat) : Int) = (a : Int) + 1 from by omega]
            exact h
          clear HSET HJD HJX HWX
          gi_wp2_with fail
          gi_roundg ((m0 + 1) * (m1 + 1) - (j + 1))
          case measure => have := HJ2.out; omega
          case rel => exact ⟨j + 1, a + 1, 0, Nat.le_refl _, HA2, HB2, by omega, by omega, HJ2, HN.out.1, HN.out.2⟩
        · have hae : a = m0 := by omega
          have hnb : (m0 : Int) ≤ (a : Int) := by omega
          have HN := hide' (HSET.out 0)
          have HE2 := hide' (And.intro HBE.out hae)
          clear HSET HJD HJX HWX hae
          gi_wp2_with fail
          go_roundw
          case rel => exact ⟨2, by go_num, by omega, ⟨Or.inr HE2.out.1, Or.inr HE2.out.2⟩, HN.out.1, HN.out.2⟩
          case measure => simp [intOf]
      · have hbe : b = m1 := by
          rcases HCC.out.1 with h | h
          · omega
          · exact h
        have hae : a = m0 := by
          rcases HCC.out.2 with h | h
          · omega
          · exact h
        obtain ⟨-, -, hd3⟩ := div_wrap HA.out HB.out hbe
        have HX : Hid (J (choL m0 m1) wr.drew) := by
          have h := HJ.out _ wr wr.drew none HJX.out (grown_of (Below.refl _ wr).drew) (fun r e => by cases e)
          rw [hd3, hae] at h
          exact h
        clear hd3 HJX HWX hbe hae
        rw [show (1 : Int) - ((2 : Nat) : Int) = -1 from rfl]
        gi_wp2_with fail
        refine wpIn_region_U (fun W => True ∧ True) 10 (by kernel_rfl) ?_
        refine wpAnyU_takeAt 0 (some 8) (v := ?_) (by kernel_rfl) rfl (by kernel_rfl) (by kernel_rfl) (by kernel_rfl) (by kernel_rfl) (by kernel_rfl) (fun _ _ _ h => h) (by exact ⟨trivial, trivial⟩) (fun o hop w => by injection hop with hop; subst hop; rfl) (fun o hop => ?_) ?_
        rotate_left
        · injection hop with hop
          subst hop
          refine ⟨rfl, fun W hW => ?_⟩
          obtain ⟨s0, s1⟩ := hW
          go_simp
          first
          | done
          | rfl
        try simp only [Act.put, List.setIfInBounds_toArray, List.set_cons_zero, List.set_cons_succ]
        refine wpAnyU_takeAt 1 (some 9) (v := ?_) (by kernel_rfl) rfl (by kernel_rfl) (by kernel_rfl) (by kernel_rfl) (by kernel_rfl) (by kernel_rfl) (fun _ _ _ h => h) (by exact ⟨trivial, trivial⟩) (fun o hop w => by injection hop with hop; subst hop; rfl) (fun o hop => ?_) ?_
        rotate_left
        · injection hop with hop
          subst hop
          refine ⟨rfl, fun W hW => ?_⟩
          obtain ⟨s0, s1⟩ := hW
          go_simp
          first
          | done
          | rfl
        try simp only [Act.put, List.setIfInBounds_toArray, List.set_cons_zero, List.set_cons_succ]
        refine wpAnyU_takeAt 2 (some 10) (v := ?_) (by kernel_rfl) rfl (by kernel_rfl) (by kernel_rfl) (by kernel_rfl) (by kernel_rfl) (by kernel_rfl) (fun _ _ _ h => h) (by exact ⟨trivial, trivial⟩) (fun o hop w => by injection hop with hop; subst hop; rfl) (fun o hop => ?_) ?_
        rotate_left
        · injection hop with hop
          subst hop
          refine ⟨rfl, fun W hW => ?_⟩
          obtain ⟨s0, s1⟩ := hW
          go_simp
          first
          | done
          | rfl
        try simp only [Act.put, List.setIfInBounds_toArray, List.set_cons_zero, List.set_cons_succ]
        refine wpAnyU_skipAt 3 (some 11) (by kernel_rfl) rfl (by kernel_rfl) (by kernel_rfl) (by kernel_rfl) (by kernel_rfl) (by kernel_rfl) (fun _ _ _ h => h) (by exact ⟨trivial, trivial⟩) (fun o hop w => by injection hop with hop; subst hop; rfl) (fun o hop => by injection hop with hop; subst hop; rfl) ?_
        try simp only [Act.put, List.setIfInBounds_toArray, List.set_cons_zero, List.set_cons_succ]
        refine wpAnyU_skipAt 4 (some 12) (by kernel_rfl) rfl (by kernel_rfl) (by kernel_rfl) (by kernel_rfl) (by kernel_rfl) (by kernel_rfl) (fun _ _ _ h => h) (by exact ⟨trivial, trivial⟩) (fun o hop w => by injection hop with hop; subst hop; rfl) (fun o hop => by injection hop with hop; subst hop; rfl) ?_
        try simp only [Act.put, List.setIfInBounds_toArray, List.set_cons_zero, List.set_cons_succ]
        refine wpAnyU_skipAt 5 (some 13) (by kernel_rfl) rfl (by kernel_rfl) (by kernel_rfl) (by kernel_rfl) (by kernel_rfl) (by kernel_rfl) (fun _ _ _ h => h) (by exact ⟨trivial, trivial⟩) (fun o hop w => by injection hop with hop; subst hop; rfl) (fun o hop => by injection hop with hop; subst hop; rfl) ?_
        try simp only [Act.put, List.setIfInBounds_toArray, List.set_cons_zero, List.set_cons_succ]
        refine wpAnyU_skipAt 6 (some 14) (by kernel_rfl) rfl (by kernel_rfl) (by kernel_rfl) (by kernel_rfl) (by kernel_rfl) (by kernel_rfl) (fun _ _ _ h => h) (by exact ⟨trivial, trivial⟩) (fun o hop w => by injection hop with hop; subst hop; rfl) (fun o hop => by injection hop with hop; subst hop; rfl) ?_
        try simp only [Act.put, List.setIfInBounds_toArray, List.set_cons_zero, List.set_cons_succ]
        refine wpAnyU_skipAt 7 (some 15) (by kernel_rfl) rfl (by kernel_rfl) (by kernel_rfl) (by kernel_rfl) (by kernel_rfl) (by kernel_rfl) (fun _ _ _ h => h) (by exact ⟨trivial, trivial⟩) (fun o hop w => by injection hop with hop; subst hop; rfl) (fun o hop => by injection hop with hop; subst hop; rfl) ?_
        try simp only [Act.put, List.setIfInBounds_toArray, List.set_cons_zero, List.set_cons_succ]
        refine wpAnyU_skipAt 8 (some 16) (by kernel_rfl) rfl (by kernel_rfl) (by kernel_rfl) (by kernel_rfl) (by kernel_rfl) (by kernel_rfl) (fun _ _ _ h => h) (by exact ⟨trivial, trivial⟩) (fun o hop w => by injection hop with hop; subst hop; rfl) (fun o hop => by injection hop with hop; subst hop; rfl) ?_
        try simp only [Act.put, List.setIfInBounds_toArray, List.set_cons_zero, List.set_cons_succ]
        refine wpAnyU_skipAt 9 (some 17) (by kernel_rfl) rfl (by kernel_rfl) (by kernel_rfl) (by kernel_rfl) (by kernel_rfl) (by kernel_rfl) (fun _ _ _ h => h) (by exact ⟨trivial, trivial⟩) (fun o hop w => by injection hop with hop; subst hop; rfl) (fun o hop => by injection hop with hop; subst hop; rfl) ?_
        try simp only [Act.put, List.setIfInBounds_toArray, List.set_cons_zero, List.set_cons_succ]
        refine wpAnyU_one (i := 10) (by kernel_rfl) rfl rfl (fun K' hK => ?_)
        go_simp
        refine hK.out _ _ (fun h => absurd rfl h) ?_
        clear hK K'
        refine wpAnyU_done (by kernel_rfl) ?_ _
        gi_wp2
        refine bodyPost_ret (results_none rfl _ _ _) rfl ?_
        exact ⟨⟨_, rfl⟩, HX.out⟩
end Go.Proofs.Ytnhddmcdmcpkeaj
