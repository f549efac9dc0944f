/- The program's iterator: its contract. -/
import Derived.Test.YtjcpcjickdcpmacGreatDoorKBr0
import Derived.Test.YtjcpcjickdcpmacGreatDoorKTail3
import Derived.Deep.QuietTactic
import Derived.BigQuiet
namespace Go.Proofs.YtjcpcjickdcpmacGreatDoor.Bar
open Go.RowKit Go.Shelf Doc
attribute [local go_sem] Oper.semAt_some wide_fn wide_depth

/-- These blocks lie as they lay. -/
def KeptB (bs : List Nat) (W W' : World) : Prop := W.heap.size ≤ W'.heap.size ∧ ∀ k ∈ bs, W'.heap[k]? = W.heap[k]?
theorem KeptB.refl (bs : List Nat) (W : World) : KeptB bs W W := ⟨Nat.le_refl _, fun _ _ => rfl⟩
theorem KeptB.trans {bs : List Nat} {A B C : World} (h : KeptB bs A B) (k : KeptB bs B C) : KeptB bs A C := ⟨Nat.le_trans h.1 k.1, fun i hi => (k.2 i hi).trans (h.2 i hi)⟩
theorem KeptB.below {bs : List Nat} {A B : World} {n : Nat} (h : Below n A B) (hn : ∀ k ∈ bs, k < n) : KeptB bs A B := ⟨h.size, fun k hk => h.block k (hn k hk)⟩
theorem KeptB.cell {bs : List Nat} {A B : World} (h : KeptB bs A B) {b o : Nat} (hb : b ∈ bs) : B.cell? ⟨b, o, none⟩ = A.cell? ⟨b, o, none⟩ := World.cell?_of_block (h.2 b hb)
theorem KeptB.putObj {bs : List Nat} {A : World} {l : Nat} (o : Obj) (hl : l ∉ bs) : KeptB bs A (A.putObj l o) := ⟨by simp, fun _ hk => World.putObj_heap_other (fun e => hl (e ▸ hk))⟩

theorem grown_of {A B : World} (h : Below A.heap.size A B) : A.grownBy B none := ⟨h.os, h.tape, h.output, h.size, fun k hk _ => h.block k hk⟩
theorem next_side {l : LinkM} {u : Int} : (side l u = -1 ∧ nextOf l u = none) ∨ (side l u = 0 ∧ nextOf l u = some l.q) ∨ (side l u = 1 ∧ nextOf l u = some l.p) := by
  unfold side nextOf
  by_cases h1 : l.p = u
  · right; left; rw [if_pos h1, if_pos h1]; exact ⟨rfl, rfl⟩
  · rw [if_neg h1, if_neg h1]
    by_cases h2 : l.q = u
    · right; right; rw [if_pos h2, if_pos h2]; exact ⟨rfl, rfl⟩
    · left; rw [if_neg h2, if_neg h2]; exact ⟨rfl, rfl⟩
theorem onw_none {l : LinkM} {r : List LinkM} {u : Int} (h : nextOf l u = none) : onw (l :: r) u = onw r u := by rw [onw, h]
theorem onw_some {l : LinkM} {r : List LinkM} {u v : Int} (h : nextOf l u = some v) : onw (l :: r) u = (l, v) :: onw r u := by rw [onw, h]
/-- The k-th link's cells. -/
theorem link_elem {w : World} {a : Option Addr} {cap : Nat} {xs : List LinkM} (h : RowAt w (.slice a xs.length cap) xs.length 4 (xs.flatMap LinkM.cells)) (k : Nat) (hk : k < xs.length) :
    ∃ b off, a = some ⟨b, off, none⟩ ∧ ∀ j u, (xs[k].cells)[j]? = some u → w.cell? ⟨b, off + k * 4 + j, none⟩ = some u := by
  obtain ⟨-, a', c', e, hc⟩ := h
  cases e
  have e0 := flat_get LinkM.cells 4 (fun _ => rfl) xs k 0 hk (by decide)
  obtain ⟨b, off, rfl, hc0⟩ := hc _ _ (e0.trans rfl)
  refine ⟨b, off, rfl, fun j u hj => ?_⟩
  have hjs : j < 4 := (List.getElem?_eq_some_iff.1 hj).1
  have e := flat_get LinkM.cells 4 (fun _ => rfl) xs k j hk hjs
  rw [hj] at e
  obtain ⟨b', off', e1, hc1⟩ := hc _ _ e
  cases e1
  rwa [Nat.add_assoc]
/-- A link and where it leads. -/
abbrev Lead (links : List LinkM) (u : Int) : Type := { x : LinkM × Int // x ∈ onw links u }
def leadV {links : List LinkM} {u : Int} (x : Lead links u) : Array Value := #[.agg #[.bool x.1.1.tie, .int .i64 x.1.1.no], .int .i64 x.1.2]

set_option maxRecDepth 100000 in
set_option maxHeartbeats 2000000 in
theorem onward1_stops (links : List LinkM) (hlen : links.length ≤ 1000) (nb : Int) (a : Option Addr) (cap : Nat) (u : Int) (bg bb : Nat) (bs : List Nat) (hbg : bg ∈ bs) (hbb : bb ∈ bs) (hbl : ∀ b o, a = some ⟨b, o, none⟩ → 0 < links.length → b ∈ bs) (w0 : World) (hbs : ∀ k ∈ bs, k < w0.heap.size)
    (hg : w0.heap[bg]? = some (.cells #[.int .i64 nb, .slice a links.length cap] 58 (0, 0))) (hu : w0.cell? ⟨bb, 0, none⟩ = some (.int .i64 u)) (hr : RowAt w0 (.slice a links.length cap) links.length 4 (links.flatMap LinkM.cells)) :
    SeqStopsK Fence.wide 2 Tryz.prog 21 #[.pointer (some ⟨bg, 0, none⟩), .pointer (some ⟨bb, 0, none⟩)] (leadV (links := links) (u := u)) (KeptB bs) (fun xs => xs.map (·.1) = onw links u) (fun pre => ∃ rest, pre.map (·.1) ++ rest = onw links u) links.length w0 := by
  intro l J Jx W hW hJ hJx hY h0
  have hg1 : W.cell? ⟨bg, 1, none⟩ = some (.slice a links.length cap) := by
    rw [hW.cell (p := ⟨bg, 1, none⟩) (hbs bg hbg)]
    simp only [World.cell?, hg]; rfl
  have HW0 : Hid (KeptB bs w0 W) := KeptB.below hW hbs
  have HU := hide' hu
  have HR := hide' hr
  have HJ := hide' hJ
  have HBS := hide' hbs
  clear hg hW hu hr hbs
  refine callsIn_of_wp Tryz.func21 rfl trivial ?_ rfl
  simp only [Tryz.ntmps21, List.size_toArray, List.length_cons, List.length_nil, Nat.reduceAdd, Nat.reduceSub, Array.replicate_succ, Array.replicate_zero, List.push_toArray, List.append_toArray, List.nil_append, List.cons_append]
  gi_wp2
  gi_loopw [10] (fun i wr => ∃ (k : Nat) (pre : List (Lead links u)), i = .int .i64 k ∧ k ≤ links.length ∧ pre.length ≤ k ∧ Hid (pre.map (·.1) ++ onw (links.drop k) u = onw links u) ∧ Hid (J pre wr) ∧ Hid (KeptB bs w0 wr)) (fun i _ => links.length - (intOf i).toNat)
  case atStart => exact ⟨0, [], rfl, by omega, by simp, (by show _ = _; simp), h0, HW0⟩
  case round =>
    clear HW0 hg1
    obtain ⟨k, pre, rfl, hk, hpl, HP, HJp, HK⟩ := hrel
    by_cases hlt : k < links.length
    · obtain ⟨b, off, ea, hce⟩ := link_elem HR.out k hlt
      obtain ⟨x, hx⟩ : ∃ x, x = links[k] := ⟨_, rfl⟩
      have hbm := hbl b off ea (by omega)
      subst ea
      rw [← hx] at hce
      have e0 : wr.cell? ⟨b, off + k * 4, none⟩ = some (.bool x.tie) := (HK.out.cell hbm).trans (hce 0 _ rfl)
      have e1 : wr.cell? ⟨b, off + k * 4 + 1, none⟩ = some (.int .i64 x.no) := (HK.out.cell hbm).trans (hce 1 _ rfl)
      have e2 : wr.cell? ⟨b, off + k * 4 + 2, none⟩ = some (.int .i64 x.p) := (HK.out.cell hbm).trans (hce 2 _ rfl)
      have e3 : wr.cell? ⟨b, off + k * 4 + 3, none⟩ = some (.int .i64 x.q) := (HK.out.cell hbm).trans (hce 3 _ rfl)
      have hub : wr.cell? ⟨bb, 0, none⟩ = some (.int .i64 u) := (HK.out.cell hbb).trans HU.out
      have HD : Hid (onw (links.drop k) u = onw (x :: links.drop (k + 1)) u) := by
        show _ = _
        rw [List.drop_eq_getElem_cons hlt, ← hx]
      clear hce hx hbm
      gi_wp2
      obtain ⟨WL, hWL⟩ : ∃ WL, WL = wr.alloc (.cells #[.bool x.tie, .int .i64 x.no, .int .i64 x.p, .int .i64 x.q] 68) := ⟨_, rfl⟩
      have m0 : WL.cell? ⟨wr.heap.size, 0, none⟩ = some (.bool x.tie) := by rw [hWL]; simp [go_sem]
      have m1 : WL.cell? ⟨wr.heap.size, 1, none⟩ = some (.int .i64 x.no) := by rw [hWL]; simp [go_sem]
      have m2 : WL.cell? ⟨wr.heap.size, 2, none⟩ = some (.int .i64 x.p) := by rw [hWL]; simp [go_sem]
      have m3 : WL.cell? ⟨wr.heap.size, 3, none⟩ = some (.int .i64 x.q) := by rw [hWL]; simp [go_sem]
      have hbW : Below wr.heap.size wr WL := by rw [hWL]; exact (Below.refl _ wr).alloc (Nat.le_refl _) _
      have hub1 : WL.cell? ⟨bb, 0, none⟩ = some (.int .i64 u) := (hbW.cell (World.block_lt_of_cell? wr _ hub)).trans hub
      rw [← hWL]
      have HWB := hide' hbW
      clear hWL hbW e0 e1 e2 e3 hub
      refine (wpIn_wide (n := 2)).2 ?_
      go_quiet (first | (go_at_call 22; refine Calls.quiet_of_same (Index_two x.p x.q u wr.heap.size 2 2 _ (by simpa using m2) (by simpa using m3))))
      have HB4 : Hid (∀ q, Below wr.heap.size wr (WL.drewN q)) := fun q => below_drewN HWB.out q
      have hmem : ∀ v, nextOf x u = some v → (x, v) ∈ onw links u := fun v hv => by
        have h1 := HP.out
        rw [HD.out, onw_some hv] at h1
        rw [← h1]
        simp
      rcases next_side (l := x) (u := u) with ⟨hs, hn⟩ | ⟨hs, hn⟩ | ⟨hs, hn⟩
      · unfold side at hs
        rw [hs]
        have HN : Hid (pre.map (·.1) ++ onw (links.drop (k + 1)) u = onw links u) := by
          have h1 := HP.out
          rw [HD.out, onw_none hn] at h1
          exact h1
        have HJ2 := hide' (fun q => HJ.out pre wr (WL.drewN q) none HJp.out (grown_of (HB4.out q)) (fun r e => by cases e))
        have HK2 : Hid (∀ q, KeptB bs w0 (WL.drewN q)) := fun q => ⟨Nat.le_trans HK.out.1 (HB4.out q).size, fun i hi => ((HB4.out q).block i (Nat.lt_of_lt_of_le (HBS.out i hi) HK.out.1)).trans (HK.out.2 i hi)⟩
        clear hs hn hmem HP HD
        gi_wp2
        refine (wpIn_wide (n := 2)).2 ?_
        have hd : decide ((0 : Int) ≤ -1) = false := rfl
        go_quiet (fail)
        gi_wp2
        go_roundw
        case rel => exact ⟨k + 1, pre, by go_num, by omega, by omega, HN, HJ2.out _, HK2.out _⟩
        case measure => simp [intOf]; omega
      · unfold side at hs
        rw [hs]
        have hpl2 : pre.length < links.length := by omega
        obtain ⟨fn, tmps, assign, body, hy, hR⟩ := hY pre ⟨(x, x.q), hmem _ hn⟩ (WL.drewN (nq + 1)) (HJ.out pre wr _ none HJp.out (grown_of (HB4.out (nq + 1))) (fun r e => by cases e)) hpl2
        have HR2 := hide' hR
        have HN : Hid ((pre ++ [(⟨(x, x.q), hmem _ hn⟩ : Lead links u)]).map (fun y : Lead links u => y.1) ++ onw (links.drop (k + 1)) u = onw links u) := by
          have h1 := HP.out
          rw [HD.out, onw_some hn] at h1
          show _ = _
          rw [List.map_append, List.append_assoc]
          exact h1
        have HKP : Hid (KeptB bs w0 (WL.drewN (nq + 1))) := ⟨Nat.le_trans HK.out.1 (HB4.out _).size, fun i hi => ((HB4.out _).block i (Nat.lt_of_lt_of_le (HBS.out i hi) HK.out.1)).trans (HK.out.2 i hi)⟩
        have hw0 : IntKind.i64.wrap 0 = 0 := rfl
        have hw1 : IntKind.i64.wrap 1 = 1 := rfl
        clear hR hs
        dsimp only [leadV] at hy
        gi_wp2
        refine wpIn_region_U (fun W => W.cell? ⟨wr.heap.size, 0, none⟩ = some (.bool x.tie) ∧ W.cell? ⟨wr.heap.size, 1, none⟩ = some (.int .i64 x.no) ∧ W.cell? ⟨wr.heap.size, 2, none⟩ = some (.int .i64 x.p) ∧ W.cell? ⟨wr.heap.size, 3, none⟩ = some (.int .i64 x.q)) 11 (by kernel_rfl) ?_
        rw [World.drew_drewN]
        refine wpAnyU_takeAt 0 (some 18) (v := ?_) (by kernel_rfl) rfl (by kernel_rfl) (by kernel_rfl) (by kernel_rfl) (by kernel_rfl) (by kernel_rfl) (fun _ _ _ h => h) (by exact ⟨m0, m1, m2, m3⟩) (fun o hop w => by injection hop with hop; subst hop; rfl) (fun o hop => ?_) ?_
        rotate_left
        · injection hop with hop
          subst hop
          refine ⟨rfl, fun W hW => ?_⟩
          obtain ⟨s0, s1, s2, s3⟩ := hW
          go_simp
          first
          | done
          | rfl
        try simp only [Act.put, List.setIfInBounds_toArray, List.set_cons_zero, List.set_cons_succ]
        refine wpAnyU_takeAt 1 (some 19) (v := ?_) (by kernel_rfl) rfl (by kernel_rfl) (by kernel_rfl) (by kernel_rfl) (by kernel_rfl) (by kernel_rfl) (fun _ _ _ h => h) (by exact ⟨m0, m1, m2, m3⟩) (fun o hop w => by injection hop with hop; subst hop; rfl) (fun o hop => ?_) ?_
        rotate_left
        · injection hop with hop
          subst hop
          refine ⟨rfl, fun W hW => ?_⟩
          obtain ⟨s0, s1, s2, s3⟩ := hW
          go_simp
          first
          | done
          | rfl
        try simp only [Act.put, List.setIfInBounds_toArray, List.set_cons_zero, List.set_cons_succ]
        refine wpAnyU_takeAt 2 (some 20) (v := ?_) (by kernel_rfl) rfl (by kernel_rfl) (by kernel_rfl) (by kernel_rfl) (by kernel_rfl) (by kernel_rfl) (fun _ _ _ h => h) (by exact ⟨m0, m1, m2, m3⟩) (fun o hop w => by injection hop with hop; subst hop; rfl) (fun o hop => ?_) ?_
        rotate_left
        · injection hop with hop
          subst hop
          refine ⟨rfl, fun W hW => ?_⟩
          obtain ⟨s0, s1, s2, s3⟩ := hW
          go_simp
          first
          | done
          | rfl
        try simp only [Act.put, List.setIfInBounds_toArray, List.set_cons_zero, List.set_cons_succ]
        refine wpAnyU_takeAt 3 (some 21) (v := ?_) (by kernel_rfl) rfl (by kernel_rfl) (by kernel_rfl) (by kernel_rfl) (by kernel_rfl) (by kernel_rfl) (fun _ _ _ h => h) (by exact ⟨m0, m1, m2, m3⟩) (fun o hop w => by injection hop with hop; subst hop; rfl) (fun o hop => ?_) ?_
        rotate_left
        · injection hop with hop
          subst hop
          refine ⟨rfl, fun W hW => ?_⟩
          obtain ⟨s0, s1, s2, s3⟩ := hW
          go_simp
          first
          | done
          | rfl
        try simp only [Act.put, List.setIfInBounds_toArray, List.set_cons_zero, List.set_cons_succ]
        refine wpAnyU_takeAt 4 (some 22) (v := ?_) (by kernel_rfl) rfl (by kernel_rfl) (by kernel_rfl) (by kernel_rfl) (by kernel_rfl) (by kernel_rfl) (fun _ _ _ h => h) (by exact ⟨m0, m1, m2, m3⟩) (fun o hop w => by injection hop with hop; subst hop; rfl) (fun o hop => ?_) ?_
        rotate_left
        · injection hop with hop
          subst hop
          refine ⟨rfl, fun W hW => ?_⟩
          obtain ⟨s0, s1, s2, s3⟩ := hW
          go_simp
          first
          | done
          | rfl
        try simp only [Act.put, List.setIfInBounds_toArray, List.set_cons_zero, List.set_cons_succ]
        refine wpAnyU_takeAt 5 (some 23) (v := ?_) (by kernel_rfl) rfl (by kernel_rfl) (by kernel_rfl) (by kernel_rfl) (by kernel_rfl) (by kernel_rfl) (fun _ _ _ h => h) (by exact ⟨m0, m1, m2, m3⟩) (fun o hop w => by injection hop with hop; subst hop; rfl) (fun o hop => ?_) ?_
        rotate_left
        · injection hop with hop
          subst hop
          refine ⟨rfl, fun W hW => ?_⟩
          obtain ⟨s0, s1, s2, s3⟩ := hW
          go_simp
          first
          | done
          | rfl
        try simp only [Act.put, List.setIfInBounds_toArray, List.set_cons_zero, List.set_cons_succ]
        refine wpAnyU_takeAt 6 (some 24) (v := ?_) (by kernel_rfl) rfl (by kernel_rfl) (by kernel_rfl) (by kernel_rfl) (by kernel_rfl) (by kernel_rfl) (fun _ _ _ h => h) (by exact ⟨m0, m1, m2, m3⟩) (fun o hop w => by injection hop with hop; subst hop; rfl) (fun o hop => ?_) ?_
        rotate_left
        · injection hop with hop
          subst hop
          refine ⟨rfl, fun W hW => ?_⟩
          obtain ⟨s0, s1, s2, s3⟩ := hW
          go_simp
          first
          | done
          | rfl
        try simp only [Act.put, List.setIfInBounds_toArray, List.set_cons_zero, List.set_cons_succ]
        refine wpAnyU_takeAt 7 (some 25) (v := ?_) (by kernel_rfl) rfl (by kernel_rfl) (by kernel_rfl) (by kernel_rfl) (by kernel_rfl) (by kernel_rfl) (fun _ _ _ h => h) (by exact ⟨m0, m1, m2, m3⟩) (fun o hop w => by injection hop with hop; subst hop; rfl) (fun o hop => ?_) ?_
        rotate_left
        · injection hop with hop
          subst hop
          refine ⟨rfl, fun W hW => ?_⟩
          obtain ⟨s0, s1, s2, s3⟩ := hW
          go_simp
          first
          | done
          | rfl
        try simp only [Act.put, List.setIfInBounds_toArray, List.set_cons_zero, List.set_cons_succ]
        refine wpAnyU_takeAt 8 (some 26) (v := ?_) (by kernel_rfl) rfl (by kernel_rfl) (by kernel_rfl) (by kernel_rfl) (by kernel_rfl) (by kernel_rfl) (fun _ _ _ h => h) (by exact ⟨m0, m1, m2, m3⟩) (fun o hop w => by injection hop with hop; subst hop; rfl) (fun o hop => ?_) ?_
        rotate_left
        · injection hop with hop
          subst hop
          refine ⟨rfl, fun W hW => ?_⟩
          obtain ⟨s0, s1, s2, s3⟩ := hW
          go_simp
          first
          | done
          | rfl
        try simp only [Act.put, List.setIfInBounds_toArray, List.set_cons_zero, List.set_cons_succ]
        refine wpAnyU_takeAt 9 (some 27) (v := ?_) (by kernel_rfl) rfl (by kernel_rfl) (by kernel_rfl) (by kernel_rfl) (by kernel_rfl) (by kernel_rfl) (fun _ _ _ h => h) (by exact ⟨m0, m1, m2, m3⟩) (fun o hop w => by injection hop with hop; subst hop; rfl) (fun o hop => ?_) ?_
        rotate_left
        · injection hop with hop
          subst hop
          refine ⟨rfl, fun W hW => ?_⟩
          obtain ⟨s0, s1, s2, s3⟩ := hW
          go_simp
          first
          | done
          | rfl
        try simp only [Act.put, List.setIfInBounds_toArray, List.set_cons_zero, List.set_cons_succ]
        refine wpAnyU_takeAt 10 (some 28) (v := ?_) (by kernel_rfl) rfl (by kernel_rfl) (by kernel_rfl) (by kernel_rfl) (by kernel_rfl) (by kernel_rfl) (fun _ _ _ h => h) (by exact ⟨m0, m1, m2, m3⟩) (fun o hop w => by injection hop with hop; subst hop; rfl) (fun o hop => ?_) ?_
        rotate_left
        · injection hop with hop
          subst hop
          refine ⟨rfl, fun W hW => ?_⟩
          obtain ⟨s0, s1, s2, s3⟩ := hW
          go_simp
          first
          | done
          | rfl
        try simp only [Act.put, List.setIfInBounds_toArray, List.set_cons_zero, List.set_cons_succ]
        refine wpAnyU_one (i := 11) (by kernel_rfl) rfl rfl (fun K' hK => ?_)
        go_simp
        refine HR2.out.mono ?_
        rintro e W3 (⟨rfl, hJ3, hk3⟩ | ⟨rfl, hJx3⟩)
        · have HJ3 := hide' hJ3
          have HK3 := hide' (HKP.out.trans hk3)
          clear hJ3 hk3
          refine hK.out _ _ (fun h => absurd rfl h) ?_
          clear hK K'
          refine wpAnyU_one (i := 12) (by kernel_rfl) rfl rfl (fun K' hK => ?_)
          go_simp
          refine hK.out _ _ (fun _ h => by cases h) ?_
          clear hK K'
          refine wpAnyU_one (i := 13) (by kernel_rfl) rfl rfl (fun K' hK => ?_)
          go_simp
          refine hK.out _ _ (fun _ h => by cases h) ?_
          clear hK K'
          refine wpAnyU_done (by kernel_rfl) ?_ _
          gi_wp2
          go_roundw
          case rel => exact ⟨k + 1, _, by go_num, by omega, by simp; omega, HN, HJ3, HK3⟩
          case measure => simp [intOf]; omega
        · have HJ3 := hide' hJx3
          clear hJx3
          refine hK.out _ _ (fun h => absurd rfl h) ?_
          clear hK K'
          refine wpAnyU_one (i := 12) (by kernel_rfl) rfl rfl (fun K' hK => ?_)
          go_simp
          refine hK.out _ _ (fun _ h => by cases h) ?_
          clear hK K'
          refine wpAnyU_one (i := 13) (by kernel_rfl) rfl rfl (fun K' hK => ?_)
          go_simp
          refine hK.out _ _ (fun _ h => by cases h) ?_
          clear hK K'
          refine wpAnyU_done (by kernel_rfl) ?_ _
          gi_wp2
          refine bodyPost_ret (results_none rfl _ _ _) rfl ?_
          exact ⟨⟨_, rfl⟩, .inr ⟨_, ⟨_, HN.out⟩, HJ3.out⟩⟩
      · unfold side at hs
        rw [hs]
        have hpl2 : pre.length < links.length := by omega
        obtain ⟨fn, tmps, assign, body, hy, hR⟩ := hY pre ⟨(x, x.p), hmem _ hn⟩ (WL.drewN (nq + 1)) (HJ.out pre wr _ none HJp.out (grown_of (HB4.out (nq + 1))) (fun r e => by cases e)) hpl2
        have HR2 := hide' hR
        have HN : Hid ((pre ++ [(⟨(x, x.p), hmem _ hn⟩ : Lead links u)]).map (fun y : Lead links u => y.1) ++ onw (links.drop (k + 1)) u = onw links u) := by
          have h1 := HP.out
          rw [HD.out, onw_some hn] at h1
          show _ = _
          rw [List.map_append, List.append_assoc]
          exact h1
        have HKP : Hid (KeptB bs w0 (WL.drewN (nq + 1))) := ⟨Nat.le_trans HK.out.1 (HB4.out _).size, fun i hi => ((HB4.out _).block i (Nat.lt_of_lt_of_le (HBS.out i hi) HK.out.1)).trans (HK.out.2 i hi)⟩
        have hw0 : IntKind.i64.wrap 0 = 0 := rfl
        have hw1 : IntKind.i64.wrap 1 = 1 := rfl
        clear hR hs
        dsimp only [leadV] at hy
        gi_wp2
        refine wpIn_region_U (fun W => W.cell? ⟨wr.heap.size, 0, none⟩ = some (.bool x.tie) ∧ W.cell? ⟨wr.heap.size, 1, none⟩ = some (.int .i64 x.no) ∧ W.cell? ⟨wr.heap.size, 2, none⟩ = some (.int .i64 x.p) ∧ W.cell? ⟨wr.heap.size, 3, none⟩ = some (.int .i64 x.q)) 11 (by kernel_rfl) ?_
        rw [World.drew_drewN]
        refine wpAnyU_takeAt 0 (some 18) (v := ?_) (by kernel_rfl) rfl (by kernel_rfl) (by kernel_rfl) (by kernel_rfl) (by kernel_rfl) (by kernel_rfl) (fun _ _ _ h => h) (by exact ⟨m0, m1, m2, m3⟩) (fun o hop w => by injection hop with hop; subst hop; rfl) (fun o hop => ?_) ?_
        rotate_left
        · injection hop with hop
          subst hop
          refine ⟨rfl, fun W hW => ?_⟩
          obtain ⟨s0, s1, s2, s3⟩ := hW
          go_simp
          first
          | done
          | rfl
        try simp only [Act.put, List.setIfInBounds_toArray, List.set_cons_zero, List.set_cons_succ]
        refine wpAnyU_takeAt 1 (some 19) (v := ?_) (by kernel_rfl) rfl (by kernel_rfl) (by kernel_rfl) (by kernel_rfl) (by kernel_rfl) (by kernel_rfl) (fun _ _ _ h => h) (by exact ⟨m0, m1, m2, m3⟩) (fun o hop w => by injection hop with hop; subst hop; rfl) (fun o hop => ?_) ?_
        rotate_left
        · injection hop with hop
          subst hop
          refine ⟨rfl, fun W hW => ?_⟩
          obtain ⟨s0, s1, s2, s3⟩ := hW
          go_simp
          first
          | done
          | rfl
        try simp only [Act.put, List.setIfInBounds_toArray, List.set_cons_zero, List.set_cons_succ]
        refine wpAnyU_takeAt 2 (some 20) (v := ?_) (by kernel_rfl) rfl (by kernel_rfl) (by kernel_rfl) (by kernel_rfl) (by kernel_rfl) (by kernel_rfl) (fun _ _ _ h => h) (by exact ⟨m0, m1, m2, m3⟩) (fun o hop w => by injection hop with hop; subst hop; rfl) (fun o hop => ?_) ?_
        rotate_left
        · injection hop with hop
          subst hop
          refine ⟨rfl, fun W hW => ?_⟩
          obtain ⟨s0, s1, s2, s3⟩ := hW
          go_simp
          first
          | done
          | rfl
        try simp only [Act.put, List.setIfInBounds_toArray, List.set_cons_zero, List.set_cons_succ]
        refine wpAnyU_takeAt 3 (some 21) (v := ?_) (by kernel_rfl) rfl (by kernel_rfl) (by kernel_rfl) (by kernel_rfl) (by kernel_rfl) (by kernel_rfl) (fun _ _ _ h => h) (by exact ⟨m0, m1, m2, m3⟩) (fun o hop w => by injection hop with hop; subst hop; rfl) (fun o hop => ?_) ?_
        rotate_left
        · injection hop with hop
          subst hop
          refine ⟨rfl, fun W hW => ?_⟩
          obtain ⟨s0, s1, s2, s3⟩ := hW
          go_simp
          first
          | done
          | rfl
        try simp only [Act.put, List.setIfInBounds_toArray, List.set_cons_zero, List.set_cons_succ]
        refine wpAnyU_takeAt 4 (some 22) (v := ?_) (by kernel_rfl) rfl (by kernel_rfl) (by kernel_rfl) (by kernel_rfl) (by kernel_rfl) (by kernel_rfl) (fun _ _ _ h => h) (by exact ⟨m0, m1, m2, m3⟩) (fun o hop w => by injection hop with hop; subst hop; rfl) (fun o hop => ?_) ?_
        rotate_left
        · injection hop with hop
          subst hop
          refine ⟨rfl, fun W hW => ?_⟩
          obtain ⟨s0, s1, s2, s3⟩ := hW
          go_simp
          first
          | done
          | rfl
        try simp only [Act.put, List.setIfInBounds_toArray, List.set_cons_zero, List.set_cons_succ]
        refine wpAnyU_takeAt 5 (some 23) (v := ?_) (by kernel_rfl) rfl (by kernel_rfl) (by kernel_rfl) (by kernel_rfl) (by kernel_rfl) (by kernel_rfl) (fun _ _ _ h => h) (by exact ⟨m0, m1, m2, m3⟩) (fun o hop w => by injection hop with hop; subst hop; rfl) (fun o hop => ?_) ?_
        rotate_left
        · injection hop with hop
          subst hop
          refine ⟨rfl, fun W hW => ?_⟩
          obtain ⟨s0, s1, s2, s3⟩ := hW
          go_simp
          first
          | done
          | rfl
        try simp only [Act.put, List.setIfInBounds_toArray, List.set_cons_zero, List.set_cons_succ]
        refine wpAnyU_takeAt 6 (some 24) (v := ?_) (by kernel_rfl) rfl (by kernel_rfl) (by kernel_rfl) (by kernel_rfl) (by kernel_rfl) (by kernel_rfl) (fun _ _ _ h => h) (by exact ⟨m0, m1, m2, m3⟩) (fun o hop w => by injection hop with hop; subst hop; rfl) (fun o hop => ?_) ?_
        rotate_left
        · injection hop with hop
          subst hop
          refine ⟨rfl, fun W hW => ?_⟩
          obtain ⟨s0, s1, s2, s3⟩ := hW
          go_simp
          first
          | done
          | rfl
        try simp only [Act.put, List.setIfInBounds_toArray, List.set_cons_zero, List.set_cons_succ]
        refine wpAnyU_takeAt 7 (some 25) (v := ?_) (by kernel_rfl) rfl (by kernel_rfl) (by kernel_rfl) (by kernel_rfl) (by kernel_rfl) (by kernel_rfl) (fun _ _ _ h => h) (by exact ⟨m0, m1, m2, m3⟩) (fun o hop w => by injection hop with hop; subst hop; rfl) (fun o hop => ?_) ?_
        rotate_left
        · injection hop with hop
          subst hop
          refine ⟨rfl, fun W hW => ?_⟩
          obtain ⟨s0, s1, s2, s3⟩ := hW
          go_simp
          first
          | done
          | rfl
        try simp only [Act.put, List.setIfInBounds_toArray, List.set_cons_zero, List.set_cons_succ]
        refine wpAnyU_takeAt 8 (some 26) (v := ?_) (by kernel_rfl) rfl (by kernel_rfl) (by kernel_rfl) (by kernel_rfl) (by kernel_rfl) (by kernel_rfl) (fun _ _ _ h => h) (by exact ⟨m0, m1, m2, m3⟩) (fun o hop w => by injection hop with hop; subst hop; rfl) (fun o hop => ?_) ?_
        rotate_left
        · injection hop with hop
          subst hop
          refine ⟨rfl, fun W hW => ?_⟩
          obtain ⟨s0, s1, s2, s3⟩ := hW
          go_simp
          first
          | done
          | rfl
        try simp only [Act.put, List.setIfInBounds_toArray, List.set_cons_zero, List.set_cons_succ]
        refine wpAnyU_takeAt 9 (some 27) (v := ?_) (by kernel_rfl) rfl (by kernel_rfl) (by kernel_rfl) (by kernel_rfl) (by kernel_rfl) (by kernel_rfl) (fun _ _ _ h => h) (by exact ⟨m0, m1, m2, m3⟩) (fun o hop w => by injection hop with hop; subst hop; rfl) (fun o hop => ?_) ?_
        rotate_left
        · injection hop with hop
          subst hop
          refine ⟨rfl, fun W hW => ?_⟩
          obtain ⟨s0, s1, s2, s3⟩ := hW
          go_simp
          first
          | done
          | rfl
        try simp only [Act.put, List.setIfInBounds_toArray, List.set_cons_zero, List.set_cons_succ]
        refine wpAnyU_takeAt 10 (some 28) (v := ?_) (by kernel_rfl) rfl (by kernel_rfl) (by kernel_rfl) (by kernel_rfl) (by kernel_rfl) (by kernel_rfl) (fun _ _ _ h => h) (by exact ⟨m0, m1, m2, m3⟩) (fun o hop w => by injection hop with hop; subst hop; rfl) (fun o hop => ?_) ?_
        rotate_left
        · injection hop with hop
          subst hop
          refine ⟨rfl, fun W hW => ?_⟩
          obtain ⟨s0, s1, s2, s3⟩ := hW
          go_simp
          first
          | done
          | rfl
        try simp only [Act.put, List.setIfInBounds_toArray, List.set_cons_zero, List.set_cons_succ]
        refine wpAnyU_one (i := 11) (by kernel_rfl) rfl rfl (fun K' hK => ?_)
        go_simp
        refine HR2.out.mono ?_
        rintro e W3 (⟨rfl, hJ3, hk3⟩ | ⟨rfl, hJx3⟩)
        · have HJ3 := hide' hJ3
          have HK3 := hide' (HKP.out.trans hk3)
          clear hJ3 hk3
          refine hK.out _ _ (fun h => absurd rfl h) ?_
          clear hK K'
          refine wpAnyU_one (i := 12) (by kernel_rfl) rfl rfl (fun K' hK => ?_)
          go_simp
          refine hK.out _ _ (fun _ h => by cases h) ?_
          clear hK K'
          refine wpAnyU_one (i := 13) (by kernel_rfl) rfl rfl (fun K' hK => ?_)
          go_simp
          refine hK.out _ _ (fun _ h => by cases h) ?_
          clear hK K'
          refine wpAnyU_done (by kernel_rfl) ?_ _
          gi_wp2
          go_roundw
          case rel => exact ⟨k + 1, _, by go_num, by omega, by simp; omega, HN, HJ3, HK3⟩
          case measure => simp [intOf]; omega
        · have HJ3 := hide' hJx3
          clear hJx3
          refine hK.out _ _ (fun h => absurd rfl h) ?_
          clear hK K'
          refine wpAnyU_one (i := 12) (by kernel_rfl) rfl rfl (fun K' hK => ?_)
          go_simp
          refine hK.out _ _ (fun _ h => by cases h) ?_
          clear hK K'
          refine wpAnyU_one (i := 13) (by kernel_rfl) rfl rfl (fun K' hK => ?_)
          go_simp
          refine hK.out _ _ (fun _ h => by cases h) ?_
          clear hK K'
          refine wpAnyU_done (by kernel_rfl) ?_ _
          gi_wp2
          refine bodyPost_ret (results_none rfl _ _ _) rfl ?_
          exact ⟨⟨_, rfl⟩, .inr ⟨_, ⟨_, HN.out⟩, HJ3.out⟩⟩
    · gi_wp2
      go_end0
      refine ⟨⟨_, rfl⟩, .inl ⟨pre, ?_, HJp.out⟩⟩
      have := HP.out
      rw [List.drop_of_length_le (by omega), onw, List.append_nil] at this
      exact this
end Go.Proofs.YtjcpcjickdcpmacGreatDoor.Bar
