/- The program's writer over any network: its text, or it gives up because such a network may not be. -/
import Derived.Test.YtpbalclhdhjnoaaGreatDoorKGw0
namespace Go.Proofs.YtpbalclhdhjnoaaGreatDoor
open Go.RowKit Go.Shelf

def I6 (n : Int) : Prop := -9223372036854775808 ≤ n ∧ n ≤ 9223372036854775807
/-- No word and no list of the network is too great for the machine. -/
structure SmallM (N : NetM) : Prop where
  name : N.name.size ≤ 2000000
  lens : N.buses.length ≤ 2000000 ∧ N.lines.length ≤ 2000000 ∧ N.gens.length ≤ 2000000 ∧ N.loads.length ≤ 2000000 ∧ N.ties.length ≤ 2000000
  buses : ∀ x ∈ N.buses, x.size ≤ 2000000
  lines : ∀ x ∈ N.lines, x.name.size ≤ 2000000 ∧ I6 x.frm ∧ I6 x.to ∧ I6 x.worth ∧ I6 x.limit
  gens : ∀ x ∈ N.gens, x.name.size ≤ 2000000 ∧ I6 x.bus ∧ I6 x.least ∧ I6 x.most ∧ I6 x.cost
  loads : ∀ x ∈ N.loads, x.name.size ≤ 2000000 ∧ I6 x.bus ∧ I6 x.power
  ties : ∀ x ∈ N.ties, x.name.size ≤ 2000000 ∧ I6 x.frm ∧ I6 x.to
theorem SmallM.bus {N : NetM} (h : SmallM N) (i : Int) : (busAt N i).size ≤ 2000000 := by
  unfold busAt
  rw [List.getD_eq_getElem?_getD]
  by_cases hi : i.toNat < N.buses.length
  · rw [List.getElem?_eq_getElem hi]
    exact h.buses _ (List.getElem_mem hi)
  · rw [List.getElem?_eq_none (by omega)]
    decide
theorem k_len : kNet.size ≤ 2000000 ∧ kBus.size ≤ 2000000 ∧ kLine.size ≤ 2000000 ∧ kGen.size ≤ 2000000 ∧ kLoad.size ≤ 2000000 ∧ kTie.size ≤ 2000000 ∧ kOpen.size ≤ 2000000 ∧ kClosed.size ≤ 2000000 := by decide
theorem wordsLine_len {N : NetM} {L : LineM} (h : SmallM N) (hL : L.name.size ≤ 2000000 ∧ I6 L.frm ∧ I6 L.to ∧ I6 L.worth ∧ I6 L.limit) : (lineT (wordsLine N L)).length ≤ 50000000 := by
  obtain ⟨a1, a2, a3, a4, a5⟩ := hL
  refine Nat.le_trans (line_len (m := 2000000) fun x hx => ?_) (by simp [wordsLine])
  simp only [wordsLine, List.mem_cons, List.not_mem_nil, or_false] at hx
  rcases hx with rfl | rfl | rfl | rfl | rfl | rfl
  · exact k_len.2.2.1
  · exact a1
  · exact h.bus _
  · exact h.bus _
  · exact itoa_len a4.1 a4.2
  · exact itoa_len a5.1 a5.2
theorem wordsGen_len {N : NetM} {L : GenM} (h : SmallM N) (hL : L.name.size ≤ 2000000 ∧ I6 L.bus ∧ I6 L.least ∧ I6 L.most ∧ I6 L.cost) : (lineT (wordsGen N L)).length ≤ 50000000 := by
  obtain ⟨a1, a2, a3, a4, a5⟩ := hL
  refine Nat.le_trans (line_len (m := 2000000) fun x hx => ?_) (by simp [wordsGen])
  simp only [wordsGen, List.mem_cons, List.not_mem_nil, or_false] at hx
  rcases hx with rfl | rfl | rfl | rfl | rfl | rfl
  · exact k_len.2.2.2.1
  · exact a1
  · exact h.bus _
  · exact itoa_len a3.1 a3.2
  · exact itoa_len a4.1 a4.2
  · exact itoa_len a5.1 a5.2
theorem wordsLoad_len {N : NetM} {L : LoadM} (h : SmallM N) (hL : L.name.size ≤ 2000000 ∧ I6 L.bus ∧ I6 L.power) : (lineT (wordsLoad N L)).length ≤ 50000000 := by
  obtain ⟨a1, a2, a3⟩ := hL
  refine Nat.le_trans (line_len (m := 2000000) fun x hx => ?_) (by simp [wordsLoad])
  simp only [wordsLoad, List.mem_cons, List.not_mem_nil, or_false] at hx
  rcases hx with rfl | rfl | rfl | rfl
  · exact k_len.2.2.2.2.1
  · exact a1
  · exact h.bus _
  · exact itoa_len a3.1 a3.2
theorem wordsTie_len {N : NetM} {L : TieM} (h : SmallM N) (hL : L.name.size ≤ 2000000 ∧ I6 L.frm ∧ I6 L.to) : (lineT (wordsTie N L)).length ≤ 50000000 := by
  refine Nat.le_trans (line_len (m := 2000000) fun x hx => ?_) (by simp [wordsTie])
  simp only [wordsTie, List.mem_cons, List.not_mem_nil, or_false] at hx
  rcases hx with rfl | rfl | rfl | rfl | rfl
  · exact k_len.2.2.2.2.2.1
  · exact hL.1
  · exact h.bus _
  · exact h.bus _
  · cases L.closed
    · exact k_len.2.2.2.2.2.2.1
    · exact k_len.2.2.2.2.2.2.2
def tm1 (N : NetM) : List (List ByteArray) := [[kNet, N.name]]
def tm2 (N : NetM) : List (List ByteArray) := tm1 N ++ N.buses.map fun b => [kBus, b]
def tm3 (N : NetM) : List (List ByteArray) := tm2 N ++ N.lines.map (wordsLine N)
def tm4 (N : NetM) : List (List ByteArray) := tm3 N ++ N.gens.map (wordsGen N)
def tm5 (N : NetM) : List (List ByteArray) := tm4 N ++ N.loads.map (wordsLoad N)
theorem toldM_eq (N : NetM) : toldM N = tm5 N ++ N.ties.map (wordsTie N) := by simp [toldM, tm5, tm4, tm3, tm2, tm1]
theorem tm5_pre (N : NetM) : ∃ R, toldM N = tm5 N ++ N.ties.map (wordsTie N) ++ R := ⟨[], by simp [toldM_eq]⟩
theorem tm4_pre (N : NetM) : ∃ R, toldM N = tm4 N ++ N.loads.map (wordsLoad N) ++ R := ⟨N.ties.map (wordsTie N), toldM_eq N⟩
theorem tm3_pre (N : NetM) : ∃ R, toldM N = tm3 N ++ N.gens.map (wordsGen N) ++ R := ⟨N.loads.map (wordsLoad N) ++ N.ties.map (wordsTie N), by simp [toldM_eq, tm5, tm4]⟩
theorem tm2_pre (N : NetM) : ∃ R, toldM N = tm2 N ++ N.lines.map (wordsLine N) ++ R := ⟨N.gens.map (wordsGen N) ++ N.loads.map (wordsLoad N) ++ N.ties.map (wordsTie N), by simp [toldM_eq, tm5, tm4, tm3]⟩
theorem tm1_pre (N : NetM) : ∃ R, toldM N = tm1 N ++ (N.buses.map fun b => [kBus, b]) ++ R := ⟨N.lines.map (wordsLine N) ++ N.gens.map (wordsGen N) ++ N.loads.map (wordsLoad N) ++ N.ties.map (wordsTie N), by simp [toldM_eq, tm5, tm4, tm3, tm2]⟩
theorem pre_take {α β : Type} {A P : List β} {f : α → β} {xs : List α} (h : ∃ R, A = P ++ xs.map f ++ R) (k : Nat) : ∃ R, A = P ++ (xs.take k).map f ++ R := by
  obtain ⟨R, e⟩ := h
  refine ⟨(xs.drop k).map f ++ R, ?_⟩
  rw [e, List.append_assoc, List.append_assoc, ← List.append_assoc ((xs.take k).map f), ← List.map_append, List.take_append_drop]
theorem over_not {N : NetM} {Q : List (List ByteArray)} (h : 20000 < (textT Q).length) (hp : ∃ R, toldM N = Q ++ R) : ¬ MayM N := fun hm => by
  obtain ⟨R, e⟩ := hp
  have h1 := toldM_len hm
  rw [e, textT_app, List.length_append] at h1
  omega

set_option maxHeartbeats 8000000 in
set_option maxRecDepth 100000 in
theorem tell_any (N : NetM) (B1 : Nat) (b l g d t : Value) (w : World) (hsm : SmallM N) (htb : TabAll w) (ho : Owns w B1 b l g d t N) :
    Calls Tryz.prog 30 #[.agg #[.string N.name, b, l, g, d, t]] w fun e w' => ((e = .returned (.string (textOf (textT (toldM N)))) ∧ (textT (toldM N)).length ≤ 20000) ∨ (e = stateErr ∧ ¬ MayM N)) ∧ Below w.heap.size w w' := by
  obtain ⟨ab, cb, rfl⟩ := own_slice ho.hb
  obtain ⟨al, cl, rfl⟩ := own_slice ho.hl
  obtain ⟨ag, cg, rfl⟩ := own_slice ho.hg
  obtain ⟨ad, cd, rfl⟩ := own_slice ho.hd
  obtain ⟨at', ct, rfl⟩ := own_slice ho.ht
  obtain ⟨f1, f2, f3, f4, f5⟩ := hsm.lens
  have hst := Tl.start w N (.slice ab N.buses.length cb) (.slice al N.lines.length cl) (.slice ag N.gens.length cg) (.slice ad N.loads.length cd) (.slice at' N.ties.length ct)
  have hline := hst.lineG (by decide) (Below.refl _ _) [kNet, N.name] (n := 2) (bk := w.heap.size + 1 + 1) rfl (by simp [tellW]) (Nat.le_trans (line_len (m := 2000000) (fun x hx => by
    simp only [List.mem_cons, List.not_mem_nil, or_false] at hx
    rcases hx with rfl | rfl
    · exact k_len.1
    · exact hsm.name)) (by simp)) (by decide)
  have HL : Hid (Calls Tryz.prog 34 #[.pointer (some ⟨w.heap.size + 1, 0, none⟩), .slice (some ⟨w.heap.size + 1 + 1, 0, none⟩) 2 2] (((w.alloc (.cells #[.string N.name, .slice ab N.buses.length cb, .slice al N.lines.length cl, .slice ag N.gens.length cg, .slice ad N.loads.length cd, .slice at' N.ties.length ct] 28)).alloc (.cells #[.pointer none, .slice none 0 0, .slice ab N.buses.length cb] 77)).alloc (.cells #[.string ⟨#[110, 101, 116]⟩, .string N.name] 9)) _) := hline
  have HSM := hide' hsm
  have HTB := hide' htb
  have HO := hide' ho
  clear hst hline hsm htb ho
  go_enter Tryz.func30, Tryz.ntmps30
  go_wp2_with (go_at_call 34; go_must (refine HL.out.mono ?_))
  rintro e w1 (⟨rfl, htl, hle⟩ | ⟨rfl, hov, hbo⟩)
  rotate_left
  · exact ⟨rfl, .inr ⟨rfl, over_not hov ⟨_, by have := toldM_eq N; simp only [tm5, tm4, tm3, tm2, tm1, List.append_assoc] at this; exact this⟩⟩, hbo⟩
  clear HL
  have HTL := hide' htl
  have HLE := hide' hle
  obtain ⟨c1, c2, c3, c4, c5⟩ := cells32 htl.net
  clear htl hle
  go_wp2_with fail
  go_loopw [24] (fun si wr => ∃ k : Nat, si = .int .i64 k ∧ k ≤ N.buses.length ∧ Hid (Tl w wr N (.slice ab N.buses.length cb) (.slice al N.lines.length cl) (.slice ag N.gens.length cg) (.slice ad N.loads.length cd) (.slice at' N.ties.length ct) (tm1 N ++ (N.buses.take k).map fun b => [kBus, b])) ∧ Hid ((textT (tm1 N ++ (N.buses.take k).map fun b => [kBus, b])).length ≤ 20000)) (fun si _ => N.buses.length - (intOf si).toNat)
  case atStart => exact ⟨0, rfl, Nat.zero_le _, HTL, HLE⟩
  case round =>
    clear HTL HLE c1 c2 c3 c4 c5
    obtain ⟨k, rfl, hk, HTL, HLE⟩ := hrel
    by_cases hlt : k < N.buses.length
    · obtain ⟨bb, ob, hax, hx⟩ := bus_cells HO.out.hb (by omega)
      subst hax
      have hx1 := HTL.out.bel.cell (World.block_lt_of_cell? w _ (hx k hlt))
      rw [hx k hlt] at hx1
      have hln := HTL.out.lineG HLE.out (Below.refl _ _) [kBus, N.buses[k]] (n := 2) rfl rfl (Nat.le_trans (line_len (m := 2000000) (fun x hx => by
        simp only [List.mem_cons, List.not_mem_nil, or_false] at hx
        rcases hx with rfl | rfl
        · exact k_len.2.1
        · exact HSM.out.buses _ (List.getElem_mem hlt))) (by simp)) (by decide)
      rw [take_snoc (tm1 N) (fun b => [kBus, b]) N.buses k hlt] at hln
      obtain ⟨x, hxe⟩ : ∃ x, x = N.buses[k] := ⟨_, rfl⟩
      rw [← hxe] at hln hx1
      have HL : Hid (Calls Tryz.prog 34 #[.pointer (some ⟨w.heap.size + 1, 0, none⟩), .slice (some ⟨wr.heap.size, 0, none⟩) 2 2] (wr.alloc (.cells #[.string ⟨#[98, 117, 115]⟩, .string x] 9)) _) := hln
      clear hx hln hxe
      go_wp2_with (go_at_call 34; go_must (refine HL.out.mono ?_))
      rintro e w2 (⟨rfl, htl, hle⟩ | ⟨rfl, hov, hbo⟩)
      rotate_left
      · exact ⟨rfl, .inr ⟨rfl, over_not hov (pre_take (tm1_pre N) (k + 1))⟩, hbo⟩
      have HTL2 := hide' htl
      have HLE2 := hide' hle
      clear htl hle
      go_wp2
      exact ⟨⟨k + 1, by go_num, by omega, HTL2, HLE2⟩, by simp [intOf]; omega⟩
    · have HTL1 : Hid (Tl w wr N (.slice ab N.buses.length cb) (.slice al N.lines.length cl) (.slice ag N.gens.length cg) (.slice ad N.loads.length cd) (.slice at' N.ties.length ct) (tm2 N)) := by
        have := HTL.out
        rwa [take_all _ _ _ hk hlt] at this
      have HLE1 : Hid ((textT (tm2 N)).length ≤ 20000) := by
        have := HLE.out
        rwa [take_all _ _ _ hk hlt] at this
      obtain ⟨c1, c2, c3, c4, c5⟩ := cells32 HTL.out.net
      clear HTL HLE
      go_wp2_with fail
      clear hlt hk c1 c2 c3 c4 c5
      go_loopw [35] (fun si wr => ∃ k : Nat, si = .int .i64 k ∧ k ≤ N.lines.length ∧ Hid (Tl w wr N (.slice ab N.buses.length cb) (.slice al N.lines.length cl) (.slice ag N.gens.length cg) (.slice ad N.loads.length cd) (.slice at' N.ties.length ct) (tm2 N ++ (N.lines.take k).map (wordsLine N))) ∧ Hid ((textT (tm2 N ++ (N.lines.take k).map (wordsLine N))).length ≤ 20000)) (fun si _ => N.lines.length - (intOf si).toNat)
      case atStart => exact ⟨0, rfl, Nat.zero_le _, by have := HTL1.out; rwa [← List.append_nil (tm2 N)] at this, by have := HLE1.out; rwa [← List.append_nil (tm2 N)] at this⟩
      case round =>
        clear HTL1 HLE1
        obtain ⟨k, rfl, hk, HTL, HLE⟩ := hrel
        by_cases hlt : k < N.lines.length
        · obtain ⟨bx, ox, hax, hx⟩ := elem_cells (f := LineM.cells) (sz := 5) (fun _ => rfl) HO.out.hl k hlt (by decide)
          subst hax
          have hg := HSM.out.lines _ (List.getElem_mem hlt)
          have hmay : MayM N → _ := fun h => h.lines _ (List.getElem_mem hlt)
          obtain ⟨L, hL⟩ : ∃ L, L = N.lines[k] := ⟨_, rfl⟩
          rw [← hL] at hx hg hmay
          have kp : ∀ {p v}, w.cell? p = some v → wr.cell? p = some v := fun h => (HTL.out.bel.cell (World.block_lt_of_cell? w _ h)).trans h
          have e0 : wr.cell? ⟨bx, ox + k * 5, none⟩ = some (.string L.name) := kp (hx 0 _ rfl)
          have e1 : wr.cell? ⟨bx, ox + k * 5 + 1, none⟩ = some (.int .i64 L.frm) := kp (hx 1 _ rfl)
          have e2 : wr.cell? ⟨bx, ox + k * 5 + 2, none⟩ = some (.int .i64 L.to) := kp (hx 2 _ rfl)
          have e3 : wr.cell? ⟨bx, ox + k * 5 + 3, none⟩ = some (.int .i64 L.worth) := kp (hx 3 _ rfl)
          have e4 : wr.cell? ⟨bx, ox + k * 5 + 4, none⟩ = some (.int .i64 L.limit) := kp (hx 4 _ rfl)
          have HGL := hide' hg
          have HMY := hide' hmay
          have HL0 := hide' hL
          clear hx hg kp hL hmay
          go_wp2_with fail
          obtain ⟨WL, hWL⟩ : ∃ WL, WL = wr.alloc (.cells #[.string L.name, .int .i64 L.frm, .int .i64 L.to, .int .i64 L.worth, .int .i64 L.limit] 54) := ⟨_, rfl⟩
          have k0 : WL.cell? ⟨wr.heap.size, 0, none⟩ = some (.string L.name) := by rw [hWL]; simp [go_sem]
          have k1 : WL.cell? ⟨wr.heap.size, 1, none⟩ = some (.int .i64 L.frm) := by rw [hWL]; simp [go_sem]
          have k2 : WL.cell? ⟨wr.heap.size, 2, none⟩ = some (.int .i64 L.to) := by rw [hWL]; simp [go_sem]
          have k3 : WL.cell? ⟨wr.heap.size, 3, none⟩ = some (.int .i64 L.worth) := by rw [hWL]; simp [go_sem]
          have k4 : WL.cell? ⟨wr.heap.size, 4, none⟩ = some (.int .i64 L.limit) := by rw [hWL]; simp [go_sem]
          have hWb : Below wr.heap.size wr WL := by rw [hWL]; exact (Below.refl _ wr).alloc (Nat.le_refl _) _
          have hWz : WL.heap.size = wr.heap.size + 1 := by rw [hWL]; simp
          rw [← hWL]
          have hS : ∀ W, Below WL.heap.size WL W → W.cell? ⟨wr.heap.size, 0, none⟩ = some (.string L.name) ∧ W.cell? ⟨wr.heap.size, 1, none⟩ = some (.int .i64 L.frm) ∧ W.cell? ⟨wr.heap.size, 2, none⟩ = some (.int .i64 L.to) ∧ W.cell? ⟨wr.heap.size, 3, none⟩ = some (.int .i64 L.worth) ∧ W.cell? ⟨wr.heap.size, 4, none⟩ = some (.int .i64 L.limit) := fun W h => ⟨(h.cell (World.block_lt_of_cell? WL _ k0)).trans k0, (h.cell (World.block_lt_of_cell? WL _ k1)).trans k1, (h.cell (World.block_lt_of_cell? WL _ k2)).trans k2, (h.cell (World.block_lt_of_cell? WL _ k3)).trans k3, (h.cell (World.block_lt_of_cell? WL _ k4)).trans k4⟩
          have HS := hide' hS
          have HWB := hide' hWb
          have HWZ := hide' hWz
          clear hWL hS hWb hWz e0 e1 e2 e3 e4
          have HB0 : Hid (Below WL.heap.size WL WL.drew) := (Below.refl _ WL).drew
          refine wp_region_tail (fun W => W.cell? ⟨wr.heap.size, 0, none⟩ = some (.string L.name) ∧ W.cell? ⟨wr.heap.size, 1, none⟩ = some (.int .i64 L.frm) ∧ W.cell? ⟨wr.heap.size, 2, none⟩ = some (.int .i64 L.to) ∧ W.cell? ⟨wr.heap.size, 3, none⟩ = some (.int .i64 L.worth) ∧ W.cell? ⟨wr.heap.size, 4, none⟩ = some (.int .i64 L.limit)) 15 (by kernel_rfl) ?_
          refine wpAnyD_takeAt 0 (some 39) (v := ?_) rfl (by kernel_rfl) (by kernel_rfl) (by kernel_rfl) (by kernel_rfl) (by kernel_rfl) (fun _ _ _ h => h) (by exact ⟨k0, k1, k2, k3, k4⟩) (fun o hop => ?_) ?_
          rotate_left
          · injection hop with hop
            subst hop
            refine ⟨rfl, fun W hW => ?_⟩
            obtain ⟨s0, s1, s2, s3, s4⟩ := hW
            go_simp
            rfl
          try simp only [Act.put, List.setIfInBounds_toArray, List.set_cons_zero, List.set_cons_succ]
          refine wpAnyD_takeAt 1 (some 40) (v := ?_) rfl (by kernel_rfl) (by kernel_rfl) (by kernel_rfl) (by kernel_rfl) (by kernel_rfl) (fun _ _ _ h => h) (by exact ⟨k0, k1, k2, k3, k4⟩) (fun o hop => ?_) ?_
          rotate_left
          · injection hop with hop
            subst hop
            refine ⟨rfl, fun W hW => ?_⟩
            obtain ⟨s0, s1, s2, s3, s4⟩ := hW
            go_simp
            rfl
          try simp only [Act.put, List.setIfInBounds_toArray, List.set_cons_zero, List.set_cons_succ]
          refine wpAnyD_takeAt 2 (some 41) (v := ?_) rfl (by kernel_rfl) (by kernel_rfl) (by kernel_rfl) (by kernel_rfl) (by kernel_rfl) (fun _ _ _ h => h) (by exact ⟨k0, k1, k2, k3, k4⟩) (fun o hop => ?_) ?_
          rotate_left
          · injection hop with hop
            subst hop
            refine ⟨rfl, fun W hW => ?_⟩
            obtain ⟨s0, s1, s2, s3, s4⟩ := hW
            go_simp
            rfl
          try simp only [Act.put, List.setIfInBounds_toArray, List.set_cons_zero, List.set_cons_succ]
          refine wpAnyD_takeAt 3 (some 42) (v := ?_) rfl (by kernel_rfl) (by kernel_rfl) (by kernel_rfl) (by kernel_rfl) (by kernel_rfl) (fun _ _ _ h => h) (by exact ⟨k0, k1, k2, k3, k4⟩) (fun o hop => ?_) ?_
          rotate_left
          · injection hop with hop
            subst hop
            refine ⟨rfl, fun W hW => ?_⟩
            obtain ⟨s0, s1, s2, s3, s4⟩ := hW
            go_simp
            rfl
          try simp only [Act.put, List.setIfInBounds_toArray, List.set_cons_zero, List.set_cons_succ]
          refine wpAnyD_takeAt 5 (some 44) (v := ?_) rfl (by kernel_rfl) (by kernel_rfl) (by kernel_rfl) (by kernel_rfl) (by kernel_rfl) (fun _ _ _ h => h) (by exact ⟨k0, k1, k2, k3, k4⟩) (fun o hop => ?_) ?_
          rotate_left
          · injection hop with hop
            subst hop
            refine ⟨rfl, fun W hW => ?_⟩
            obtain ⟨s0, s1, s2, s3, s4⟩ := hW
            go_simp
            rfl
          try simp only [Act.put, List.setIfInBounds_toArray, List.set_cons_zero, List.set_cons_succ]
          refine wpAnyD_takeAt 6 (some 45) (v := ?_) rfl (by kernel_rfl) (by kernel_rfl) (by kernel_rfl) (by kernel_rfl) (by kernel_rfl) (fun _ _ _ h => h) (by exact ⟨k0, k1, k2, k3, k4⟩) (fun o hop => ?_) ?_
          rotate_left
          · injection hop with hop
            subst hop
            refine ⟨rfl, fun W hW => ?_⟩
            obtain ⟨s0, s1, s2, s3, s4⟩ := hW
            go_simp
            rfl
          try simp only [Act.put, List.setIfInBounds_toArray, List.set_cons_zero, List.set_cons_succ]
          refine wpAnyD_takeAt 8 (some 47) (v := ?_) rfl (by kernel_rfl) (by kernel_rfl) (by kernel_rfl) (by kernel_rfl) (by kernel_rfl) (fun _ _ _ h => h) (by exact ⟨k0, k1, k2, k3, k4⟩) (fun o hop => ?_) ?_
          rotate_left
          · injection hop with hop
            subst hop
            refine ⟨rfl, fun W hW => ?_⟩
            obtain ⟨s0, s1, s2, s3, s4⟩ := hW
            go_simp
            rfl
          try simp only [Act.put, List.setIfInBounds_toArray, List.set_cons_zero, List.set_cons_succ]
          refine wpAnyD_takeAt 9 (some 48) (v := ?_) rfl (by kernel_rfl) (by kernel_rfl) (by kernel_rfl) (by kernel_rfl) (by kernel_rfl) (fun _ _ _ h => h) (by exact ⟨k0, k1, k2, k3, k4⟩) (fun o hop => ?_) ?_
          rotate_left
          · injection hop with hop
            subst hop
            refine ⟨rfl, fun W hW => ?_⟩
            obtain ⟨s0, s1, s2, s3, s4⟩ := hW
            go_simp
            rfl
          try simp only [Act.put, List.setIfInBounds_toArray, List.set_cons_zero, List.set_cons_succ]
          refine wpAnyD_takeAt 11 (some 50) (v := ?_) rfl (by kernel_rfl) (by kernel_rfl) (by kernel_rfl) (by kernel_rfl) (by kernel_rfl) (fun _ _ _ h => h) (by exact ⟨k0, k1, k2, k3, k4⟩) (fun o hop => ?_) ?_
          rotate_left
          · injection hop with hop
            subst hop
            refine ⟨rfl, fun W hW => ?_⟩
            obtain ⟨s0, s1, s2, s3, s4⟩ := hW
            go_simp
            rfl
          try simp only [Act.put, List.setIfInBounds_toArray, List.set_cons_zero, List.set_cons_succ]
          refine wpAnyD_takeAt 12 (some 51) (v := ?_) rfl (by kernel_rfl) (by kernel_rfl) (by kernel_rfl) (by kernel_rfl) (by kernel_rfl) (fun _ _ _ h => h) (by exact ⟨k0, k1, k2, k3, k4⟩) (fun o hop => ?_) ?_
          rotate_left
          · injection hop with hop
            subst hop
            refine ⟨rfl, fun W hW => ?_⟩
            obtain ⟨s0, s1, s2, s3, s4⟩ := hW
            go_simp
            rfl
          try simp only [Act.put, List.setIfInBounds_toArray, List.set_cons_zero, List.set_cons_succ]
          refine wpAnyT_one (i := 4) (by kernel_rfl) rfl rfl (fun K' hK => ?_)
          go_simp
          go_at_call 35
          refine (HTL.out.busG HO.out.hb (HWB.out.trans (HB0.out.mono (by have := HWZ.out; omega))) L.frm).mono ?_
          rintro e w1 ⟨⟨rfl, i1a, i1b⟩ | ⟨rfl, hno⟩, hw1⟩
          rotate_left
          · obtain rfl := hw1.symm
            exact ⟨rfl, .inr ⟨rfl, fun hm => hno ⟨by have := HMY.out hm; omega, by have := HMY.out hm; omega⟩⟩, HTL.out.bel.trans ((HWB.out.trans (HB0.out.mono (by have := HWZ.out; omega))).mono HTL.out.bel.size)⟩
          obtain rfl := hw1.symm
          refine hK.out _ _ (fun _ => by exact HS.out _ HB0.out) ?_
          clear hK K'
          refine wpAnyT_one (i := 7) (by kernel_rfl) rfl rfl (fun K' hK => ?_)
          go_simp
          go_at_call 35
          refine (HTL.out.busG HO.out.hb (HWB.out.trans (HB0.out.mono (by have := HWZ.out; omega))) L.to).mono ?_
          rintro e w1 ⟨⟨rfl, i2a, i2b⟩ | ⟨rfl, hno⟩, hw1⟩
          rotate_left
          · obtain rfl := hw1.symm
            exact ⟨rfl, .inr ⟨rfl, fun hm => hno ⟨by have := HMY.out hm; omega, by have := HMY.out hm; omega⟩⟩, HTL.out.bel.trans ((HWB.out.trans (HB0.out.mono (by have := HWZ.out; omega))).mono HTL.out.bel.size)⟩
          obtain rfl := hw1.symm
          refine hK.out _ _ (fun _ => by exact HS.out _ HB0.out) ?_
          clear hK K'
          refine wpAnyT_one (i := 10) (by kernel_rfl) rfl rfl (fun K' hK => ?_)
          go_simp
          go_at_call 36
          refine (itoaG HTB.out (HTL.out.bel.trans ((HWB.out.trans (HB0.out.mono (by have := HWZ.out; omega))).mono HTL.out.bel.size)) L.worth (by have := HGL.out; simp only [I6] at this; omega) (by have := HGL.out; simp only [I6] at this; omega)).mono ?_
          rintro e v3 ⟨rfl, hb3⟩
          have HB3 : Hid (Below WL.heap.size WL v3) := HB0.out.trans (hb3.mono HB0.out.size)
          clear hb3
          refine hK.out _ _ (fun _ => by exact HS.out _ HB3.out) ?_
          clear hK K'
          refine wpAnyT_one (i := 13) (by kernel_rfl) rfl rfl (fun K' hK => ?_)
          go_simp
          go_at_call 36
          refine (itoaG HTB.out (HTL.out.bel.trans ((HWB.out.trans (HB3.out.mono (by have := HWZ.out; omega))).mono HTL.out.bel.size)) L.limit (by have := HGL.out; simp only [I6] at this; omega) (by have := HGL.out; simp only [I6] at this; omega)).mono ?_
          rintro e v4 ⟨rfl, hb4⟩
          have HB4 : Hid (Below WL.heap.size WL v4) := HB3.out.trans (hb4.mono HB3.out.size)
          clear hb4
          refine hK.out _ _ (fun _ => by exact HS.out _ HB4.out) ?_
          clear hK K'
          refine wpAnyT_one (i := 14) (by kernel_rfl) rfl rfl (fun K' hK => ?_)
          go_simp
          refine hK.out _ _ (fun _ => by exact HS.out _ (HB4.out.alloc HB4.out.size _)) ?_
          clear hK K'
          refine wpAnyT_one (i := 15) (by kernel_rfl) rfl rfl (fun K' hK => ?_)
          go_simp
          go_at_call 34
          have hln := HTL.out.lineG HLE.out (HWB.out.trans (HB4.out.mono (by have := HWZ.out; omega))) (wordsLine N N.lines[k]) (n := 6) rfl rfl (by rw [← HL0.out]; exact wordsLine_len HSM.out HGL.out) (by decide)
          rw [take_snoc (tm2 N) (wordsLine N) N.lines k hlt, ← HL0.out] at hln
          have hln' : Calls Tryz.prog 34 #[.pointer (some ⟨w.heap.size + 1, 0, none⟩), .slice (some ⟨v4.heap.size, 0, none⟩) 6 6] (v4.alloc (.cells #[.string ⟨#[108, 105, 110, 101]⟩, .string L.name, .string (busAt N L.frm), .string (busAt N L.to), .string (decB L.worth), .string (decB L.limit)] 9)) _ := hln
          refine hln'.mono ?_
          rintro e w2 (⟨rfl, htl, hle⟩ | ⟨rfl, hov, hbo⟩)
          rotate_left
          · exact ⟨rfl, .inr ⟨rfl, over_not hov (pre_take (tm2_pre N) (k + 1))⟩, hbo⟩
          refine hK.out _ _ (fun h => absurd rfl h) ?_
          clear hK K'
          refine wpAnyT_done (by kernel_rfl) ?_ _
          have HTL2 := hide' htl
          have HLE2 := hide' hle
          clear htl hle hln hln' HL0 HS k0 k1 k2 k3 k4
          go_wp2
          exact ⟨⟨k + 1, by go_num, by omega, HTL2, HLE2⟩, by simp [intOf]; omega⟩
        · have HTL1 : Hid (Tl w wr N (.slice ab N.buses.length cb) (.slice al N.lines.length cl) (.slice ag N.gens.length cg) (.slice ad N.loads.length cd) (.slice at' N.ties.length ct) (tm3 N)) := by
            have := HTL.out
            rwa [take_all _ _ _ hk hlt] at this
          have HLE1 : Hid ((textT (tm3 N)).length ≤ 20000) := by
            have := HLE.out
            rwa [take_all _ _ _ hk hlt] at this
          obtain ⟨c1, c2, c3, c4, c5⟩ := cells32 HTL.out.net
          clear HTL HLE
          go_wp2_with fail
          clear hlt hk c1 c2 c3 c4 c5
          go_loopw [59] (fun si wr => ∃ k : Nat, si = .int .i64 k ∧ k ≤ N.gens.length ∧ Hid (Tl w wr N (.slice ab N.buses.length cb) (.slice al N.lines.length cl) (.slice ag N.gens.length cg) (.slice ad N.loads.length cd) (.slice at' N.ties.length ct) (tm3 N ++ (N.gens.take k).map (wordsGen N))) ∧ Hid ((textT (tm3 N ++ (N.gens.take k).map (wordsGen N))).length ≤ 20000)) (fun si _ => N.gens.length - (intOf si).toNat)
          case atStart => exact ⟨0, rfl, Nat.zero_le _, by have := HTL1.out; rwa [← List.append_nil (tm3 N)] at this, by have := HLE1.out; rwa [← List.append_nil (tm3 N)] at this⟩
          case round =>
            clear HTL1 HLE1
            obtain ⟨k, rfl, hk, HTL, HLE⟩ := hrel
            by_cases hlt : k < N.gens.length
            · obtain ⟨bx, ox, hax, hx⟩ := elem_cells (f := GenM.cells) (sz := 5) (fun _ => rfl) HO.out.hg k hlt (by decide)
              subst hax
              have hg := HSM.out.gens _ (List.getElem_mem hlt)
              have hmay : MayM N → _ := fun h => h.gens _ (List.getElem_mem hlt)
              obtain ⟨L, hL⟩ : ∃ L, L = N.gens[k] := ⟨_, rfl⟩
              rw [← hL] at hx hg hmay
              have kp : ∀ {p v}, w.cell? p = some v → wr.cell? p = some v := fun h => (HTL.out.bel.cell (World.block_lt_of_cell? w _ h)).trans h
              have e0 : wr.cell? ⟨bx, ox + k * 5, none⟩ = some (.string L.name) := kp (hx 0 _ rfl)
              have e1 : wr.cell? ⟨bx, ox + k * 5 + 1, none⟩ = some (.int .i64 L.bus) := kp (hx 1 _ rfl)
              have e2 : wr.cell? ⟨bx, ox + k * 5 + 2, none⟩ = some (.int .i64 L.least) := kp (hx 2 _ rfl)
              have e3 : wr.cell? ⟨bx, ox + k * 5 + 3, none⟩ = some (.int .i64 L.most) := kp (hx 3 _ rfl)
              have e4 : wr.cell? ⟨bx, ox + k * 5 + 4, none⟩ = some (.int .i64 L.cost) := kp (hx 4 _ rfl)
              have HGL := hide' hg
              have HMY := hide' hmay
              have HL0 := hide' hL
              clear hx hg kp hL hmay
              go_wp2_with fail
              obtain ⟨WL, hWL⟩ : ∃ WL, WL = wr.alloc (.cells #[.string L.name, .int .i64 L.bus, .int .i64 L.least, .int .i64 L.most, .int .i64 L.cost] 46) := ⟨_, rfl⟩
              have k0 : WL.cell? ⟨wr.heap.size, 0, none⟩ = some (.string L.name) := by rw [hWL]; simp [go_sem]
              have k1 : WL.cell? ⟨wr.heap.size, 1, none⟩ = some (.int .i64 L.bus) := by rw [hWL]; simp [go_sem]
              have k2 : WL.cell? ⟨wr.heap.size, 2, none⟩ = some (.int .i64 L.least) := by rw [hWL]; simp [go_sem]
              have k3 : WL.cell? ⟨wr.heap.size, 3, none⟩ = some (.int .i64 L.most) := by rw [hWL]; simp [go_sem]
              have k4 : WL.cell? ⟨wr.heap.size, 4, none⟩ = some (.int .i64 L.cost) := by rw [hWL]; simp [go_sem]
              have hWb : Below wr.heap.size wr WL := by rw [hWL]; exact (Below.refl _ wr).alloc (Nat.le_refl _) _
              have hWz : WL.heap.size = wr.heap.size + 1 := by rw [hWL]; simp
              rw [← hWL]
              have hS : ∀ W, Below WL.heap.size WL W → W.cell? ⟨wr.heap.size, 0, none⟩ = some (.string L.name) ∧ W.cell? ⟨wr.heap.size, 1, none⟩ = some (.int .i64 L.bus) ∧ W.cell? ⟨wr.heap.size, 2, none⟩ = some (.int .i64 L.least) ∧ W.cell? ⟨wr.heap.size, 3, none⟩ = some (.int .i64 L.most) ∧ W.cell? ⟨wr.heap.size, 4, none⟩ = some (.int .i64 L.cost) := fun W h => ⟨(h.cell (World.block_lt_of_cell? WL _ k0)).trans k0, (h.cell (World.block_lt_of_cell? WL _ k1)).trans k1, (h.cell (World.block_lt_of_cell? WL _ k2)).trans k2, (h.cell (World.block_lt_of_cell? WL _ k3)).trans k3, (h.cell (World.block_lt_of_cell? WL _ k4)).trans k4⟩
              have HS := hide' hS
              have HWB := hide' hWb
              have HWZ := hide' hWz
              clear hWL hS hWb hWz e0 e1 e2 e3 e4
              have HB0 : Hid (Below WL.heap.size WL WL.drew) := (Below.refl _ WL).drew
              refine wp_region_tail (fun W => W.cell? ⟨wr.heap.size, 0, none⟩ = some (.string L.name) ∧ W.cell? ⟨wr.heap.size, 1, none⟩ = some (.int .i64 L.bus) ∧ W.cell? ⟨wr.heap.size, 2, none⟩ = some (.int .i64 L.least) ∧ W.cell? ⟨wr.heap.size, 3, none⟩ = some (.int .i64 L.most) ∧ W.cell? ⟨wr.heap.size, 4, none⟩ = some (.int .i64 L.cost)) 15 (by kernel_rfl) ?_
              refine wpAnyD_takeAt 0 (some 63) (v := ?_) rfl (by kernel_rfl) (by kernel_rfl) (by kernel_rfl) (by kernel_rfl) (by kernel_rfl) (fun _ _ _ h => h) (by exact ⟨k0, k1, k2, k3, k4⟩) (fun o hop => ?_) ?_
              rotate_left
              · injection hop with hop
                subst hop
                refine ⟨rfl, fun W hW => ?_⟩
                obtain ⟨s0, s1, s2, s3, s4⟩ := hW
                go_simp
                rfl
              try simp only [Act.put, List.setIfInBounds_toArray, List.set_cons_zero, List.set_cons_succ]
              refine wpAnyD_takeAt 1 (some 64) (v := ?_) rfl (by kernel_rfl) (by kernel_rfl) (by kernel_rfl) (by kernel_rfl) (by kernel_rfl) (fun _ _ _ h => h) (by exact ⟨k0, k1, k2, k3, k4⟩) (fun o hop => ?_) ?_
              rotate_left
              · injection hop with hop
                subst hop
                refine ⟨rfl, fun W hW => ?_⟩
                obtain ⟨s0, s1, s2, s3, s4⟩ := hW
                go_simp
                rfl
              try simp only [Act.put, List.setIfInBounds_toArray, List.set_cons_zero, List.set_cons_succ]
              refine wpAnyD_takeAt 2 (some 65) (v := ?_) rfl (by kernel_rfl) (by kernel_rfl) (by kernel_rfl) (by kernel_rfl) (by kernel_rfl) (fun _ _ _ h => h) (by exact ⟨k0, k1, k2, k3, k4⟩) (fun o hop => ?_) ?_
              rotate_left
              · injection hop with hop
                subst hop
                refine ⟨rfl, fun W hW => ?_⟩
                obtain ⟨s0, s1, s2, s3, s4⟩ := hW
                go_simp
                rfl
              try simp only [Act.put, List.setIfInBounds_toArray, List.set_cons_zero, List.set_cons_succ]
              refine wpAnyD_takeAt 3 (some 66) (v := ?_) rfl (by kernel_rfl) (by kernel_rfl) (by kernel_rfl) (by kernel_rfl) (by kernel_rfl) (fun _ _ _ h => h) (by exact ⟨k0, k1, k2, k3, k4⟩) (fun o hop => ?_) ?_
              rotate_left
              · injection hop with hop
                subst hop
                refine ⟨rfl, fun W hW => ?_⟩
                obtain ⟨s0, s1, s2, s3, s4⟩ := hW
                go_simp
                rfl
              try simp only [Act.put, List.setIfInBounds_toArray, List.set_cons_zero, List.set_cons_succ]
              refine wpAnyD_takeAt 5 (some 68) (v := ?_) rfl (by kernel_rfl) (by kernel_rfl) (by kernel_rfl) (by kernel_rfl) (by kernel_rfl) (fun _ _ _ h => h) (by exact ⟨k0, k1, k2, k3, k4⟩) (fun o hop => ?_) ?_
              rotate_left
              · injection hop with hop
                subst hop
                refine ⟨rfl, fun W hW => ?_⟩
                obtain ⟨s0, s1, s2, s3, s4⟩ := hW
                go_simp
                rfl
              try simp only [Act.put, List.setIfInBounds_toArray, List.set_cons_zero, List.set_cons_succ]
              refine wpAnyD_takeAt 6 (some 69) (v := ?_) rfl (by kernel_rfl) (by kernel_rfl) (by kernel_rfl) (by kernel_rfl) (by kernel_rfl) (fun _ _ _ h => h) (by exact ⟨k0, k1, k2, k3, k4⟩) (fun o hop => ?_) ?_
              rotate_left
              · injection hop with hop
                subst hop
                refine ⟨rfl, fun W hW => ?_⟩
                obtain ⟨s0, s1, s2, s3, s4⟩ := hW
                go_simp
                rfl
              try simp only [Act.put, List.setIfInBounds_toArray, List.set_cons_zero, List.set_cons_succ]
              refine wpAnyD_takeAt 8 (some 71) (v := ?_) rfl (by kernel_rfl) (by kernel_rfl) (by kernel_rfl) (by kernel_rfl) (by kernel_rfl) (fun _ _ _ h => h) (by exact ⟨k0, k1, k2, k3, k4⟩) (fun o hop => ?_) ?_
              rotate_left
              · injection hop with hop
                subst hop
                refine ⟨rfl, fun W hW => ?_⟩
                obtain ⟨s0, s1, s2, s3, s4⟩ := hW
                go_simp
                rfl
              try simp only [Act.put, List.setIfInBounds_toArray, List.set_cons_zero, List.set_cons_succ]
              refine wpAnyD_takeAt 9 (some 72) (v := ?_) rfl (by kernel_rfl) (by kernel_rfl) (by kernel_rfl) (by kernel_rfl) (by kernel_rfl) (fun _ _ _ h => h) (by exact ⟨k0, k1, k2, k3, k4⟩) (fun o hop => ?_) ?_
              rotate_left
              · injection hop with hop
                subst hop
                refine ⟨rfl, fun W hW => ?_⟩
                obtain ⟨s0, s1, s2, s3, s4⟩ := hW
                go_simp
                rfl
              try simp only [Act.put, List.setIfInBounds_toArray, List.set_cons_zero, List.set_cons_succ]
              refine wpAnyD_takeAt 11 (some 74) (v := ?_) rfl (by kernel_rfl) (by kernel_rfl) (by kernel_rfl) (by kernel_rfl) (by kernel_rfl) (fun _ _ _ h => h) (by exact ⟨k0, k1, k2, k3, k4⟩) (fun o hop => ?_) ?_
              rotate_left
              · injection hop with hop
                subst hop
                refine ⟨rfl, fun W hW => ?_⟩
                obtain ⟨s0, s1, s2, s3, s4⟩ := hW
                go_simp
                rfl
              try simp only [Act.put, List.setIfInBounds_toArray, List.set_cons_zero, List.set_cons_succ]
              refine wpAnyD_takeAt 12 (some 75) (v := ?_) rfl (by kernel_rfl) (by kernel_rfl) (by kernel_rfl) (by kernel_rfl) (by kernel_rfl) (fun _ _ _ h => h) (by exact ⟨k0, k1, k2, k3, k4⟩) (fun o hop => ?_) ?_
              rotate_left
              · injection hop with hop
                subst hop
                refine ⟨rfl, fun W hW => ?_⟩
                obtain ⟨s0, s1, s2, s3, s4⟩ := hW
                go_simp
                rfl
              try simp only [Act.put, List.setIfInBounds_toArray, List.set_cons_zero, List.set_cons_succ]
              refine wpAnyT_one (i := 4) (by kernel_rfl) rfl rfl (fun K' hK => ?_)
              go_simp
              go_at_call 35
              refine (HTL.out.busG HO.out.hb (HWB.out.trans (HB0.out.mono (by have := HWZ.out; omega))) L.bus).mono ?_
              rintro e w1 ⟨⟨rfl, i1a, i1b⟩ | ⟨rfl, hno⟩, hw1⟩
              rotate_left
              · obtain rfl := hw1.symm
                exact ⟨rfl, .inr ⟨rfl, fun hm => hno ⟨by have := HMY.out hm; omega, by have := HMY.out hm; omega⟩⟩, HTL.out.bel.trans ((HWB.out.trans (HB0.out.mono (by have := HWZ.out; omega))).mono HTL.out.bel.size)⟩
              obtain rfl := hw1.symm
              refine hK.out _ _ (fun _ => by exact HS.out _ HB0.out) ?_
              clear hK K'
              refine wpAnyT_one (i := 7) (by kernel_rfl) rfl rfl (fun K' hK => ?_)
              go_simp
              go_at_call 36
              refine (itoaG HTB.out (HTL.out.bel.trans ((HWB.out.trans (HB0.out.mono (by have := HWZ.out; omega))).mono HTL.out.bel.size)) L.least (by have := HGL.out; simp only [I6] at this; omega) (by have := HGL.out; simp only [I6] at this; omega)).mono ?_
              rintro e v2 ⟨rfl, hb2⟩
              have HB2 : Hid (Below WL.heap.size WL v2) := HB0.out.trans (hb2.mono HB0.out.size)
              clear hb2
              refine hK.out _ _ (fun _ => by exact HS.out _ HB2.out) ?_
              clear hK K'
              refine wpAnyT_one (i := 10) (by kernel_rfl) rfl rfl (fun K' hK => ?_)
              go_simp
              go_at_call 36
              refine (itoaG HTB.out (HTL.out.bel.trans ((HWB.out.trans (HB2.out.mono (by have := HWZ.out; omega))).mono HTL.out.bel.size)) L.most (by have := HGL.out; simp only [I6] at this; omega) (by have := HGL.out; simp only [I6] at this; omega)).mono ?_
              rintro e v3 ⟨rfl, hb3⟩
              have HB3 : Hid (Below WL.heap.size WL v3) := HB2.out.trans (hb3.mono HB2.out.size)
              clear hb3
              refine hK.out _ _ (fun _ => by exact HS.out _ HB3.out) ?_
              clear hK K'
              refine wpAnyT_one (i := 13) (by kernel_rfl) rfl rfl (fun K' hK => ?_)
              go_simp
              go_at_call 36
              refine (itoaG HTB.out (HTL.out.bel.trans ((HWB.out.trans (HB3.out.mono (by have := HWZ.out; omega))).mono HTL.out.bel.size)) L.cost (by have := HGL.out; simp only [I6] at this; omega) (by have := HGL.out; simp only [I6] at this; omega)).mono ?_
              rintro e v4 ⟨rfl, hb4⟩
              have HB4 : Hid (Below WL.heap.size WL v4) := HB3.out.trans (hb4.mono HB3.out.size)
              clear hb4
              refine hK.out _ _ (fun _ => by exact HS.out _ HB4.out) ?_
              clear hK K'
              refine wpAnyT_one (i := 14) (by kernel_rfl) rfl rfl (fun K' hK => ?_)
              go_simp
              refine hK.out _ _ (fun _ => by exact HS.out _ (HB4.out.alloc HB4.out.size _)) ?_
              clear hK K'
              refine wpAnyT_one (i := 15) (by kernel_rfl) rfl rfl (fun K' hK => ?_)
              go_simp
              go_at_call 34
              have hln := HTL.out.lineG HLE.out (HWB.out.trans (HB4.out.mono (by have := HWZ.out; omega))) (wordsGen N N.gens[k]) (n := 6) rfl rfl (by rw [← HL0.out]; exact wordsGen_len HSM.out HGL.out) (by decide)
              rw [take_snoc (tm3 N) (wordsGen N) N.gens k hlt, ← HL0.out] at hln
              have hln' : Calls Tryz.prog 34 #[.pointer (some ⟨w.heap.size + 1, 0, none⟩), .slice (some ⟨v4.heap.size, 0, none⟩) 6 6] (v4.alloc (.cells #[.string ⟨#[103, 101, 110]⟩, .string L.name, .string (busAt N L.bus), .string (decB L.least), .string (decB L.most), .string (decB L.cost)] 9)) _ := hln
              refine hln'.mono ?_
              rintro e w2 (⟨rfl, htl, hle⟩ | ⟨rfl, hov, hbo⟩)
              rotate_left
              · exact ⟨rfl, .inr ⟨rfl, over_not hov (pre_take (tm3_pre N) (k + 1))⟩, hbo⟩
              refine hK.out _ _ (fun h => absurd rfl h) ?_
              clear hK K'
              refine wpAnyT_done (by kernel_rfl) ?_ _
              have HTL2 := hide' htl
              have HLE2 := hide' hle
              clear htl hle hln hln' HL0 HS k0 k1 k2 k3 k4
              go_wp2
              exact ⟨⟨k + 1, by go_num, by omega, HTL2, HLE2⟩, by simp [intOf]; omega⟩
            · have HTL1 : Hid (Tl w wr N (.slice ab N.buses.length cb) (.slice al N.lines.length cl) (.slice ag N.gens.length cg) (.slice ad N.loads.length cd) (.slice at' N.ties.length ct) (tm4 N)) := by
                have := HTL.out
                rwa [take_all _ _ _ hk hlt] at this
              have HLE1 : Hid ((textT (tm4 N)).length ≤ 20000) := by
                have := HLE.out
                rwa [take_all _ _ _ hk hlt] at this
              obtain ⟨c1, c2, c3, c4, c5⟩ := cells32 HTL.out.net
              clear HTL HLE
              go_wp2_with fail
              clear hlt hk c1 c2 c3 c4 c5
              go_loopw [83] (fun si wr => ∃ k : Nat, si = .int .i64 k ∧ k ≤ N.loads.length ∧ Hid (Tl w wr N (.slice ab N.buses.length cb) (.slice al N.lines.length cl) (.slice ag N.gens.length cg) (.slice ad N.loads.length cd) (.slice at' N.ties.length ct) (tm4 N ++ (N.loads.take k).map (wordsLoad N))) ∧ Hid ((textT (tm4 N ++ (N.loads.take k).map (wordsLoad N))).length ≤ 20000)) (fun si _ => N.loads.length - (intOf si).toNat)
              case atStart => exact ⟨0, rfl, Nat.zero_le _, by have := HTL1.out; rwa [← List.append_nil (tm4 N)] at this, by have := HLE1.out; rwa [← List.append_nil (tm4 N)] at this⟩
              case round =>
                clear HTL1 HLE1
                obtain ⟨k, rfl, hk, HTL, HLE⟩ := hrel
                by_cases hlt : k < N.loads.length
                · obtain ⟨bx, ox, hax, hx⟩ := elem_cells (f := LoadM.cells) (sz := 3) (fun _ => rfl) HO.out.hd k hlt (by decide)
                  subst hax
                  have hg := HSM.out.loads _ (List.getElem_mem hlt)
                  have hmay : MayM N → _ := fun h => h.loads _ (List.getElem_mem hlt)
                  obtain ⟨L, hL⟩ : ∃ L, L = N.loads[k] := ⟨_, rfl⟩
                  rw [← hL] at hx hg hmay
                  have kp : ∀ {p v}, w.cell? p = some v → wr.cell? p = some v := fun h => (HTL.out.bel.cell (World.block_lt_of_cell? w _ h)).trans h
                  have e0 : wr.cell? ⟨bx, ox + k * 3, none⟩ = some (.string L.name) := kp (hx 0 _ rfl)
                  have e1 : wr.cell? ⟨bx, ox + k * 3 + 1, none⟩ = some (.int .i64 L.bus) := kp (hx 1 _ rfl)
                  have e2 : wr.cell? ⟨bx, ox + k * 3 + 2, none⟩ = some (.int .i64 L.power) := kp (hx 2 _ rfl)
                  have HGL := hide' hg
                  have HMY := hide' hmay
                  have HL0 := hide' hL
                  clear hx hg kp hL hmay
                  go_wp2_with fail
                  obtain ⟨WL, hWL⟩ : ∃ WL, WL = wr.alloc (.cells #[.string L.name, .int .i64 L.bus, .int .i64 L.power] 51) := ⟨_, rfl⟩
                  have k0 : WL.cell? ⟨wr.heap.size, 0, none⟩ = some (.string L.name) := by rw [hWL]; simp [go_sem]
                  have k1 : WL.cell? ⟨wr.heap.size, 1, none⟩ = some (.int .i64 L.bus) := by rw [hWL]; simp [go_sem]
                  have k2 : WL.cell? ⟨wr.heap.size, 2, none⟩ = some (.int .i64 L.power) := by rw [hWL]; simp [go_sem]
                  have hWb : Below wr.heap.size wr WL := by rw [hWL]; exact (Below.refl _ wr).alloc (Nat.le_refl _) _
                  have hWz : WL.heap.size = wr.heap.size + 1 := by rw [hWL]; simp
                  rw [← hWL]
                  have hS : ∀ W, Below WL.heap.size WL W → W.cell? ⟨wr.heap.size, 0, none⟩ = some (.string L.name) ∧ W.cell? ⟨wr.heap.size, 1, none⟩ = some (.int .i64 L.bus) ∧ W.cell? ⟨wr.heap.size, 2, none⟩ = some (.int .i64 L.power) := fun W h => ⟨(h.cell (World.block_lt_of_cell? WL _ k0)).trans k0, (h.cell (World.block_lt_of_cell? WL _ k1)).trans k1, (h.cell (World.block_lt_of_cell? WL _ k2)).trans k2⟩
                  have HS := hide' hS
                  have HWB := hide' hWb
                  have HWZ := hide' hWz
                  clear hWL hS hWb hWz e0 e1 e2
                  have HB0 : Hid (Below WL.heap.size WL WL.drew) := (Below.refl _ WL).drew
                  refine wp_region_tail (fun W => W.cell? ⟨wr.heap.size, 0, none⟩ = some (.string L.name) ∧ W.cell? ⟨wr.heap.size, 1, none⟩ = some (.int .i64 L.bus) ∧ W.cell? ⟨wr.heap.size, 2, none⟩ = some (.int .i64 L.power)) 9 (by kernel_rfl) ?_
                  refine wpAnyD_takeAt 0 (some 87) (v := ?_) rfl (by kernel_rfl) (by kernel_rfl) (by kernel_rfl) (by kernel_rfl) (by kernel_rfl) (fun _ _ _ h => h) (by exact ⟨k0, k1, k2⟩) (fun o hop => ?_) ?_
                  rotate_left
                  · injection hop with hop
                    subst hop
                    refine ⟨rfl, fun W hW => ?_⟩
                    obtain ⟨s0, s1, s2⟩ := hW
                    go_simp
                    rfl
                  try simp only [Act.put, List.setIfInBounds_toArray, List.set_cons_zero, List.set_cons_succ]
                  refine wpAnyD_takeAt 1 (some 88) (v := ?_) rfl (by kernel_rfl) (by kernel_rfl) (by kernel_rfl) (by kernel_rfl) (by kernel_rfl) (fun _ _ _ h => h) (by exact ⟨k0, k1, k2⟩) (fun o hop => ?_) ?_
                  rotate_left
                  · injection hop with hop
                    subst hop
                    refine ⟨rfl, fun W hW => ?_⟩
                    obtain ⟨s0, s1, s2⟩ := hW
                    go_simp
                    rfl
                  try simp only [Act.put, List.setIfInBounds_toArray, List.set_cons_zero, List.set_cons_succ]
                  refine wpAnyD_takeAt 2 (some 89) (v := ?_) rfl (by kernel_rfl) (by kernel_rfl) (by kernel_rfl) (by kernel_rfl) (by kernel_rfl) (fun _ _ _ h => h) (by exact ⟨k0, k1, k2⟩) (fun o hop => ?_) ?_
                  rotate_left
                  · injection hop with hop
                    subst hop
                    refine ⟨rfl, fun W hW => ?_⟩
                    obtain ⟨s0, s1, s2⟩ := hW
                    go_simp
                    rfl
                  try simp only [Act.put, List.setIfInBounds_toArray, List.set_cons_zero, List.set_cons_succ]
                  refine wpAnyD_takeAt 3 (some 90) (v := ?_) rfl (by kernel_rfl) (by kernel_rfl) (by kernel_rfl) (by kernel_rfl) (by kernel_rfl) (fun _ _ _ h => h) (by exact ⟨k0, k1, k2⟩) (fun o hop => ?_) ?_
                  rotate_left
                  · injection hop with hop
                    subst hop
                    refine ⟨rfl, fun W hW => ?_⟩
                    obtain ⟨s0, s1, s2⟩ := hW
                    go_simp
                    rfl
                  try simp only [Act.put, List.setIfInBounds_toArray, List.set_cons_zero, List.set_cons_succ]
                  refine wpAnyD_takeAt 5 (some 92) (v := ?_) rfl (by kernel_rfl) (by kernel_rfl) (by kernel_rfl) (by kernel_rfl) (by kernel_rfl) (fun _ _ _ h => h) (by exact ⟨k0, k1, k2⟩) (fun o hop => ?_) ?_
                  rotate_left
                  · injection hop with hop
                    subst hop
                    refine ⟨rfl, fun W hW => ?_⟩
                    obtain ⟨s0, s1, s2⟩ := hW
                    go_simp
                    rfl
                  try simp only [Act.put, List.setIfInBounds_toArray, List.set_cons_zero, List.set_cons_succ]
                  refine wpAnyD_takeAt 6 (some 93) (v := ?_) rfl (by kernel_rfl) (by kernel_rfl) (by kernel_rfl) (by kernel_rfl) (by kernel_rfl) (fun _ _ _ h => h) (by exact ⟨k0, k1, k2⟩) (fun o hop => ?_) ?_
                  rotate_left
                  · injection hop with hop
                    subst hop
                    refine ⟨rfl, fun W hW => ?_⟩
                    obtain ⟨s0, s1, s2⟩ := hW
                    go_simp
                    rfl
                  try simp only [Act.put, List.setIfInBounds_toArray, List.set_cons_zero, List.set_cons_succ]
                  refine wpAnyT_one (i := 4) (by kernel_rfl) rfl rfl (fun K' hK => ?_)
                  go_simp
                  go_at_call 35
                  refine (HTL.out.busG HO.out.hb (HWB.out.trans (HB0.out.mono (by have := HWZ.out; omega))) L.bus).mono ?_
                  rintro e w1 ⟨⟨rfl, i1a, i1b⟩ | ⟨rfl, hno⟩, hw1⟩
                  rotate_left
                  · obtain rfl := hw1.symm
                    exact ⟨rfl, .inr ⟨rfl, fun hm => hno ⟨by have := HMY.out hm; omega, by have := HMY.out hm; omega⟩⟩, HTL.out.bel.trans ((HWB.out.trans (HB0.out.mono (by have := HWZ.out; omega))).mono HTL.out.bel.size)⟩
                  obtain rfl := hw1.symm
                  refine hK.out _ _ (fun _ => by exact HS.out _ HB0.out) ?_
                  clear hK K'
                  refine wpAnyT_one (i := 7) (by kernel_rfl) rfl rfl (fun K' hK => ?_)
                  go_simp
                  go_at_call 36
                  refine (itoaG HTB.out (HTL.out.bel.trans ((HWB.out.trans (HB0.out.mono (by have := HWZ.out; omega))).mono HTL.out.bel.size)) L.power (by have := HGL.out; simp only [I6] at this; omega) (by have := HGL.out; simp only [I6] at this; omega)).mono ?_
                  rintro e v2 ⟨rfl, hb2⟩
                  have HB2 : Hid (Below WL.heap.size WL v2) := HB0.out.trans (hb2.mono HB0.out.size)
                  clear hb2
                  refine hK.out _ _ (fun _ => by exact HS.out _ HB2.out) ?_
                  clear hK K'
                  refine wpAnyT_one (i := 8) (by kernel_rfl) rfl rfl (fun K' hK => ?_)
                  go_simp
                  refine hK.out _ _ (fun _ => by exact HS.out _ (HB2.out.alloc HB2.out.size _)) ?_
                  clear hK K'
                  refine wpAnyT_one (i := 9) (by kernel_rfl) rfl rfl (fun K' hK => ?_)
                  go_simp
                  go_at_call 34
                  have hln := HTL.out.lineG HLE.out (HWB.out.trans (HB2.out.mono (by have := HWZ.out; omega))) (wordsLoad N N.loads[k]) (n := 4) rfl rfl (by rw [← HL0.out]; exact wordsLoad_len HSM.out HGL.out) (by decide)
                  rw [take_snoc (tm4 N) (wordsLoad N) N.loads k hlt, ← HL0.out] at hln
                  have hln' : Calls Tryz.prog 34 #[.pointer (some ⟨w.heap.size + 1, 0, none⟩), .slice (some ⟨v2.heap.size, 0, none⟩) 4 4] (v2.alloc (.cells #[.string ⟨#[108, 111, 97, 100]⟩, .string L.name, .string (busAt N L.bus), .string (decB L.power)] 9)) _ := hln
                  refine hln'.mono ?_
                  rintro e w2 (⟨rfl, htl, hle⟩ | ⟨rfl, hov, hbo⟩)
                  rotate_left
                  · exact ⟨rfl, .inr ⟨rfl, over_not hov (pre_take (tm4_pre N) (k + 1))⟩, hbo⟩
                  refine hK.out _ _ (fun h => absurd rfl h) ?_
                  clear hK K'
                  refine wpAnyT_done (by kernel_rfl) ?_ _
                  have HTL2 := hide' htl
                  have HLE2 := hide' hle
                  clear htl hle hln hln' HL0 HS k0 k1 k2
                  go_wp2
                  exact ⟨⟨k + 1, by go_num, by omega, HTL2, HLE2⟩, by simp [intOf]; omega⟩
                · have HTL1 : Hid (Tl w wr N (.slice ab N.buses.length cb) (.slice al N.lines.length cl) (.slice ag N.gens.length cg) (.slice ad N.loads.length cd) (.slice at' N.ties.length ct) (tm5 N)) := by
                    have := HTL.out
                    rwa [take_all _ _ _ hk hlt] at this
                  have HLE1 : Hid ((textT (tm5 N)).length ≤ 20000) := by
                    have := HLE.out
                    rwa [take_all _ _ _ hk hlt] at this
                  obtain ⟨c1, c2, c3, c4, c5⟩ := cells32 HTL.out.net
                  clear HTL HLE
                  go_wp2_with fail
                  clear hlt hk c1 c2 c3 c4 c5
                  go_loopw [101] (fun si wr => ∃ k : Nat, si = .int .i64 k ∧ k ≤ N.ties.length ∧ Hid (Tl w wr N (.slice ab N.buses.length cb) (.slice al N.lines.length cl) (.slice ag N.gens.length cg) (.slice ad N.loads.length cd) (.slice at' N.ties.length ct) (tm5 N ++ (N.ties.take k).map (wordsTie N))) ∧ Hid ((textT (tm5 N ++ (N.ties.take k).map (wordsTie N))).length ≤ 20000)) (fun si _ => N.ties.length - (intOf si).toNat)
                  case atStart => exact ⟨0, rfl, Nat.zero_le _, by have := HTL1.out; rwa [← List.append_nil (tm5 N)] at this, by have := HLE1.out; rwa [← List.append_nil (tm5 N)] at this⟩
                  case round =>
                    clear HTL1 HLE1
                    obtain ⟨k, rfl, hk, HTL, HLE⟩ := hrel
                    by_cases hlt : k < N.ties.length
                    · obtain ⟨bx, ox, hax, hx⟩ := elem_cells (f := TieM.cells) (sz := 4) (fun _ => rfl) HO.out.ht k hlt (by decide)
                      subst hax
                      have hg := HSM.out.ties _ (List.getElem_mem hlt)
                      have hmay : MayM N → _ := fun h => h.ties _ (List.getElem_mem hlt)
                      obtain ⟨L, hL⟩ : ∃ L, L = N.ties[k] := ⟨_, rfl⟩
                      rw [← hL] at hx hg hmay
                      have kp : ∀ {p v}, w.cell? p = some v → wr.cell? p = some v := fun h => (HTL.out.bel.cell (World.block_lt_of_cell? w _ h)).trans h
                      have e0 : wr.cell? ⟨bx, ox + k * 4, none⟩ = some (.string L.name) := kp (hx 0 _ rfl)
                      have e1 : wr.cell? ⟨bx, ox + k * 4 + 1, none⟩ = some (.int .i64 L.frm) := kp (hx 1 _ rfl)
                      have e2 : wr.cell? ⟨bx, ox + k * 4 + 2, none⟩ = some (.int .i64 L.to) := kp (hx 2 _ rfl)
                      have e3 : wr.cell? ⟨bx, ox + k * 4 + 3, none⟩ = some (.bool L.closed) := kp (hx 3 _ rfl)
                      have HGL := hide' hg
                      have HMY := hide' hmay
                      have HL0 := hide' hL
                      clear hx hg kp hL hmay
                      go_wp2_with fail
                      obtain ⟨WL, hWL⟩ : ∃ WL, WL = wr.alloc (.cells #[.string L.name, .int .i64 L.frm, .int .i64 L.to, .bool L.closed] 56) := ⟨_, rfl⟩
                      have k0 : WL.cell? ⟨wr.heap.size, 0, none⟩ = some (.string L.name) := by rw [hWL]; simp [go_sem]
                      have k1 : WL.cell? ⟨wr.heap.size, 1, none⟩ = some (.int .i64 L.frm) := by rw [hWL]; simp [go_sem]
                      have k2 : WL.cell? ⟨wr.heap.size, 2, none⟩ = some (.int .i64 L.to) := by rw [hWL]; simp [go_sem]
                      have k3 : WL.cell? ⟨wr.heap.size, 3, none⟩ = some (.bool L.closed) := by rw [hWL]; simp [go_sem]
                      have hWb : Below wr.heap.size wr WL := by rw [hWL]; exact (Below.refl _ wr).alloc (Nat.le_refl _) _
                      have hWz : WL.heap.size = wr.heap.size + 1 := by rw [hWL]; simp
                      rw [← hWL]
                      have hS : ∀ W, Below WL.heap.size WL W → W.cell? ⟨wr.heap.size, 0, none⟩ = some (.string L.name) ∧ W.cell? ⟨wr.heap.size, 1, none⟩ = some (.int .i64 L.frm) ∧ W.cell? ⟨wr.heap.size, 2, none⟩ = some (.int .i64 L.to) ∧ W.cell? ⟨wr.heap.size, 3, none⟩ = some (.bool L.closed) := fun W h => ⟨(h.cell (World.block_lt_of_cell? WL _ k0)).trans k0, (h.cell (World.block_lt_of_cell? WL _ k1)).trans k1, (h.cell (World.block_lt_of_cell? WL _ k2)).trans k2, (h.cell (World.block_lt_of_cell? WL _ k3)).trans k3⟩
                      have HS := hide' hS
                      have HWB := hide' hWb
                      have HWZ := hide' hWz
                      clear hWL hS hWb hWz e0 e1 e2 e3
                      have HB0 : Hid (Below WL.heap.size WL WL.drew) := (Below.refl _ WL).drew
                      refine wp_region_tail (fun W => W.cell? ⟨wr.heap.size, 0, none⟩ = some (.string L.name) ∧ W.cell? ⟨wr.heap.size, 1, none⟩ = some (.int .i64 L.frm) ∧ W.cell? ⟨wr.heap.size, 2, none⟩ = some (.int .i64 L.to) ∧ W.cell? ⟨wr.heap.size, 3, none⟩ = some (.bool L.closed)) 12 (by kernel_rfl) ?_
                      refine wpAnyD_takeAt 0 (some 105) (v := ?_) rfl (by kernel_rfl) (by kernel_rfl) (by kernel_rfl) (by kernel_rfl) (by kernel_rfl) (fun _ _ _ h => h) (by exact ⟨k0, k1, k2, k3⟩) (fun o hop => ?_) ?_
                      rotate_left
                      · injection hop with hop
                        subst hop
                        refine ⟨rfl, fun W hW => ?_⟩
                        obtain ⟨s0, s1, s2, s3⟩ := hW
                        go_simp
                        rfl
                      try simp only [Act.put, List.setIfInBounds_toArray, List.set_cons_zero, List.set_cons_succ]
                      refine wpAnyD_takeAt 1 (some 106) (v := ?_) rfl (by kernel_rfl) (by kernel_rfl) (by kernel_rfl) (by kernel_rfl) (by kernel_rfl) (fun _ _ _ h => h) (by exact ⟨k0, k1, k2, k3⟩) (fun o hop => ?_) ?_
                      rotate_left
                      · injection hop with hop
                        subst hop
                        refine ⟨rfl, fun W hW => ?_⟩
                        obtain ⟨s0, s1, s2, s3⟩ := hW
                        go_simp
                        rfl
                      try simp only [Act.put, List.setIfInBounds_toArray, List.set_cons_zero, List.set_cons_succ]
                      refine wpAnyD_takeAt 2 (some 107) (v := ?_) rfl (by kernel_rfl) (by kernel_rfl) (by kernel_rfl) (by kernel_rfl) (by kernel_rfl) (fun _ _ _ h => h) (by exact ⟨k0, k1, k2, k3⟩) (fun o hop => ?_) ?_
                      rotate_left
                      · injection hop with hop
                        subst hop
                        refine ⟨rfl, fun W hW => ?_⟩
                        obtain ⟨s0, s1, s2, s3⟩ := hW
                        go_simp
                        rfl
                      try simp only [Act.put, List.setIfInBounds_toArray, List.set_cons_zero, List.set_cons_succ]
                      refine wpAnyD_takeAt 3 (some 108) (v := ?_) rfl (by kernel_rfl) (by kernel_rfl) (by kernel_rfl) (by kernel_rfl) (by kernel_rfl) (fun _ _ _ h => h) (by exact ⟨k0, k1, k2, k3⟩) (fun o hop => ?_) ?_
                      rotate_left
                      · injection hop with hop
                        subst hop
                        refine ⟨rfl, fun W hW => ?_⟩
                        obtain ⟨s0, s1, s2, s3⟩ := hW
                        go_simp
                        rfl
                      try simp only [Act.put, List.setIfInBounds_toArray, List.set_cons_zero, List.set_cons_succ]
                      refine wpAnyD_takeAt 5 (some 110) (v := ?_) rfl (by kernel_rfl) (by kernel_rfl) (by kernel_rfl) (by kernel_rfl) (by kernel_rfl) (fun _ _ _ h => h) (by exact ⟨k0, k1, k2, k3⟩) (fun o hop => ?_) ?_
                      rotate_left
                      · injection hop with hop
                        subst hop
                        refine ⟨rfl, fun W hW => ?_⟩
                        obtain ⟨s0, s1, s2, s3⟩ := hW
                        go_simp
                        rfl
                      try simp only [Act.put, List.setIfInBounds_toArray, List.set_cons_zero, List.set_cons_succ]
                      refine wpAnyD_takeAt 6 (some 111) (v := ?_) rfl (by kernel_rfl) (by kernel_rfl) (by kernel_rfl) (by kernel_rfl) (by kernel_rfl) (fun _ _ _ h => h) (by exact ⟨k0, k1, k2, k3⟩) (fun o hop => ?_) ?_
                      rotate_left
                      · injection hop with hop
                        subst hop
                        refine ⟨rfl, fun W hW => ?_⟩
                        obtain ⟨s0, s1, s2, s3⟩ := hW
                        go_simp
                        rfl
                      try simp only [Act.put, List.setIfInBounds_toArray, List.set_cons_zero, List.set_cons_succ]
                      refine wpAnyD_takeAt 8 (some 113) (v := ?_) rfl (by kernel_rfl) (by kernel_rfl) (by kernel_rfl) (by kernel_rfl) (by kernel_rfl) (fun _ _ _ h => h) (by exact ⟨k0, k1, k2, k3⟩) (fun o hop => ?_) ?_
                      rotate_left
                      · injection hop with hop
                        subst hop
                        refine ⟨rfl, fun W hW => ?_⟩
                        obtain ⟨s0, s1, s2, s3⟩ := hW
                        go_simp
                        rfl
                      try simp only [Act.put, List.setIfInBounds_toArray, List.set_cons_zero, List.set_cons_succ]
                      refine wpAnyD_takeAt 9 (some 114) (v := ?_) rfl (by kernel_rfl) (by kernel_rfl) (by kernel_rfl) (by kernel_rfl) (by kernel_rfl) (fun _ _ _ h => h) (by exact ⟨k0, k1, k2, k3⟩) (fun o hop => ?_) ?_
                      rotate_left
                      · injection hop with hop
                        subst hop
                        refine ⟨rfl, fun W hW => ?_⟩
                        obtain ⟨s0, s1, s2, s3⟩ := hW
                        go_simp
                        rfl
                      try simp only [Act.put, List.setIfInBounds_toArray, List.set_cons_zero, List.set_cons_succ]
                      refine wpAnyT_one (i := 4) (by kernel_rfl) rfl rfl (fun K' hK => ?_)
                      go_simp
                      go_at_call 35
                      refine (HTL.out.busG HO.out.hb (HWB.out.trans (HB0.out.mono (by have := HWZ.out; omega))) L.frm).mono ?_
                      rintro e w1 ⟨⟨rfl, i1a, i1b⟩ | ⟨rfl, hno⟩, hw1⟩
                      rotate_left
                      · obtain rfl := hw1.symm
                        exact ⟨rfl, .inr ⟨rfl, fun hm => hno ⟨by have := HMY.out hm; omega, by have := HMY.out hm; omega⟩⟩, HTL.out.bel.trans ((HWB.out.trans (HB0.out.mono (by have := HWZ.out; omega))).mono HTL.out.bel.size)⟩
                      obtain rfl := hw1.symm
                      refine hK.out _ _ (fun _ => by exact HS.out _ HB0.out) ?_
                      clear hK K'
                      refine wpAnyT_one (i := 7) (by kernel_rfl) rfl rfl (fun K' hK => ?_)
                      go_simp
                      go_at_call 35
                      refine (HTL.out.busG HO.out.hb (HWB.out.trans (HB0.out.mono (by have := HWZ.out; omega))) L.to).mono ?_
                      rintro e w1 ⟨⟨rfl, i2a, i2b⟩ | ⟨rfl, hno⟩, hw1⟩
                      rotate_left
                      · obtain rfl := hw1.symm
                        exact ⟨rfl, .inr ⟨rfl, fun hm => hno ⟨by have := HMY.out hm; omega, by have := HMY.out hm; omega⟩⟩, HTL.out.bel.trans ((HWB.out.trans (HB0.out.mono (by have := HWZ.out; omega))).mono HTL.out.bel.size)⟩
                      obtain rfl := hw1.symm
                      refine hK.out _ _ (fun _ => by exact HS.out _ HB0.out) ?_
                      clear hK K'
                      refine wpAnyT_one (i := 10) (by kernel_rfl) rfl rfl (fun K' hK => ?_)
                      go_simp
                      go_at_call 37
                      refine (state_any L.closed WL.drew).mono ?_
                      rintro e w1 ⟨rfl, hw1⟩
                      obtain rfl := hw1.symm
                      refine hK.out _ _ (fun _ => by exact HS.out _ HB0.out) ?_
                      clear hK K'
                      refine wpAnyT_one (i := 11) (by kernel_rfl) rfl rfl (fun K' hK => ?_)
                      go_simp
                      refine hK.out _ _ (fun _ => by exact HS.out _ (HB0.out.alloc HB0.out.size _)) ?_
                      clear hK K'
                      refine wpAnyT_one (i := 12) (by kernel_rfl) rfl rfl (fun K' hK => ?_)
                      go_simp
                      go_at_call 34
                      have hln := HTL.out.lineG HLE.out (HWB.out.trans (HB0.out.mono (by have := HWZ.out; omega))) (wordsTie N N.ties[k]) (n := 5) rfl rfl (by rw [← HL0.out]; exact wordsTie_len HSM.out HGL.out) (by decide)
                      rw [take_snoc (tm5 N) (wordsTie N) N.ties k hlt, ← HL0.out] at hln
                      have hln' : Calls Tryz.prog 34 #[.pointer (some ⟨w.heap.size + 1, 0, none⟩), .slice (some ⟨WL.heap.size, 0, none⟩) 5 5] (WL.drew.alloc (.cells #[.string ⟨#[116, 105, 101]⟩, .string L.name, .string (busAt N L.frm), .string (busAt N L.to), .string (if L.closed then kClosed else kOpen)] 9)) _ := hln
                      refine hln'.mono ?_
                      rintro e w2 (⟨rfl, htl, hle⟩ | ⟨rfl, hov, hbo⟩)
                      rotate_left
                      · exact ⟨rfl, .inr ⟨rfl, over_not hov (pre_take (tm5_pre N) (k + 1))⟩, hbo⟩
                      refine hK.out _ _ (fun h => absurd rfl h) ?_
                      clear hK K'
                      refine wpAnyT_done (by kernel_rfl) ?_ _
                      have HTL2 := hide' htl
                      have HLE2 := hide' hle
                      clear htl hle hln hln' HL0 HS k0 k1 k2 k3
                      go_wp2
                      exact ⟨⟨k + 1, by go_num, by omega, HTL2, HLE2⟩, by simp [intOf]; omega⟩
                    · have HTL1 : Hid (Tl w wr N (.slice ab N.buses.length cb) (.slice al N.lines.length cl) (.slice ag N.gens.length cg) (.slice ad N.loads.length cd) (.slice at' N.ties.length ct) (toldM N)) := by
                        have := HTL.out
                        rwa [take_all _ _ _ hk hlt, ← toldM_eq] at this
                      have HLE1 : Hid ((textT (toldM N)).length ≤ 20000) := by
                        have := HLE.out
                        rwa [take_all _ _ _ hk hlt, ← toldM_eq] at this
                      obtain ⟨c1, c2, c3, c4, c5⟩ := cells32 HTL.out.net
                      clear HTL HLE
                      have hstr := string_wr _ _ _ _ wr HTL1.out.is (by unfold toldM textT; simp)
                      have HSTR := hide' hstr
                      clear hstr
                      go_wp2_with (go_at_call 38; refine HSTR.out.mono ?_; rintro e w3 ⟨rfl, hb3⟩)
                      go_ret
                      exact ⟨.inl ⟨rfl, HLE1.out⟩, HTL1.out.bel.trans (hb3.mono (Nat.le_succ _))⟩
end Go.Proofs.YtpbalclhdhjnoaaGreatDoor
