/- The document's text of a network: plain facts. -/
import Derived.Test.YtkcldnnopmagjabGreatDoorKDc5
namespace Go.Proofs.YtkcldnnopmagjabGreatDoor.Doc
open Go.RowKit

theorem bytes_app (a b : ByteArray) : bytesOf (a ++ b) = bytesOf a ++ bytesOf b := by simp [bytesOf]
theorem textT_snoc (tl : List (List ByteArray)) (ws : List ByteArray) : textT (tl ++ [ws]) = textT tl ++ (lineT ws ++ [10]) := by simp [textT]
theorem b32 : bytesOf ⟨#[32]⟩ = [32] := rfl
theorem b10 : bytesOf ⟨#[10]⟩ = [10] := rfl
theorem say2 {t : ByteArray} {tl : List (List ByteArray)} (h : bytesOf t = textT tl) (k kk a : ByteArray) (hk : bytesOf kk = bytesOf k ++ [32]) : bytesOf (t ++ kk ++ a ++ ⟨#[10]⟩) = textT (tl ++ [[k, a]]) := by
  simp only [bytes_app, textT_snoc, lineT, List.map_cons, List.map_nil, joinW_cons, joinW_one, h, hk, b10, List.append_assoc, List.cons_append, List.nil_append]
theorem say4 {t : ByteArray} {tl : List (List ByteArray)} (h : bytesOf t = textT tl) (k kk a b c : ByteArray) (hk : bytesOf kk = bytesOf k ++ [32]) : bytesOf (t ++ kk ++ a ++ ⟨#[32]⟩ ++ b ++ ⟨#[32]⟩ ++ c ++ ⟨#[10]⟩) = textT (tl ++ [[k, a, b, c]]) := by
  simp only [bytes_app, textT_snoc, lineT, List.map_cons, List.map_nil, joinW_cons, joinW_one, h, hk, b10, b32, List.append_assoc, List.cons_append, List.nil_append]
theorem say5 {t : ByteArray} {tl : List (List ByteArray)} (h : bytesOf t = textT tl) (k kk a b c d : ByteArray) (hk : bytesOf kk = bytesOf k ++ [32]) : bytesOf (t ++ kk ++ a ++ ⟨#[32]⟩ ++ b ++ ⟨#[32]⟩ ++ c ++ ⟨#[32]⟩ ++ d ++ ⟨#[10]⟩) = textT (tl ++ [[k, a, b, c, d]]) := by
  simp only [bytes_app, textT_snoc, lineT, List.map_cons, List.map_nil, joinW_cons, joinW_one, h, hk, b10, b32, List.append_assoc, List.cons_append, List.nil_append]
theorem say6 {t : ByteArray} {tl : List (List ByteArray)} (h : bytesOf t = textT tl) (k kk a b c d e : ByteArray) (hk : bytesOf kk = bytesOf k ++ [32]) : bytesOf (t ++ kk ++ a ++ ⟨#[32]⟩ ++ b ++ ⟨#[32]⟩ ++ c ++ ⟨#[32]⟩ ++ d ++ ⟨#[32]⟩ ++ e ++ ⟨#[10]⟩) = textT (tl ++ [[k, a, b, c, d, e]]) := by
  simp only [bytes_app, textT_snoc, lineT, List.map_cons, List.map_nil, joinW_cons, joinW_one, h, hk, b10, b32, List.append_assoc, List.cons_append, List.nil_append]
theorem bus_at {N : NetM} {f : Nat} (h : f < N.buses.length) : busAt N (f : Int) = N.buses[f] := by
  unfold busAt
  rw [List.getD_eq_getElem?_getD, Int.toNat_natCast, List.getElem?_eq_getElem h]
  rfl
theorem size_pre {N : NetM} {t : ByteArray} {Q : List (List ByteArray)} (hm : MayM N) (h : bytesOf t = textT Q) (hp : ∃ R, toldM N = Q ++ R) : t.size ≤ 20000 := by
  rw [← length_bytesOf, h]
  exact Nat.le_of_not_lt fun hl => over_not hl hp hm
theorem mem_lines {N : NetM} {x : LineM} (h : x ∈ N.lines) : x.name ∈ namesM N := by
  simp only [namesM, List.mem_append, List.mem_map]
  exact .inl (.inl (.inl (.inr ⟨x, h, rfl⟩)))
theorem mem_gens {N : NetM} {x : GenM} (h : x ∈ N.gens) : x.name ∈ namesM N := by
  simp only [namesM, List.mem_append, List.mem_map]
  exact .inl (.inl (.inr ⟨x, h, rfl⟩))
theorem mem_loads {N : NetM} {x : LoadM} (h : x ∈ N.loads) : x.name ∈ namesM N := by
  simp only [namesM, List.mem_append, List.mem_map]
  exact .inl (.inr ⟨x, h, rfl⟩)
theorem mem_ties {N : NetM} {x : TieM} (h : x ∈ N.ties) : x.name ∈ namesM N := by
  simp only [namesM, List.mem_append, List.mem_map]
  exact .inr ⟨x, h, rfl⟩
theorem mem_buses {N : NetM} {x : ByteArray} (h : x ∈ N.buses) : x ∈ namesM N := by
  simp only [namesM, List.mem_append, List.mem_map]
  exact .inl (.inl (.inl (.inl h)))
theorem short_name {N : NetM} (hm : MayM N) {x : ByteArray} (h : x ∈ namesM N) : x.size ≤ 32 := (name_wdy (hm.names x h)).2
/-- A bus's name lies where the list of buses says. -/
theorem bus_cell {W : World} {N : NetM} {a : Option Addr} {c : Nat} (h : TextsAt W (.slice a N.buses.length c) N.buses) : ∀ f, f < N.buses.length → ∃ b off, a = some ⟨b, off, none⟩ ∧ W.cell? ⟨b, off + f, none⟩ = some (.string (busAt N (f : Int))) := fun f hf => by
  obtain ⟨-, a', c', e, hc⟩ := h
  cases e
  rw [bus_at hf]
  exact hc f _ (by simp [hf])
end Go.Proofs.YtkcldnnopmagjabGreatDoor.Doc

/- The document's text of a network that may be: the walk. -/
namespace Go.Proofs.YtkcldnnopmagjabGreatDoor.Doc
open Go.RowKit

set_option maxRecDepth 100000 in
set_option maxHeartbeats 16000000 in
theorem NetText_any (N : NetM) (v : Value) (w : World) (hx : NetAt w v N) (hm : MayM N) : Calls Tryz.prog 12 #[v] w fun e w' => e = .returned (.string (textOf (textT (toldM N)))) ∧ Below w.heap.size w w' := by
  obtain ⟨b, l, g, d, t, rfl, hb, hl, hg, hd, ht⟩ := hx
  obtain ⟨ab, cb, rfl⟩ := rowAt_slice hb
  obtain ⟨al, cl, rfl⟩ := rowAt_slice hl
  obtain ⟨ag, cg, rfl⟩ := rowAt_slice hg
  obtain ⟨ad, cd, rfl⟩ := rowAt_slice hd
  obtain ⟨at', ct, rfl⟩ := rowAt_slice ht
  obtain ⟨n1, n2, n3, n4, n5⟩ := hm.fits
  have HMay := hide' hm
  have zname : N.name.size ≤ 32 := (name_wdy hm.nm).2
  obtain ⟨W, hW⟩ : ∃ W, W = w.alloc (.cells #[.string N.name, .slice ab N.buses.length cb, .slice al N.lines.length cl, .slice ag N.gens.length cg, .slice ad N.loads.length cd, .slice at' N.ties.length ct] 28) := ⟨_, rfl⟩
  have HX1 := hide' (Bx1.make hb hl hg hd ht hW)
  obtain ⟨k0, k1, k2, k3, k4, k5, kf⟩ := cells28 HX1.out.box
  have HT1 : Hid (bytesOf (ByteArray.mk #[110, 101, 116, 32] ++ N.name ++ ⟨#[10]⟩) = textT (tm1 N)) := by
    have := say2 (t := ⟨#[]⟩) (tl := []) rfl kNet ⟨#[110, 101, 116, 32]⟩ N.name rfl
    have e : ByteArray.mk #[] ++ ByteArray.mk #[110, 101, 116, 32] = ByteArray.mk #[110, 101, 116, 32] := rfl
    rw [e] at this
    exact this
  have HW := hide' hW
  clear hW hb hl hg hd ht hm
  go_enter Tryz.func12, Tryz.ntmps12
  go_wp2_with fail
  rw [← HW.out]
  go_loopw [3, 4] (fun s i wr => ∃ (k : Nat) (t : ByteArray), s = .string t ∧ i = .int .i64 k ∧ k ≤ N.buses.length ∧ Hid (bytesOf t = textT (tm1 N ++ (N.buses.take k).map fun b => [kBus, b])) ∧ Hid (Bx1 w wr w.heap.size N (.slice ab N.buses.length cb) (.slice al N.lines.length cl) (.slice ag N.gens.length cg) (.slice ad N.loads.length cd) (.slice at' N.ties.length ct))) (fun _ i _ => N.buses.length - (intOf i).toNat)
  case atStart => exact ⟨0, _, rfl, rfl, Nat.zero_le _, by have := HT1.out; rwa [← List.append_nil (tm1 N)] at this, HX1⟩
  case round =>
    clear HX1 HT1 k0 k1 k2 k3 k4 k5 kf
    obtain ⟨k, t, rfl, rfl, hk, HT, HX2⟩ := hrel
    obtain ⟨k0, k1, k2, k3, k4, k5, kf⟩ := cells28 HX2.out.box
    by_cases hlt : k < N.buses.length
    · obtain ⟨bx, ox, cx, ex, hbx, hcx⟩ := text_elem HX2.out.hb k hlt
      cases ex
      have zn := short_name HMay.out (mem_buses (List.getElem_mem hlt))
      have zt := size_pre HMay.out HT.out (pre_take (tm1_pre N) k)
      have hts := take_snoc (tm1 N) (fun b => [kBus, b]) N.buses k hlt
      have HP := hide' ((say2 HT.out kBus ⟨#[98, 117, 115, 32]⟩ N.buses[k] rfl).trans (congrArg textT hts))
      clear hts HT
      go_wp2
      go_roundw
      case rel => exact ⟨k + 1, _, rfl, by go_num, by omega, HP, HX2⟩
      case measure => simp [intOf]; omega
    · have HT1 : Hid (bytesOf t = textT (tm2 N)) := by
        have := HT.out
        rwa [take_all _ _ _ hk hlt] at this
      have HX1 := HX2
      clear HT HX2
      go_wp2_with fail
      go_loopw [3, 5] (fun s i wr => ∃ (k : Nat) (t : ByteArray), s = .string t ∧ i = .int .i64 k ∧ k ≤ N.lines.length ∧ Hid (bytesOf t = textT (tm2 N ++ (N.lines.take k).map (wordsLine N))) ∧ Hid (Bx1 w wr w.heap.size N (.slice ab N.buses.length cb) (.slice al N.lines.length cl) (.slice ag N.gens.length cg) (.slice ad N.loads.length cd) (.slice at' N.ties.length ct))) (fun _ i _ => N.lines.length - (intOf i).toNat)
      case atStart => exact ⟨0, _, rfl, rfl, Nat.zero_le _, by have := HT1.out; rwa [← List.append_nil (tm2 N)] at this, HX1⟩
      case round =>
        clear HX1 HT1 k0 k1 k2 k3 k4 k5 kf hlt
        obtain ⟨k, t, rfl, rfl, hk, HT, HX2⟩ := hrel
        obtain ⟨k0, k1, k2, k3, k4, k5, kf⟩ := cells28 HX2.out.box
        by_cases hlt : k < N.lines.length
        · obtain ⟨bx, ox, cx, ex, hbx, hcx⟩ := row_elem (f := LineM.cells) (sz := 5) (fun _ => rfl) HX2.out.hl k hlt (by decide)
          cases ex
          have hmay := HMay.out.lines _ (List.getElem_mem hlt)
          have zn := short_name HMay.out (mem_lines (List.getElem_mem hlt))
          have zt := size_pre HMay.out HT.out (pre_take (tm2_pre N) k)
          have hts := take_snoc (tm2 N) (wordsLine N) N.lines k hlt
          obtain ⟨L, hL⟩ : ∃ L, L = N.lines[k] := ⟨_, rfl⟩
          rw [← hL] at hcx hmay hts zn
          have HP := hide' ((say6 HT.out kLine ⟨#[108, 105, 110, 101, 32]⟩ L.name (busAt N L.frm) (busAt N L.to) (decB L.worth) (decB L.limit) rfl).trans (congrArg textT hts))
          obtain ⟨frmN, hfrm⟩ : ∃ n : Nat, L.frm = n := Int.eq_ofNat_of_zero_le (by omega)
          have hfrmL : frmN < N.buses.length := by omega
          have zfrm : (busAt N (frmN : Int)).size ≤ 32 := (HMay.out.bus_wdy (by omega) (by omega)).2
          obtain ⟨toN, hto⟩ : ∃ n : Nat, L.to = n := Int.eq_ofNat_of_zero_le (by omega)
          have htoL : toN < N.buses.length := by omega
          have zto : (busAt N (toN : Int)).size ≤ 32 := (HMay.out.bus_wdy (by omega) (by omega)).2
          obtain ⟨bb, ob, eb, hbus0⟩ := bus_cell HX2.out.hb frmN hfrmL
          cases eb
          have g0 : wr.cell? ⟨bb, ob + frmN, none⟩ = some (.string (busAt N (frmN : Int))) := hbus0
          obtain ⟨_, _, eb, hbus1⟩ := bus_cell HX2.out.hb toN htoL
          cases eb
          have g1 : wr.cell? ⟨bb, ob + toN, none⟩ = some (.string (busAt N (toN : Int))) := hbus1
          have e0 : wr.cell? ⟨bx, ox + k * 5, none⟩ = some (.string L.name) := hcx 0 _ rfl
          have e1 : wr.cell? ⟨bx, ox + k * 5 + 1, none⟩ = some (.int .i64 (frmN : Int)) := by rw [← hfrm]; exact hcx 1 _ rfl
          have e2 : wr.cell? ⟨bx, ox + k * 5 + 2, none⟩ = some (.int .i64 (toN : Int)) := by rw [← hto]; exact hcx 2 _ rfl
          have e3 : wr.cell? ⟨bx, ox + k * 5 + 3, none⟩ = some (.int .i64 L.worth) := hcx 3 _ rfl
          have e4 : wr.cell? ⟨bx, ox + k * 5 + 4, none⟩ = some (.int .i64 L.limit) := hcx 4 _ rfl
          have zworth : (decB L.worth).size ≤ 32 := (dec_wdy (by omega) (by omega)).2
          have zlimit : (decB L.limit).size ≤ 32 := (dec_wdy (by omega) (by omega)).2
          rw [hfrm, hto] at HP
          have HMY := hide' hmay
          have HX3 := hide' (fun o => HX2.out.alloc o)
          clear hcx hbx hL hts hmay HT hfrm hto hbus0 hbus1
          go_wp2_with fail
          obtain ⟨WL, hWL⟩ : ∃ WL, WL = wr.alloc (.cells #[.string L.name, .int .i64 (frmN : Int), .int .i64 (toN : Int), .int .i64 L.worth, .int .i64 L.limit] 70) := ⟨_, rfl⟩
          have m0 : WL.cell? ⟨wr.heap.size, 0, none⟩ = some (.string L.name) := by rw [hWL]; simp [go_sem]
          have m1 : WL.cell? ⟨wr.heap.size, 1, none⟩ = some (.int .i64 (frmN : Int)) := by rw [hWL]; simp [go_sem]
          have m2 : WL.cell? ⟨wr.heap.size, 2, none⟩ = some (.int .i64 (toN : Int)) := by rw [hWL]; simp [go_sem]
          have m3 : WL.cell? ⟨wr.heap.size, 3, none⟩ = some (.int .i64 L.worth) := by rw [hWL]; simp [go_sem]
          have m4 : WL.cell? ⟨wr.heap.size, 4, none⟩ = some (.int .i64 L.limit) := by rw [hWL]; simp [go_sem]
          have hWb : Below wr.heap.size wr WL := by rw [hWL]; exact (Below.refl _ wr).alloc (Nat.le_refl _) _
          have hm1 : WL.cell? ⟨w.heap.size, 1, none⟩ = some (.slice (some ⟨bb, ob, none⟩) N.buses.length cb) := (hWb.cell (World.block_lt_of_cell? wr _ k1)).trans k1
          have n0 : WL.cell? ⟨bb, ob + frmN, none⟩ = some (.string (busAt N (frmN : Int))) := (hWb.cell (World.block_lt_of_cell? wr _ g0)).trans g0
          have n1 : WL.cell? ⟨bb, ob + toN, none⟩ = some (.string (busAt N (toN : Int))) := (hWb.cell (World.block_lt_of_cell? wr _ g1)).trans g1
          have hS : ∀ W, Below WL.heap.size WL W → W.cell? ⟨wr.heap.size, 0, none⟩ = some (.string L.name) ∧ W.cell? ⟨wr.heap.size, 1, none⟩ = some (.int .i64 (frmN : Int)) ∧ W.cell? ⟨wr.heap.size, 2, none⟩ = some (.int .i64 (toN : Int)) ∧ W.cell? ⟨wr.heap.size, 3, none⟩ = some (.int .i64 L.worth) ∧ W.cell? ⟨wr.heap.size, 4, none⟩ = some (.int .i64 L.limit) ∧ W.cell? ⟨w.heap.size, 1, none⟩ = some (.slice (some ⟨bb, ob, none⟩) N.buses.length cb) ∧ W.cell? ⟨bb, ob + frmN, none⟩ = some (.string (busAt N (frmN : Int))) ∧ W.cell? ⟨bb, ob + toN, none⟩ = some (.string (busAt N (toN : Int))) := fun W h => ⟨(h.cell (World.block_lt_of_cell? WL _ m0)).trans m0, (h.cell (World.block_lt_of_cell? WL _ m1)).trans m1, (h.cell (World.block_lt_of_cell? WL _ m2)).trans m2, (h.cell (World.block_lt_of_cell? WL _ m3)).trans m3, (h.cell (World.block_lt_of_cell? WL _ m4)).trans m4, (h.cell (World.block_lt_of_cell? WL _ hm1)).trans hm1, (h.cell (World.block_lt_of_cell? WL _ n0)).trans n0, (h.cell (World.block_lt_of_cell? WL _ n1)).trans n1⟩
          have HX4 := hide' (HX3.out (.cells #[.string L.name, .int .i64 (frmN : Int), .int .i64 (toN : Int), .int .i64 L.worth, .int .i64 L.limit] 70))
          rw [← hWL] at HX4
          have HS := hide' hS
          rw [← hWL]
          clear hWL hS hWb e0 e1 e2 e3 e4 k0 k1 k2 k3 k4 k5 kf g0 g1
          have HB0 : Hid (Below WL.heap.size WL WL.drew) := (Below.refl _ WL).drew
          refine wp_region_tail (fun W => W.cell? ⟨wr.heap.size, 0, none⟩ = some (.string L.name) ∧ W.cell? ⟨wr.heap.size, 1, none⟩ = some (.int .i64 (frmN : Int)) ∧ W.cell? ⟨wr.heap.size, 2, none⟩ = some (.int .i64 (toN : Int)) ∧ W.cell? ⟨wr.heap.size, 3, none⟩ = some (.int .i64 L.worth) ∧ W.cell? ⟨wr.heap.size, 4, none⟩ = some (.int .i64 L.limit) ∧ W.cell? ⟨w.heap.size, 1, none⟩ = some (.slice (some ⟨bb, ob, none⟩) N.buses.length cb) ∧ W.cell? ⟨bb, ob + frmN, none⟩ = some (.string (busAt N (frmN : Int))) ∧ W.cell? ⟨bb, ob + toN, none⟩ = some (.string (busAt N (toN : Int)))) 32 (by kernel_rfl) ?_
          refine wpAnyD_takeAt 0 (some 46) (v := ?_) rfl (by kernel_rfl) (by kernel_rfl) (by kernel_rfl) (by kernel_rfl) (by kernel_rfl) (fun _ _ _ h => h) (by exact HS.out _ HB0.out) (fun o hop => ?_) ?_
          rotate_left
          · injection hop with hop
            subst hop
            refine ⟨rfl, fun W hW => ?_⟩
            obtain ⟨s0, s1, s2, s3, s4, s5, s6, s7⟩ := hW
            go_simp
            first
            | rfl
            | rw [if_neg (by omega)]
          try simp only [Act.put, List.setIfInBounds_toArray, List.set_cons_zero, List.set_cons_succ]
          refine wpAnyD_takeAt 1 (some 47) (v := ?_) rfl (by kernel_rfl) (by kernel_rfl) (by kernel_rfl) (by kernel_rfl) (by kernel_rfl) (fun _ _ _ h => h) (by exact HS.out _ HB0.out) (fun o hop => ?_) ?_
          rotate_left
          · injection hop with hop
            subst hop
            refine ⟨rfl, fun W hW => ?_⟩
            obtain ⟨s0, s1, s2, s3, s4, s5, s6, s7⟩ := hW
            go_simp
            first
            | rfl
            | rw [if_neg (by omega)]
          try simp only [Act.put, List.setIfInBounds_toArray, List.set_cons_zero, List.set_cons_succ]
          refine wpAnyD_takeAt 2 (some 48) (v := ?_) rfl (by kernel_rfl) (by kernel_rfl) (by kernel_rfl) (by kernel_rfl) (by kernel_rfl) (fun _ _ _ h => h) (by exact HS.out _ HB0.out) (fun o hop => ?_) ?_
          rotate_left
          · injection hop with hop
            subst hop
            refine ⟨rfl, fun W hW => ?_⟩
            obtain ⟨s0, s1, s2, s3, s4, s5, s6, s7⟩ := hW
            go_simp
            first
            | rfl
            | rw [if_neg (by omega)]
          try simp only [Act.put, List.setIfInBounds_toArray, List.set_cons_zero, List.set_cons_succ]
          refine wpAnyD_takeAt 3 (some 49) (v := ?_) rfl (by kernel_rfl) (by kernel_rfl) (by kernel_rfl) (by kernel_rfl) (by kernel_rfl) (fun _ _ _ h => h) (by exact HS.out _ HB0.out) (fun o hop => ?_) ?_
          rotate_left
          · injection hop with hop
            subst hop
            refine ⟨rfl, fun W hW => ?_⟩
            obtain ⟨s0, s1, s2, s3, s4, s5, s6, s7⟩ := hW
            go_simp
            first
            | rfl
            | rw [if_neg (by omega)]
          try simp only [Act.put, List.setIfInBounds_toArray, List.set_cons_zero, List.set_cons_succ]
          refine wpAnyD_takeAt 4 (some 50) (v := ?_) rfl (by kernel_rfl) (by kernel_rfl) (by kernel_rfl) (by kernel_rfl) (by kernel_rfl) (fun _ _ _ h => h) (by exact HS.out _ HB0.out) (fun o hop => ?_) ?_
          rotate_left
          · injection hop with hop
            subst hop
            refine ⟨rfl, fun W hW => ?_⟩
            obtain ⟨s0, s1, s2, s3, s4, s5, s6, s7⟩ := hW
            go_simp
            first
            | rfl
            | rw [if_neg (by omega)]
          try simp only [Act.put, List.setIfInBounds_toArray, List.set_cons_zero, List.set_cons_succ]
          refine wpAnyD_takeAt 5 (some 51) (v := ?_) rfl (by kernel_rfl) (by kernel_rfl) (by kernel_rfl) (by kernel_rfl) (by kernel_rfl) (fun _ _ _ h => h) (by exact HS.out _ HB0.out) (fun o hop => ?_) ?_
          rotate_left
          · injection hop with hop
            subst hop
            refine ⟨rfl, fun W hW => ?_⟩
            obtain ⟨s0, s1, s2, s3, s4, s5, s6, s7⟩ := hW
            go_simp
            first
            | rfl
            | rw [if_neg (by omega)]
          try simp only [Act.put, List.setIfInBounds_toArray, List.set_cons_zero, List.set_cons_succ]
          refine wpAnyD_takeAt 6 (some 52) (v := ?_) rfl (by kernel_rfl) (by kernel_rfl) (by kernel_rfl) (by kernel_rfl) (by kernel_rfl) (fun _ _ _ h => h) (by exact HS.out _ HB0.out) (fun o hop => ?_) ?_
          rotate_left
          · injection hop with hop
            subst hop
            refine ⟨rfl, fun W hW => ?_⟩
            obtain ⟨s0, s1, s2, s3, s4, s5, s6, s7⟩ := hW
            go_simp
            first
            | rfl
            | rw [if_neg (by omega)]
          try simp only [Act.put, List.setIfInBounds_toArray, List.set_cons_zero, List.set_cons_succ]
          refine wpAnyD_takeAt 7 (some 53) (v := ?_) rfl (by kernel_rfl) (by kernel_rfl) (by kernel_rfl) (by kernel_rfl) (by kernel_rfl) (fun _ _ _ h => h) (by exact HS.out _ HB0.out) (fun o hop => ?_) ?_
          rotate_left
          · injection hop with hop
            subst hop
            refine ⟨rfl, fun W hW => ?_⟩
            obtain ⟨s0, s1, s2, s3, s4, s5, s6, s7⟩ := hW
            go_simp
            first
            | rfl
            | rw [if_neg (by omega)]
          try simp only [Act.put, List.setIfInBounds_toArray, List.set_cons_zero, List.set_cons_succ]
          refine wpAnyD_takeAt 8 (some 54) (v := ?_) rfl (by kernel_rfl) (by kernel_rfl) (by kernel_rfl) (by kernel_rfl) (by kernel_rfl) (fun _ _ _ h => h) (by exact HS.out _ HB0.out) (fun o hop => ?_) ?_
          rotate_left
          · injection hop with hop
            subst hop
            refine ⟨rfl, fun W hW => ?_⟩
            obtain ⟨s0, s1, s2, s3, s4, s5, s6, s7⟩ := hW
            go_simp
            first
            | rfl
            | rw [if_neg (by omega)]
          try simp only [Act.put, List.setIfInBounds_toArray, List.set_cons_zero, List.set_cons_succ]
          refine wpAnyD_takeAt 9 (some 55) (v := ?_) rfl (by kernel_rfl) (by kernel_rfl) (by kernel_rfl) (by kernel_rfl) (by kernel_rfl) (fun _ _ _ h => h) (by exact HS.out _ HB0.out) (fun o hop => ?_) ?_
          rotate_left
          · injection hop with hop
            subst hop
            refine ⟨rfl, fun W hW => ?_⟩
            obtain ⟨s0, s1, s2, s3, s4, s5, s6, s7⟩ := hW
            go_simp
            first
            | rfl
            | rw [if_neg (by omega)]
          try simp only [Act.put, List.setIfInBounds_toArray, List.set_cons_zero, List.set_cons_succ]
          refine wpAnyD_takeAt 10 (some 56) (v := ?_) rfl (by kernel_rfl) (by kernel_rfl) (by kernel_rfl) (by kernel_rfl) (by kernel_rfl) (fun _ _ _ h => h) (by exact HS.out _ HB0.out) (fun o hop => ?_) ?_
          rotate_left
          · injection hop with hop
            subst hop
            refine ⟨rfl, fun W hW => ?_⟩
            obtain ⟨s0, s1, s2, s3, s4, s5, s6, s7⟩ := hW
            go_simp
            first
            | rfl
            | rw [if_neg (by omega)]
          try simp only [Act.put, List.setIfInBounds_toArray, List.set_cons_zero, List.set_cons_succ]
          refine wpAnyD_takeAt 11 (some 57) (v := ?_) rfl (by kernel_rfl) (by kernel_rfl) (by kernel_rfl) (by kernel_rfl) (by kernel_rfl) (fun _ _ _ h => h) (by exact HS.out _ HB0.out) (fun o hop => ?_) ?_
          rotate_left
          · injection hop with hop
            subst hop
            refine ⟨rfl, fun W hW => ?_⟩
            obtain ⟨s0, s1, s2, s3, s4, s5, s6, s7⟩ := hW
            go_simp
            first
            | rfl
            | rw [if_neg (by omega)]
          try simp only [Act.put, List.setIfInBounds_toArray, List.set_cons_zero, List.set_cons_succ]
          refine wpAnyD_takeAt 12 (some 58) (v := ?_) rfl (by kernel_rfl) (by kernel_rfl) (by kernel_rfl) (by kernel_rfl) (by kernel_rfl) (fun _ _ _ h => h) (by exact HS.out _ HB0.out) (fun o hop => ?_) ?_
          rotate_left
          · injection hop with hop
            subst hop
            refine ⟨rfl, fun W hW => ?_⟩
            obtain ⟨s0, s1, s2, s3, s4, s5, s6, s7⟩ := hW
            go_simp
            first
            | rfl
            | rw [if_neg (by omega)]
          try simp only [Act.put, List.setIfInBounds_toArray, List.set_cons_zero, List.set_cons_succ]
          refine wpAnyD_takeAt 13 (some 59) (v := ?_) rfl (by kernel_rfl) (by kernel_rfl) (by kernel_rfl) (by kernel_rfl) (by kernel_rfl) (fun _ _ _ h => h) (by exact HS.out _ HB0.out) (fun o hop => ?_) ?_
          rotate_left
          · injection hop with hop
            subst hop
            refine ⟨rfl, fun W hW => ?_⟩
            obtain ⟨s0, s1, s2, s3, s4, s5, s6, s7⟩ := hW
            go_simp
            first
            | rfl
            | rw [if_neg (by omega)]
          try simp only [Act.put, List.setIfInBounds_toArray, List.set_cons_zero, List.set_cons_succ]
          refine wpAnyD_takeAt 14 (some 60) (v := ?_) rfl (by kernel_rfl) (by kernel_rfl) (by kernel_rfl) (by kernel_rfl) (by kernel_rfl) (fun _ _ _ h => h) (by exact HS.out _ HB0.out) (fun o hop => ?_) ?_
          rotate_left
          · injection hop with hop
            subst hop
            refine ⟨rfl, fun W hW => ?_⟩
            obtain ⟨s0, s1, s2, s3, s4, s5, s6, s7⟩ := hW
            go_simp
            first
            | rfl
            | rw [if_neg (by omega)]
          try simp only [Act.put, List.setIfInBounds_toArray, List.set_cons_zero, List.set_cons_succ]
          refine wpAnyD_takeAt 15 (some 61) (v := ?_) rfl (by kernel_rfl) (by kernel_rfl) (by kernel_rfl) (by kernel_rfl) (by kernel_rfl) (fun _ _ _ h => h) (by exact HS.out _ HB0.out) (fun o hop => ?_) ?_
          rotate_left
          · injection hop with hop
            subst hop
            refine ⟨rfl, fun W hW => ?_⟩
            obtain ⟨s0, s1, s2, s3, s4, s5, s6, s7⟩ := hW
            go_simp
            first
            | rfl
            | rw [if_neg (by omega)]
          try simp only [Act.put, List.setIfInBounds_toArray, List.set_cons_zero, List.set_cons_succ]
          refine wpAnyD_takeAt 16 (some 62) (v := ?_) rfl (by kernel_rfl) (by kernel_rfl) (by kernel_rfl) (by kernel_rfl) (by kernel_rfl) (fun _ _ _ h => h) (by exact HS.out _ HB0.out) (fun o hop => ?_) ?_
          rotate_left
          · injection hop with hop
            subst hop
            refine ⟨rfl, fun W hW => ?_⟩
            obtain ⟨s0, s1, s2, s3, s4, s5, s6, s7⟩ := hW
            go_simp
            first
            | rfl
            | rw [if_neg (by omega)]
          try simp only [Act.put, List.setIfInBounds_toArray, List.set_cons_zero, List.set_cons_succ]
          refine wpAnyD_takeAt 17 (some 63) (v := ?_) rfl (by kernel_rfl) (by kernel_rfl) (by kernel_rfl) (by kernel_rfl) (by kernel_rfl) (fun _ _ _ h => h) (by exact HS.out _ HB0.out) (fun o hop => ?_) ?_
          rotate_left
          · injection hop with hop
            subst hop
            refine ⟨rfl, fun W hW => ?_⟩
            obtain ⟨s0, s1, s2, s3, s4, s5, s6, s7⟩ := hW
            go_simp
            first
            | rfl
            | rw [if_neg (by omega)]
          try simp only [Act.put, List.setIfInBounds_toArray, List.set_cons_zero, List.set_cons_succ]
          refine wpAnyD_takeAt 18 (some 64) (v := ?_) rfl (by kernel_rfl) (by kernel_rfl) (by kernel_rfl) (by kernel_rfl) (by kernel_rfl) (fun _ _ _ h => h) (by exact HS.out _ HB0.out) (fun o hop => ?_) ?_
          rotate_left
          · injection hop with hop
            subst hop
            refine ⟨rfl, fun W hW => ?_⟩
            obtain ⟨s0, s1, s2, s3, s4, s5, s6, s7⟩ := hW
            go_simp
            first
            | rfl
            | rw [if_neg (by omega)]
          try simp only [Act.put, List.setIfInBounds_toArray, List.set_cons_zero, List.set_cons_succ]
          refine wpAnyD_takeAt 19 (some 65) (v := ?_) rfl (by kernel_rfl) (by kernel_rfl) (by kernel_rfl) (by kernel_rfl) (by kernel_rfl) (fun _ _ _ h => h) (by exact HS.out _ HB0.out) (fun o hop => ?_) ?_
          rotate_left
          · injection hop with hop
            subst hop
            refine ⟨rfl, fun W hW => ?_⟩
            obtain ⟨s0, s1, s2, s3, s4, s5, s6, s7⟩ := hW
            go_simp
            first
            | rfl
            | rw [if_neg (by omega)]
          try simp only [Act.put, List.setIfInBounds_toArray, List.set_cons_zero, List.set_cons_succ]
          refine wpAnyD_takeAt 20 (some 66) (v := ?_) rfl (by kernel_rfl) (by kernel_rfl) (by kernel_rfl) (by kernel_rfl) (by kernel_rfl) (fun _ _ _ h => h) (by exact HS.out _ HB0.out) (fun o hop => ?_) ?_
          rotate_left
          · injection hop with hop
            subst hop
            refine ⟨rfl, fun W hW => ?_⟩
            obtain ⟨s0, s1, s2, s3, s4, s5, s6, s7⟩ := hW
            go_simp
            first
            | rfl
            | rw [if_neg (by omega)]
          try simp only [Act.put, List.setIfInBounds_toArray, List.set_cons_zero, List.set_cons_succ]
          refine wpAnyD_takeAt 21 (some 67) (v := ?_) rfl (by kernel_rfl) (by kernel_rfl) (by kernel_rfl) (by kernel_rfl) (by kernel_rfl) (fun _ _ _ h => h) (by exact HS.out _ HB0.out) (fun o hop => ?_) ?_
          rotate_left
          · injection hop with hop
            subst hop
            refine ⟨rfl, fun W hW => ?_⟩
            obtain ⟨s0, s1, s2, s3, s4, s5, s6, s7⟩ := hW
            go_simp
            first
            | rfl
            | rw [if_neg (by omega)]
          try simp only [Act.put, List.setIfInBounds_toArray, List.set_cons_zero, List.set_cons_succ]
          refine wpAnyD_takeAt 22 (some 68) (v := ?_) rfl (by kernel_rfl) (by kernel_rfl) (by kernel_rfl) (by kernel_rfl) (by kernel_rfl) (fun _ _ _ h => h) (by exact HS.out _ HB0.out) (fun o hop => ?_) ?_
          rotate_left
          · injection hop with hop
            subst hop
            refine ⟨rfl, fun W hW => ?_⟩
            obtain ⟨s0, s1, s2, s3, s4, s5, s6, s7⟩ := hW
            go_simp
            first
            | rfl
            | rw [if_neg (by omega)]
          try simp only [Act.put, List.setIfInBounds_toArray, List.set_cons_zero, List.set_cons_succ]
          refine wpAnyD_takeAt 23 (some 69) (v := ?_) rfl (by kernel_rfl) (by kernel_rfl) (by kernel_rfl) (by kernel_rfl) (by kernel_rfl) (fun _ _ _ h => h) (by exact HS.out _ HB0.out) (fun o hop => ?_) ?_
          rotate_left
          · injection hop with hop
            subst hop
            refine ⟨rfl, fun W hW => ?_⟩
            obtain ⟨s0, s1, s2, s3, s4, s5, s6, s7⟩ := hW
            go_simp
            first
            | rfl
            | rw [if_neg (by omega)]
          try simp only [Act.put, List.setIfInBounds_toArray, List.set_cons_zero, List.set_cons_succ]
          refine wpAnyD_takeAt 27 (some 73) (v := ?_) rfl (by kernel_rfl) (by kernel_rfl) (by kernel_rfl) (by kernel_rfl) (by kernel_rfl) (fun _ _ _ h => h) (by exact HS.out _ HB0.out) (fun o hop => ?_) ?_
          rotate_left
          · injection hop with hop
            subst hop
            refine ⟨rfl, fun W hW => ?_⟩
            obtain ⟨s0, s1, s2, s3, s4, s5, s6, s7⟩ := hW
            go_simp
            first
            | rfl
            | rw [if_neg (by omega)]
          try simp only [Act.put, List.setIfInBounds_toArray, List.set_cons_zero, List.set_cons_succ]
          refine wpAnyD_takeAt 28 (some 74) (v := ?_) rfl (by kernel_rfl) (by kernel_rfl) (by kernel_rfl) (by kernel_rfl) (by kernel_rfl) (fun _ _ _ h => h) (by exact HS.out _ HB0.out) (fun o hop => ?_) ?_
          rotate_left
          · injection hop with hop
            subst hop
            refine ⟨rfl, fun W hW => ?_⟩
            obtain ⟨s0, s1, s2, s3, s4, s5, s6, s7⟩ := hW
            go_simp
            first
            | rfl
            | rw [if_neg (by omega)]
          try simp only [Act.put, List.setIfInBounds_toArray, List.set_cons_zero, List.set_cons_succ]
          refine wpAnyT_one (i := 24) (by kernel_rfl) rfl rfl (fun K' hK => ?_)
          go_simp
          go_at_call 36
          refine (Dec_any L.worth (by have := HMY.out; omega) (by have := HMY.out; omega) WL.drew).mono ?_
          rintro e v0 ⟨rfl, hb0⟩
          have HB1 : Hid (Below WL.heap.size WL v0) := HB0.out.trans (hb0.mono HB0.out.size)
          clear hb0
          refine hK.out _ _ (fun _ => by exact HS.out _ HB1.out) ?_
          clear hK K'
          refine wpAnyD_takeAt 25 (some 71) (v := ?_) rfl (by kernel_rfl) (by kernel_rfl) (by kernel_rfl) (by kernel_rfl) (by kernel_rfl) (fun _ _ _ h => h) (by exact HS.out _ HB1.out) (fun o hop => ?_) ?_
          rotate_left
          · injection hop with hop
            subst hop
            refine ⟨rfl, fun W hW => ?_⟩
            obtain ⟨s0, s1, s2, s3, s4, s5, s6, s7⟩ := hW
            go_simp
            first
            | rfl
            | rw [if_neg (by omega)]
          try simp only [Act.put, List.setIfInBounds_toArray, List.set_cons_zero, List.set_cons_succ]
          refine wpAnyD_takeAt 26 (some 72) (v := ?_) rfl (by kernel_rfl) (by kernel_rfl) (by kernel_rfl) (by kernel_rfl) (by kernel_rfl) (fun _ _ _ h => h) (by exact HS.out _ HB1.out) (fun o hop => ?_) ?_
          rotate_left
          · injection hop with hop
            subst hop
            refine ⟨rfl, fun W hW => ?_⟩
            obtain ⟨s0, s1, s2, s3, s4, s5, s6, s7⟩ := hW
            go_simp
            first
            | rfl
            | rw [if_neg (by omega)]
          try simp only [Act.put, List.setIfInBounds_toArray, List.set_cons_zero, List.set_cons_succ]
          refine wpAnyT_one (i := 29) (by kernel_rfl) rfl rfl (fun K' hK => ?_)
          go_simp
          go_at_call 36
          refine (Dec_any L.limit (by have := HMY.out; omega) (by have := HMY.out; omega) v0).mono ?_
          rintro e v1 ⟨rfl, hb1⟩
          have HB2 : Hid (Below WL.heap.size WL v1) := HB1.out.trans (hb1.mono HB1.out.size)
          clear hb1
          refine hK.out _ _ (fun _ => by exact HS.out _ HB2.out) ?_
          clear hK K'
          refine wpAnyD_takeAt 30 (some 76) (v := ?_) rfl (by kernel_rfl) (by kernel_rfl) (by kernel_rfl) (by kernel_rfl) (by kernel_rfl) (fun _ _ _ h => h) (by exact HS.out _ HB2.out) (fun o hop => ?_) ?_
          rotate_left
          · injection hop with hop
            subst hop
            refine ⟨rfl, fun W hW => ?_⟩
            obtain ⟨s0, s1, s2, s3, s4, s5, s6, s7⟩ := hW
            go_simp
            first
            | rfl
            | rw [if_neg (by omega)]
          try simp only [Act.put, List.setIfInBounds_toArray, List.set_cons_zero, List.set_cons_succ]
          refine wpAnyD_takeAt 31 (some 77) (v := ?_) rfl (by kernel_rfl) (by kernel_rfl) (by kernel_rfl) (by kernel_rfl) (by kernel_rfl) (fun _ _ _ h => h) (by exact HS.out _ HB2.out) (fun o hop => ?_) ?_
          rotate_left
          · injection hop with hop
            subst hop
            refine ⟨rfl, fun W hW => ?_⟩
            obtain ⟨s0, s1, s2, s3, s4, s5, s6, s7⟩ := hW
            go_simp
            first
            | rfl
            | rw [if_neg (by omega)]
          try simp only [Act.put, List.setIfInBounds_toArray, List.set_cons_zero, List.set_cons_succ]
          refine wpAnyT_one (i := 32) (by kernel_rfl) rfl rfl (fun K' hK => ?_)
          go_simp
          refine hK.out _ _ (fun h => absurd rfl h) ?_
          clear hK K'
          refine wpAnyT_done (by kernel_rfl) ?_ _
          have HX5 := hide' (HX4.out.later HB2.out)
          clear HS m0 m1 m2 m3 m4 hm1 n0 n1
          go_wp2
          exact ⟨⟨k + 1, _, rfl, by go_num, by omega, HP, HX5⟩, by simp [intOf]; omega⟩
        · have HT1 : Hid (bytesOf t = textT (tm3 N)) := by
            have := HT.out
            rwa [take_all _ _ _ hk hlt] at this
          have HX1 := HX2
          clear HT HX2
          go_wp2_with fail
          go_loopw [3, 7] (fun s i wr => ∃ (k : Nat) (t : ByteArray), s = .string t ∧ i = .int .i64 k ∧ k ≤ N.gens.length ∧ Hid (bytesOf t = textT (tm3 N ++ (N.gens.take k).map (wordsGen N))) ∧ Hid (Bx1 w wr w.heap.size N (.slice ab N.buses.length cb) (.slice al N.lines.length cl) (.slice ag N.gens.length cg) (.slice ad N.loads.length cd) (.slice at' N.ties.length ct))) (fun _ i _ => N.gens.length - (intOf i).toNat)
          case atStart => exact ⟨0, _, rfl, rfl, Nat.zero_le _, by have := HT1.out; rwa [← List.append_nil (tm3 N)] at this, HX1⟩
          case round =>
            clear HX1 HT1 k0 k1 k2 k3 k4 k5 kf hlt
            obtain ⟨k, t, rfl, rfl, hk, HT, HX2⟩ := hrel
            obtain ⟨k0, k1, k2, k3, k4, k5, kf⟩ := cells28 HX2.out.box
            by_cases hlt : k < N.gens.length
            · obtain ⟨bx, ox, cx, ex, hbx, hcx⟩ := row_elem (f := GenM.cells) (sz := 5) (fun _ => rfl) HX2.out.hg k hlt (by decide)
              cases ex
              have hmay := HMay.out.gens _ (List.getElem_mem hlt)
              have zn := short_name HMay.out (mem_gens (List.getElem_mem hlt))
              have zt := size_pre HMay.out HT.out (pre_take (tm3_pre N) k)
              have hts := take_snoc (tm3 N) (wordsGen N) N.gens k hlt
              obtain ⟨L, hL⟩ : ∃ L, L = N.gens[k] := ⟨_, rfl⟩
              rw [← hL] at hcx hmay hts zn
              have HP := hide' ((say6 HT.out kGen ⟨#[103, 101, 110, 32]⟩ L.name (busAt N L.bus) (decB L.least) (decB L.most) (decB L.cost) rfl).trans (congrArg textT hts))
              obtain ⟨busN, hbus⟩ : ∃ n : Nat, L.bus = n := Int.eq_ofNat_of_zero_le (by omega)
              have hbusL : busN < N.buses.length := by omega
              have zbus : (busAt N (busN : Int)).size ≤ 32 := (HMay.out.bus_wdy (by omega) (by omega)).2
              obtain ⟨bb, ob, eb, hbus0⟩ := bus_cell HX2.out.hb busN hbusL
              cases eb
              have g0 : wr.cell? ⟨bb, ob + busN, none⟩ = some (.string (busAt N (busN : Int))) := hbus0
              have e0 : wr.cell? ⟨bx, ox + k * 5, none⟩ = some (.string L.name) := hcx 0 _ rfl
              have e1 : wr.cell? ⟨bx, ox + k * 5 + 1, none⟩ = some (.int .i64 (busN : Int)) := by rw [← hbus]; exact hcx 1 _ rfl
              have e2 : wr.cell? ⟨bx, ox + k * 5 + 2, none⟩ = some (.int .i64 L.least) := hcx 2 _ rfl
              have e3 : wr.cell? ⟨bx, ox + k * 5 + 3, none⟩ = some (.int .i64 L.most) := hcx 3 _ rfl
              have e4 : wr.cell? ⟨bx, ox + k * 5 + 4, none⟩ = some (.int .i64 L.cost) := hcx 4 _ rfl
              have zleast : (decB L.least).size ≤ 32 := (dec_wdy (by omega) (by omega)).2
              have zmost : (decB L.most).size ≤ 32 := (dec_wdy (by omega) (by omega)).2
              have zcost : (decB L.cost).size ≤ 32 := (dec_wdy (by omega) (by omega)).2
              rw [hbus] at HP
              have HMY := hide' hmay
              have HX3 := hide' (fun o => HX2.out.alloc o)
              clear hcx hbx hL hts hmay HT hbus hbus0
              go_wp2_with fail
              obtain ⟨WL, hWL⟩ : ∃ WL, WL = wr.alloc (.cells #[.string L.name, .int .i64 (busN : Int), .int .i64 L.least, .int .i64 L.most, .int .i64 L.cost] 73) := ⟨_, rfl⟩
              have m0 : WL.cell? ⟨wr.heap.size, 0, none⟩ = some (.string L.name) := by rw [hWL]; simp [go_sem]
              have m1 : WL.cell? ⟨wr.heap.size, 1, none⟩ = some (.int .i64 (busN : Int)) := by rw [hWL]; simp [go_sem]
              have m2 : WL.cell? ⟨wr.heap.size, 2, none⟩ = some (.int .i64 L.least) := by rw [hWL]; simp [go_sem]
              have m3 : WL.cell? ⟨wr.heap.size, 3, none⟩ = some (.int .i64 L.most) := by rw [hWL]; simp [go_sem]
              have m4 : WL.cell? ⟨wr.heap.size, 4, none⟩ = some (.int .i64 L.cost) := by rw [hWL]; simp [go_sem]
              have hWb : Below wr.heap.size wr WL := by rw [hWL]; exact (Below.refl _ wr).alloc (Nat.le_refl _) _
              have hm1 : WL.cell? ⟨w.heap.size, 1, none⟩ = some (.slice (some ⟨bb, ob, none⟩) N.buses.length cb) := (hWb.cell (World.block_lt_of_cell? wr _ k1)).trans k1
              have n0 : WL.cell? ⟨bb, ob + busN, none⟩ = some (.string (busAt N (busN : Int))) := (hWb.cell (World.block_lt_of_cell? wr _ g0)).trans g0
              have hS : ∀ W, Below WL.heap.size WL W → W.cell? ⟨wr.heap.size, 0, none⟩ = some (.string L.name) ∧ W.cell? ⟨wr.heap.size, 1, none⟩ = some (.int .i64 (busN : Int)) ∧ W.cell? ⟨wr.heap.size, 2, none⟩ = some (.int .i64 L.least) ∧ W.cell? ⟨wr.heap.size, 3, none⟩ = some (.int .i64 L.most) ∧ W.cell? ⟨wr.heap.size, 4, none⟩ = some (.int .i64 L.cost) ∧ W.cell? ⟨w.heap.size, 1, none⟩ = some (.slice (some ⟨bb, ob, none⟩) N.buses.length cb) ∧ W.cell? ⟨bb, ob + busN, none⟩ = some (.string (busAt N (busN : Int))) := fun W h => ⟨(h.cell (World.block_lt_of_cell? WL _ m0)).trans m0, (h.cell (World.block_lt_of_cell? WL _ m1)).trans m1, (h.cell (World.block_lt_of_cell? WL _ m2)).trans m2, (h.cell (World.block_lt_of_cell? WL _ m3)).trans m3, (h.cell (World.block_lt_of_cell? WL _ m4)).trans m4, (h.cell (World.block_lt_of_cell? WL _ hm1)).trans hm1, (h.cell (World.block_lt_of_cell? WL _ n0)).trans n0⟩
              have HX4 := hide' (HX3.out (.cells #[.string L.name, .int .i64 (busN : Int), .int .i64 L.least, .int .i64 L.most, .int .i64 L.cost] 73))
              rw [← hWL] at HX4
              have HS := hide' hS
              rw [← hWL]
              clear hWL hS hWb e0 e1 e2 e3 e4 k0 k1 k2 k3 k4 k5 kf g0
              have HB0 : Hid (Below WL.heap.size WL WL.drew) := (Below.refl _ WL).drew
              refine wp_region_tail (fun W => W.cell? ⟨wr.heap.size, 0, none⟩ = some (.string L.name) ∧ W.cell? ⟨wr.heap.size, 1, none⟩ = some (.int .i64 (busN : Int)) ∧ W.cell? ⟨wr.heap.size, 2, none⟩ = some (.int .i64 L.least) ∧ W.cell? ⟨wr.heap.size, 3, none⟩ = some (.int .i64 L.most) ∧ W.cell? ⟨wr.heap.size, 4, none⟩ = some (.int .i64 L.cost) ∧ W.cell? ⟨w.heap.size, 1, none⟩ = some (.slice (some ⟨bb, ob, none⟩) N.buses.length cb) ∧ W.cell? ⟨bb, ob + busN, none⟩ = some (.string (busAt N (busN : Int)))) 29 (by kernel_rfl) ?_
              refine wpAnyD_takeAt 0 (some 90) (v := ?_) rfl (by kernel_rfl) (by kernel_rfl) (by kernel_rfl) (by kernel_rfl) (by kernel_rfl) (fun _ _ _ h => h) (by exact HS.out _ HB0.out) (fun o hop => ?_) ?_
              rotate_left
              · injection hop with hop
                subst hop
                refine ⟨rfl, fun W hW => ?_⟩
                obtain ⟨s0, s1, s2, s3, s4, s5, s6⟩ := hW
                go_simp
                first
                | rfl
                | rw [if_neg (by omega)]
              try simp only [Act.put, List.setIfInBounds_toArray, List.set_cons_zero, List.set_cons_succ]
              refine wpAnyD_takeAt 1 (some 91) (v := ?_) rfl (by kernel_rfl) (by kernel_rfl) (by kernel_rfl) (by kernel_rfl) (by kernel_rfl) (fun _ _ _ h => h) (by exact HS.out _ HB0.out) (fun o hop => ?_) ?_
              rotate_left
              · injection hop with hop
                subst hop
                refine ⟨rfl, fun W hW => ?_⟩
                obtain ⟨s0, s1, s2, s3, s4, s5, s6⟩ := hW
                go_simp
                first
                | rfl
                | rw [if_neg (by omega)]
              try simp only [Act.put, List.setIfInBounds_toArray, List.set_cons_zero, List.set_cons_succ]
              refine wpAnyD_takeAt 2 (some 92) (v := ?_) rfl (by kernel_rfl) (by kernel_rfl) (by kernel_rfl) (by kernel_rfl) (by kernel_rfl) (fun _ _ _ h => h) (by exact HS.out _ HB0.out) (fun o hop => ?_) ?_
              rotate_left
              · injection hop with hop
                subst hop
                refine ⟨rfl, fun W hW => ?_⟩
                obtain ⟨s0, s1, s2, s3, s4, s5, s6⟩ := hW
                go_simp
                first
                | rfl
                | rw [if_neg (by omega)]
              try simp only [Act.put, List.setIfInBounds_toArray, List.set_cons_zero, List.set_cons_succ]
              refine wpAnyD_takeAt 3 (some 93) (v := ?_) rfl (by kernel_rfl) (by kernel_rfl) (by kernel_rfl) (by kernel_rfl) (by kernel_rfl) (fun _ _ _ h => h) (by exact HS.out _ HB0.out) (fun o hop => ?_) ?_
              rotate_left
              · injection hop with hop
                subst hop
                refine ⟨rfl, fun W hW => ?_⟩
                obtain ⟨s0, s1, s2, s3, s4, s5, s6⟩ := hW
                go_simp
                first
                | rfl
                | rw [if_neg (by omega)]
              try simp only [Act.put, List.setIfInBounds_toArray, List.set_cons_zero, List.set_cons_succ]
              refine wpAnyD_takeAt 4 (some 94) (v := ?_) rfl (by kernel_rfl) (by kernel_rfl) (by kernel_rfl) (by kernel_rfl) (by kernel_rfl) (fun _ _ _ h => h) (by exact HS.out _ HB0.out) (fun o hop => ?_) ?_
              rotate_left
              · injection hop with hop
                subst hop
                refine ⟨rfl, fun W hW => ?_⟩
                obtain ⟨s0, s1, s2, s3, s4, s5, s6⟩ := hW
                go_simp
                first
                | rfl
                | rw [if_neg (by omega)]
              try simp only [Act.put, List.setIfInBounds_toArray, List.set_cons_zero, List.set_cons_succ]
              refine wpAnyD_takeAt 5 (some 95) (v := ?_) rfl (by kernel_rfl) (by kernel_rfl) (by kernel_rfl) (by kernel_rfl) (by kernel_rfl) (fun _ _ _ h => h) (by exact HS.out _ HB0.out) (fun o hop => ?_) ?_
              rotate_left
              · injection hop with hop
                subst hop
                refine ⟨rfl, fun W hW => ?_⟩
                obtain ⟨s0, s1, s2, s3, s4, s5, s6⟩ := hW
                go_simp
                first
                | rfl
                | rw [if_neg (by omega)]
              try simp only [Act.put, List.setIfInBounds_toArray, List.set_cons_zero, List.set_cons_succ]
              refine wpAnyD_takeAt 6 (some 96) (v := ?_) rfl (by kernel_rfl) (by kernel_rfl) (by kernel_rfl) (by kernel_rfl) (by kernel_rfl) (fun _ _ _ h => h) (by exact HS.out _ HB0.out) (fun o hop => ?_) ?_
              rotate_left
              · injection hop with hop
                subst hop
                refine ⟨rfl, fun W hW => ?_⟩
                obtain ⟨s0, s1, s2, s3, s4, s5, s6⟩ := hW
                go_simp
                first
                | rfl
                | rw [if_neg (by omega)]
              try simp only [Act.put, List.setIfInBounds_toArray, List.set_cons_zero, List.set_cons_succ]
              refine wpAnyD_takeAt 7 (some 97) (v := ?_) rfl (by kernel_rfl) (by kernel_rfl) (by kernel_rfl) (by kernel_rfl) (by kernel_rfl) (fun _ _ _ h => h) (by exact HS.out _ HB0.out) (fun o hop => ?_) ?_
              rotate_left
              · injection hop with hop
                subst hop
                refine ⟨rfl, fun W hW => ?_⟩
                obtain ⟨s0, s1, s2, s3, s4, s5, s6⟩ := hW
                go_simp
                first
                | rfl
                | rw [if_neg (by omega)]
              try simp only [Act.put, List.setIfInBounds_toArray, List.set_cons_zero, List.set_cons_succ]
              refine wpAnyD_takeAt 8 (some 98) (v := ?_) rfl (by kernel_rfl) (by kernel_rfl) (by kernel_rfl) (by kernel_rfl) (by kernel_rfl) (fun _ _ _ h => h) (by exact HS.out _ HB0.out) (fun o hop => ?_) ?_
              rotate_left
              · injection hop with hop
                subst hop
                refine ⟨rfl, fun W hW => ?_⟩
                obtain ⟨s0, s1, s2, s3, s4, s5, s6⟩ := hW
                go_simp
                first
                | rfl
                | rw [if_neg (by omega)]
              try simp only [Act.put, List.setIfInBounds_toArray, List.set_cons_zero, List.set_cons_succ]
              refine wpAnyD_takeAt 9 (some 99) (v := ?_) rfl (by kernel_rfl) (by kernel_rfl) (by kernel_rfl) (by kernel_rfl) (by kernel_rfl) (fun _ _ _ h => h) (by exact HS.out _ HB0.out) (fun o hop => ?_) ?_
              rotate_left
              · injection hop with hop
                subst hop
                refine ⟨rfl, fun W hW => ?_⟩
                obtain ⟨s0, s1, s2, s3, s4, s5, s6⟩ := hW
                go_simp
                first
                | rfl
                | rw [if_neg (by omega)]
              try simp only [Act.put, List.setIfInBounds_toArray, List.set_cons_zero, List.set_cons_succ]
              refine wpAnyD_takeAt 10 (some 100) (v := ?_) rfl (by kernel_rfl) (by kernel_rfl) (by kernel_rfl) (by kernel_rfl) (by kernel_rfl) (fun _ _ _ h => h) (by exact HS.out _ HB0.out) (fun o hop => ?_) ?_
              rotate_left
              · injection hop with hop
                subst hop
                refine ⟨rfl, fun W hW => ?_⟩
                obtain ⟨s0, s1, s2, s3, s4, s5, s6⟩ := hW
                go_simp
                first
                | rfl
                | rw [if_neg (by omega)]
              try simp only [Act.put, List.setIfInBounds_toArray, List.set_cons_zero, List.set_cons_succ]
              refine wpAnyD_takeAt 11 (some 101) (v := ?_) rfl (by kernel_rfl) (by kernel_rfl) (by kernel_rfl) (by kernel_rfl) (by kernel_rfl) (fun _ _ _ h => h) (by exact HS.out _ HB0.out) (fun o hop => ?_) ?_
              rotate_left
              · injection hop with hop
                subst hop
                refine ⟨rfl, fun W hW => ?_⟩
                obtain ⟨s0, s1, s2, s3, s4, s5, s6⟩ := hW
                go_simp
                first
                | rfl
                | rw [if_neg (by omega)]
              try simp only [Act.put, List.setIfInBounds_toArray, List.set_cons_zero, List.set_cons_succ]
              refine wpAnyD_takeAt 12 (some 102) (v := ?_) rfl (by kernel_rfl) (by kernel_rfl) (by kernel_rfl) (by kernel_rfl) (by kernel_rfl) (fun _ _ _ h => h) (by exact HS.out _ HB0.out) (fun o hop => ?_) ?_
              rotate_left
              · injection hop with hop
                subst hop
                refine ⟨rfl, fun W hW => ?_⟩
                obtain ⟨s0, s1, s2, s3, s4, s5, s6⟩ := hW
                go_simp
                first
                | rfl
                | rw [if_neg (by omega)]
              try simp only [Act.put, List.setIfInBounds_toArray, List.set_cons_zero, List.set_cons_succ]
              refine wpAnyD_takeAt 13 (some 103) (v := ?_) rfl (by kernel_rfl) (by kernel_rfl) (by kernel_rfl) (by kernel_rfl) (by kernel_rfl) (fun _ _ _ h => h) (by exact HS.out _ HB0.out) (fun o hop => ?_) ?_
              rotate_left
              · injection hop with hop
                subst hop
                refine ⟨rfl, fun W hW => ?_⟩
                obtain ⟨s0, s1, s2, s3, s4, s5, s6⟩ := hW
                go_simp
                first
                | rfl
                | rw [if_neg (by omega)]
              try simp only [Act.put, List.setIfInBounds_toArray, List.set_cons_zero, List.set_cons_succ]
              refine wpAnyD_takeAt 14 (some 104) (v := ?_) rfl (by kernel_rfl) (by kernel_rfl) (by kernel_rfl) (by kernel_rfl) (by kernel_rfl) (fun _ _ _ h => h) (by exact HS.out _ HB0.out) (fun o hop => ?_) ?_
              rotate_left
              · injection hop with hop
                subst hop
                refine ⟨rfl, fun W hW => ?_⟩
                obtain ⟨s0, s1, s2, s3, s4, s5, s6⟩ := hW
                go_simp
                first
                | rfl
                | rw [if_neg (by omega)]
              try simp only [Act.put, List.setIfInBounds_toArray, List.set_cons_zero, List.set_cons_succ]
              refine wpAnyD_takeAt 15 (some 105) (v := ?_) rfl (by kernel_rfl) (by kernel_rfl) (by kernel_rfl) (by kernel_rfl) (by kernel_rfl) (fun _ _ _ h => h) (by exact HS.out _ HB0.out) (fun o hop => ?_) ?_
              rotate_left
              · injection hop with hop
                subst hop
                refine ⟨rfl, fun W hW => ?_⟩
                obtain ⟨s0, s1, s2, s3, s4, s5, s6⟩ := hW
                go_simp
                first
                | rfl
                | rw [if_neg (by omega)]
              try simp only [Act.put, List.setIfInBounds_toArray, List.set_cons_zero, List.set_cons_succ]
              refine wpAnyD_takeAt 19 (some 109) (v := ?_) rfl (by kernel_rfl) (by kernel_rfl) (by kernel_rfl) (by kernel_rfl) (by kernel_rfl) (fun _ _ _ h => h) (by exact HS.out _ HB0.out) (fun o hop => ?_) ?_
              rotate_left
              · injection hop with hop
                subst hop
                refine ⟨rfl, fun W hW => ?_⟩
                obtain ⟨s0, s1, s2, s3, s4, s5, s6⟩ := hW
                go_simp
                first
                | rfl
                | rw [if_neg (by omega)]
              try simp only [Act.put, List.setIfInBounds_toArray, List.set_cons_zero, List.set_cons_succ]
              refine wpAnyD_takeAt 20 (some 110) (v := ?_) rfl (by kernel_rfl) (by kernel_rfl) (by kernel_rfl) (by kernel_rfl) (by kernel_rfl) (fun _ _ _ h => h) (by exact HS.out _ HB0.out) (fun o hop => ?_) ?_
              rotate_left
              · injection hop with hop
                subst hop
                refine ⟨rfl, fun W hW => ?_⟩
                obtain ⟨s0, s1, s2, s3, s4, s5, s6⟩ := hW
                go_simp
                first
                | rfl
                | rw [if_neg (by omega)]
              try simp only [Act.put, List.setIfInBounds_toArray, List.set_cons_zero, List.set_cons_succ]
              refine wpAnyD_takeAt 24 (some 114) (v := ?_) rfl (by kernel_rfl) (by kernel_rfl) (by kernel_rfl) (by kernel_rfl) (by kernel_rfl) (fun _ _ _ h => h) (by exact HS.out _ HB0.out) (fun o hop => ?_) ?_
              rotate_left
              · injection hop with hop
                subst hop
                refine ⟨rfl, fun W hW => ?_⟩
                obtain ⟨s0, s1, s2, s3, s4, s5, s6⟩ := hW
                go_simp
                first
                | rfl
                | rw [if_neg (by omega)]
              try simp only [Act.put, List.setIfInBounds_toArray, List.set_cons_zero, List.set_cons_succ]
              refine wpAnyD_takeAt 25 (some 115) (v := ?_) rfl (by kernel_rfl) (by kernel_rfl) (by kernel_rfl) (by kernel_rfl) (by kernel_rfl) (fun _ _ _ h => h) (by exact HS.out _ HB0.out) (fun o hop => ?_) ?_
              rotate_left
              · injection hop with hop
                subst hop
                refine ⟨rfl, fun W hW => ?_⟩
                obtain ⟨s0, s1, s2, s3, s4, s5, s6⟩ := hW
                go_simp
                first
                | rfl
                | rw [if_neg (by omega)]
              try simp only [Act.put, List.setIfInBounds_toArray, List.set_cons_zero, List.set_cons_succ]
              refine wpAnyT_one (i := 16) (by kernel_rfl) rfl rfl (fun K' hK => ?_)
              go_simp
              go_at_call 36
              refine (Dec_any L.least (by have := HMY.out; omega) (by have := HMY.out; omega) WL.drew).mono ?_
              rintro e v0 ⟨rfl, hb0⟩
              have HB1 : Hid (Below WL.heap.size WL v0) := HB0.out.trans (hb0.mono HB0.out.size)
              clear hb0
              refine hK.out _ _ (fun _ => by exact HS.out _ HB1.out) ?_
              clear hK K'
              refine wpAnyD_takeAt 17 (some 107) (v := ?_) rfl (by kernel_rfl) (by kernel_rfl) (by kernel_rfl) (by kernel_rfl) (by kernel_rfl) (fun _ _ _ h => h) (by exact HS.out _ HB1.out) (fun o hop => ?_) ?_
              rotate_left
              · injection hop with hop
                subst hop
                refine ⟨rfl, fun W hW => ?_⟩
                obtain ⟨s0, s1, s2, s3, s4, s5, s6⟩ := hW
                go_simp
                first
                | rfl
                | rw [if_neg (by omega)]
              try simp only [Act.put, List.setIfInBounds_toArray, List.set_cons_zero, List.set_cons_succ]
              refine wpAnyD_takeAt 18 (some 108) (v := ?_) rfl (by kernel_rfl) (by kernel_rfl) (by kernel_rfl) (by kernel_rfl) (by kernel_rfl) (fun _ _ _ h => h) (by exact HS.out _ HB1.out) (fun o hop => ?_) ?_
              rotate_left
              · injection hop with hop
                subst hop
                refine ⟨rfl, fun W hW => ?_⟩
                obtain ⟨s0, s1, s2, s3, s4, s5, s6⟩ := hW
                go_simp
                first
                | rfl
                | rw [if_neg (by omega)]
              try simp only [Act.put, List.setIfInBounds_toArray, List.set_cons_zero, List.set_cons_succ]
              refine wpAnyT_one (i := 21) (by kernel_rfl) rfl rfl (fun K' hK => ?_)
              go_simp
              go_at_call 36
              refine (Dec_any L.most (by have := HMY.out; omega) (by have := HMY.out; omega) v0).mono ?_
              rintro e v1 ⟨rfl, hb1⟩
              have HB2 : Hid (Below WL.heap.size WL v1) := HB1.out.trans (hb1.mono HB1.out.size)
              clear hb1
              refine hK.out _ _ (fun _ => by exact HS.out _ HB2.out) ?_
              clear hK K'
              refine wpAnyD_takeAt 22 (some 112) (v := ?_) rfl (by kernel_rfl) (by kernel_rfl) (by kernel_rfl) (by kernel_rfl) (by kernel_rfl) (fun _ _ _ h => h) (by exact HS.out _ HB2.out) (fun o hop => ?_) ?_
              rotate_left
              · injection hop with hop
                subst hop
                refine ⟨rfl, fun W hW => ?_⟩
                obtain ⟨s0, s1, s2, s3, s4, s5, s6⟩ := hW
                go_simp
                first
                | rfl
                | rw [if_neg (by omega)]
              try simp only [Act.put, List.setIfInBounds_toArray, List.set_cons_zero, List.set_cons_succ]
              refine wpAnyD_takeAt 23 (some 113) (v := ?_) rfl (by kernel_rfl) (by kernel_rfl) (by kernel_rfl) (by kernel_rfl) (by kernel_rfl) (fun _ _ _ h => h) (by exact HS.out _ HB2.out) (fun o hop => ?_) ?_
              rotate_left
              · injection hop with hop
                subst hop
                refine ⟨rfl, fun W hW => ?_⟩
                obtain ⟨s0, s1, s2, s3, s4, s5, s6⟩ := hW
                go_simp
                first
                | rfl
                | rw [if_neg (by omega)]
              try simp only [Act.put, List.setIfInBounds_toArray, List.set_cons_zero, List.set_cons_succ]
              refine wpAnyT_one (i := 26) (by kernel_rfl) rfl rfl (fun K' hK => ?_)
              go_simp
              go_at_call 36
              refine (Dec_any L.cost (by have := HMY.out; omega) (by have := HMY.out; omega) v1).mono ?_
              rintro e v2 ⟨rfl, hb2⟩
              have HB3 : Hid (Below WL.heap.size WL v2) := HB2.out.trans (hb2.mono HB2.out.size)
              clear hb2
              refine hK.out _ _ (fun _ => by exact HS.out _ HB3.out) ?_
              clear hK K'
              refine wpAnyD_takeAt 27 (some 117) (v := ?_) rfl (by kernel_rfl) (by kernel_rfl) (by kernel_rfl) (by kernel_rfl) (by kernel_rfl) (fun _ _ _ h => h) (by exact HS.out _ HB3.out) (fun o hop => ?_) ?_
              rotate_left
              · injection hop with hop
                subst hop
                refine ⟨rfl, fun W hW => ?_⟩
                obtain ⟨s0, s1, s2, s3, s4, s5, s6⟩ := hW
                go_simp
                first
                | rfl
                | rw [if_neg (by omega)]
              try simp only [Act.put, List.setIfInBounds_toArray, List.set_cons_zero, List.set_cons_succ]
              refine wpAnyD_takeAt 28 (some 118) (v := ?_) rfl (by kernel_rfl) (by kernel_rfl) (by kernel_rfl) (by kernel_rfl) (by kernel_rfl) (fun _ _ _ h => h) (by exact HS.out _ HB3.out) (fun o hop => ?_) ?_
              rotate_left
              · injection hop with hop
                subst hop
                refine ⟨rfl, fun W hW => ?_⟩
                obtain ⟨s0, s1, s2, s3, s4, s5, s6⟩ := hW
                go_simp
                first
                | rfl
                | rw [if_neg (by omega)]
              try simp only [Act.put, List.setIfInBounds_toArray, List.set_cons_zero, List.set_cons_succ]
              refine wpAnyT_one (i := 29) (by kernel_rfl) rfl rfl (fun K' hK => ?_)
              go_simp
              refine hK.out _ _ (fun h => absurd rfl h) ?_
              clear hK K'
              refine wpAnyT_done (by kernel_rfl) ?_ _
              have HX5 := hide' (HX4.out.later HB3.out)
              clear HS m0 m1 m2 m3 m4 hm1 n0
              go_wp2
              exact ⟨⟨k + 1, _, rfl, by go_num, by omega, HP, HX5⟩, by simp [intOf]; omega⟩
            · have HT1 : Hid (bytesOf t = textT (tm4 N)) := by
                have := HT.out
                rwa [take_all _ _ _ hk hlt] at this
              have HX1 := HX2
              clear HT HX2
              go_wp2_with fail
              go_loopw [3, 9] (fun s i wr => ∃ (k : Nat) (t : ByteArray), s = .string t ∧ i = .int .i64 k ∧ k ≤ N.loads.length ∧ Hid (bytesOf t = textT (tm4 N ++ (N.loads.take k).map (wordsLoad N))) ∧ Hid (Bx1 w wr w.heap.size N (.slice ab N.buses.length cb) (.slice al N.lines.length cl) (.slice ag N.gens.length cg) (.slice ad N.loads.length cd) (.slice at' N.ties.length ct))) (fun _ i _ => N.loads.length - (intOf i).toNat)
              case atStart => exact ⟨0, _, rfl, rfl, Nat.zero_le _, by have := HT1.out; rwa [← List.append_nil (tm4 N)] at this, HX1⟩
              case round =>
                clear HX1 HT1 k0 k1 k2 k3 k4 k5 kf hlt
                obtain ⟨k, t, rfl, rfl, hk, HT, HX2⟩ := hrel
                obtain ⟨k0, k1, k2, k3, k4, k5, kf⟩ := cells28 HX2.out.box
                by_cases hlt : k < N.loads.length
                · obtain ⟨bx, ox, cx, ex, hbx, hcx⟩ := row_elem (f := LoadM.cells) (sz := 3) (fun _ => rfl) HX2.out.hd k hlt (by decide)
                  cases ex
                  have hmay := HMay.out.loads _ (List.getElem_mem hlt)
                  have zn := short_name HMay.out (mem_loads (List.getElem_mem hlt))
                  have zt := size_pre HMay.out HT.out (pre_take (tm4_pre N) k)
                  have hts := take_snoc (tm4 N) (wordsLoad N) N.loads k hlt
                  obtain ⟨L, hL⟩ : ∃ L, L = N.loads[k] := ⟨_, rfl⟩
                  rw [← hL] at hcx hmay hts zn
                  have HP := hide' ((say4 HT.out kLoad ⟨#[108, 111, 97, 100, 32]⟩ L.name (busAt N L.bus) (decB L.power) rfl).trans (congrArg textT hts))
                  obtain ⟨busN, hbus⟩ : ∃ n : Nat, L.bus = n := Int.eq_ofNat_of_zero_le (by omega)
                  have hbusL : busN < N.buses.length := by omega
                  have zbus : (busAt N (busN : Int)).size ≤ 32 := (HMay.out.bus_wdy (by omega) (by omega)).2
                  obtain ⟨bb, ob, eb, hbus0⟩ := bus_cell HX2.out.hb busN hbusL
                  cases eb
                  have g0 : wr.cell? ⟨bb, ob + busN, none⟩ = some (.string (busAt N (busN : Int))) := hbus0
                  have e0 : wr.cell? ⟨bx, ox + k * 3, none⟩ = some (.string L.name) := hcx 0 _ rfl
                  have e1 : wr.cell? ⟨bx, ox + k * 3 + 1, none⟩ = some (.int .i64 (busN : Int)) := by rw [← hbus]; exact hcx 1 _ rfl
                  have e2 : wr.cell? ⟨bx, ox + k * 3 + 2, none⟩ = some (.int .i64 L.power) := hcx 2 _ rfl
                  have zpower : (decB L.power).size ≤ 32 := (dec_wdy (by omega) (by omega)).2
                  rw [hbus] at HP
                  have HMY := hide' hmay
                  have HX3 := hide' (fun o => HX2.out.alloc o)
                  clear hcx hbx hL hts hmay HT hbus hbus0
                  go_wp2_with fail
                  obtain ⟨WL, hWL⟩ : ∃ WL, WL = wr.alloc (.cells #[.string L.name, .int .i64 (busN : Int), .int .i64 L.power] 75) := ⟨_, rfl⟩
                  have m0 : WL.cell? ⟨wr.heap.size, 0, none⟩ = some (.string L.name) := by rw [hWL]; simp [go_sem]
                  have m1 : WL.cell? ⟨wr.heap.size, 1, none⟩ = some (.int .i64 (busN : Int)) := by rw [hWL]; simp [go_sem]
                  have m2 : WL.cell? ⟨wr.heap.size, 2, none⟩ = some (.int .i64 L.power) := by rw [hWL]; simp [go_sem]
                  have hWb : Below wr.heap.size wr WL := by rw [hWL]; exact (Below.refl _ wr).alloc (Nat.le_refl _) _
                  have hm1 : WL.cell? ⟨w.heap.size, 1, none⟩ = some (.slice (some ⟨bb, ob, none⟩) N.buses.length cb) := (hWb.cell (World.block_lt_of_cell? wr _ k1)).trans k1
                  have n0 : WL.cell? ⟨bb, ob + busN, none⟩ = some (.string (busAt N (busN : Int))) := (hWb.cell (World.block_lt_of_cell? wr _ g0)).trans g0
                  have hS : ∀ W, Below WL.heap.size WL W → W.cell? ⟨wr.heap.size, 0, none⟩ = some (.string L.name) ∧ W.cell? ⟨wr.heap.size, 1, none⟩ = some (.int .i64 (busN : Int)) ∧ W.cell? ⟨wr.heap.size, 2, none⟩ = some (.int .i64 L.power) ∧ W.cell? ⟨w.heap.size, 1, none⟩ = some (.slice (some ⟨bb, ob, none⟩) N.buses.length cb) ∧ W.cell? ⟨bb, ob + busN, none⟩ = some (.string (busAt N (busN : Int))) := fun W h => ⟨(h.cell (World.block_lt_of_cell? WL _ m0)).trans m0, (h.cell (World.block_lt_of_cell? WL _ m1)).trans m1, (h.cell (World.block_lt_of_cell? WL _ m2)).trans m2, (h.cell (World.block_lt_of_cell? WL _ hm1)).trans hm1, (h.cell (World.block_lt_of_cell? WL _ n0)).trans n0⟩
                  have HX4 := hide' (HX3.out (.cells #[.string L.name, .int .i64 (busN : Int), .int .i64 L.power] 75))
                  rw [← hWL] at HX4
                  have HS := hide' hS
                  rw [← hWL]
                  clear hWL hS hWb e0 e1 e2 k0 k1 k2 k3 k4 k5 kf g0
                  have HB0 : Hid (Below WL.heap.size WL WL.drew) := (Below.refl _ WL).drew
                  refine wp_region_tail (fun W => W.cell? ⟨wr.heap.size, 0, none⟩ = some (.string L.name) ∧ W.cell? ⟨wr.heap.size, 1, none⟩ = some (.int .i64 (busN : Int)) ∧ W.cell? ⟨wr.heap.size, 2, none⟩ = some (.int .i64 L.power) ∧ W.cell? ⟨w.heap.size, 1, none⟩ = some (.slice (some ⟨bb, ob, none⟩) N.buses.length cb) ∧ W.cell? ⟨bb, ob + busN, none⟩ = some (.string (busAt N (busN : Int)))) 19 (by kernel_rfl) ?_
                  refine wpAnyD_takeAt 0 (some 131) (v := ?_) rfl (by kernel_rfl) (by kernel_rfl) (by kernel_rfl) (by kernel_rfl) (by kernel_rfl) (fun _ _ _ h => h) (by exact HS.out _ HB0.out) (fun o hop => ?_) ?_
                  rotate_left
                  · injection hop with hop
                    subst hop
                    refine ⟨rfl, fun W hW => ?_⟩
                    obtain ⟨s0, s1, s2, s3, s4⟩ := hW
                    go_simp
                    first
                    | rfl
                    | rw [if_neg (by omega)]
                  try simp only [Act.put, List.setIfInBounds_toArray, List.set_cons_zero, List.set_cons_succ]
                  refine wpAnyD_takeAt 1 (some 132) (v := ?_) rfl (by kernel_rfl) (by kernel_rfl) (by kernel_rfl) (by kernel_rfl) (by kernel_rfl) (fun _ _ _ h => h) (by exact HS.out _ HB0.out) (fun o hop => ?_) ?_
                  rotate_left
                  · injection hop with hop
                    subst hop
                    refine ⟨rfl, fun W hW => ?_⟩
                    obtain ⟨s0, s1, s2, s3, s4⟩ := hW
                    go_simp
                    first
                    | rfl
                    | rw [if_neg (by omega)]
                  try simp only [Act.put, List.setIfInBounds_toArray, List.set_cons_zero, List.set_cons_succ]
                  refine wpAnyD_takeAt 2 (some 133) (v := ?_) rfl (by kernel_rfl) (by kernel_rfl) (by kernel_rfl) (by kernel_rfl) (by kernel_rfl) (fun _ _ _ h => h) (by exact HS.out _ HB0.out) (fun o hop => ?_) ?_
                  rotate_left
                  · injection hop with hop
                    subst hop
                    refine ⟨rfl, fun W hW => ?_⟩
                    obtain ⟨s0, s1, s2, s3, s4⟩ := hW
                    go_simp
                    first
                    | rfl
                    | rw [if_neg (by omega)]
                  try simp only [Act.put, List.setIfInBounds_toArray, List.set_cons_zero, List.set_cons_succ]
                  refine wpAnyD_takeAt 3 (some 134) (v := ?_) rfl (by kernel_rfl) (by kernel_rfl) (by kernel_rfl) (by kernel_rfl) (by kernel_rfl) (fun _ _ _ h => h) (by exact HS.out _ HB0.out) (fun o hop => ?_) ?_
                  rotate_left
                  · injection hop with hop
                    subst hop
                    refine ⟨rfl, fun W hW => ?_⟩
                    obtain ⟨s0, s1, s2, s3, s4⟩ := hW
                    go_simp
                    first
                    | rfl
                    | rw [if_neg (by omega)]
                  try simp only [Act.put, List.setIfInBounds_toArray, List.set_cons_zero, List.set_cons_succ]
                  refine wpAnyD_takeAt 4 (some 135) (v := ?_) rfl (by kernel_rfl) (by kernel_rfl) (by kernel_rfl) (by kernel_rfl) (by kernel_rfl) (fun _ _ _ h => h) (by exact HS.out _ HB0.out) (fun o hop => ?_) ?_
                  rotate_left
                  · injection hop with hop
                    subst hop
                    refine ⟨rfl, fun W hW => ?_⟩
                    obtain ⟨s0, s1, s2, s3, s4⟩ := hW
                    go_simp
                    first
                    | rfl
                    | rw [if_neg (by omega)]
                  try simp only [Act.put, List.setIfInBounds_toArray, List.set_cons_zero, List.set_cons_succ]
                  refine wpAnyD_takeAt 5 (some 136) (v := ?_) rfl (by kernel_rfl) (by kernel_rfl) (by kernel_rfl) (by kernel_rfl) (by kernel_rfl) (fun _ _ _ h => h) (by exact HS.out _ HB0.out) (fun o hop => ?_) ?_
                  rotate_left
                  · injection hop with hop
                    subst hop
                    refine ⟨rfl, fun W hW => ?_⟩
                    obtain ⟨s0, s1, s2, s3, s4⟩ := hW
                    go_simp
                    first
                    | rfl
                    | rw [if_neg (by omega)]
                  try simp only [Act.put, List.setIfInBounds_toArray, List.set_cons_zero, List.set_cons_succ]
                  refine wpAnyD_takeAt 6 (some 137) (v := ?_) rfl (by kernel_rfl) (by kernel_rfl) (by kernel_rfl) (by kernel_rfl) (by kernel_rfl) (fun _ _ _ h => h) (by exact HS.out _ HB0.out) (fun o hop => ?_) ?_
                  rotate_left
                  · injection hop with hop
                    subst hop
                    refine ⟨rfl, fun W hW => ?_⟩
                    obtain ⟨s0, s1, s2, s3, s4⟩ := hW
                    go_simp
                    first
                    | rfl
                    | rw [if_neg (by omega)]
                  try simp only [Act.put, List.setIfInBounds_toArray, List.set_cons_zero, List.set_cons_succ]
                  refine wpAnyD_takeAt 7 (some 138) (v := ?_) rfl (by kernel_rfl) (by kernel_rfl) (by kernel_rfl) (by kernel_rfl) (by kernel_rfl) (fun _ _ _ h => h) (by exact HS.out _ HB0.out) (fun o hop => ?_) ?_
                  rotate_left
                  · injection hop with hop
                    subst hop
                    refine ⟨rfl, fun W hW => ?_⟩
                    obtain ⟨s0, s1, s2, s3, s4⟩ := hW
                    go_simp
                    first
                    | rfl
                    | rw [if_neg (by omega)]
                  try simp only [Act.put, List.setIfInBounds_toArray, List.set_cons_zero, List.set_cons_succ]
                  refine wpAnyD_takeAt 8 (some 139) (v := ?_) rfl (by kernel_rfl) (by kernel_rfl) (by kernel_rfl) (by kernel_rfl) (by kernel_rfl) (fun _ _ _ h => h) (by exact HS.out _ HB0.out) (fun o hop => ?_) ?_
                  rotate_left
                  · injection hop with hop
                    subst hop
                    refine ⟨rfl, fun W hW => ?_⟩
                    obtain ⟨s0, s1, s2, s3, s4⟩ := hW
                    go_simp
                    first
                    | rfl
                    | rw [if_neg (by omega)]
                  try simp only [Act.put, List.setIfInBounds_toArray, List.set_cons_zero, List.set_cons_succ]
                  refine wpAnyD_takeAt 9 (some 140) (v := ?_) rfl (by kernel_rfl) (by kernel_rfl) (by kernel_rfl) (by kernel_rfl) (by kernel_rfl) (fun _ _ _ h => h) (by exact HS.out _ HB0.out) (fun o hop => ?_) ?_
                  rotate_left
                  · injection hop with hop
                    subst hop
                    refine ⟨rfl, fun W hW => ?_⟩
                    obtain ⟨s0, s1, s2, s3, s4⟩ := hW
                    go_simp
                    first
                    | rfl
                    | rw [if_neg (by omega)]
                  try simp only [Act.put, List.setIfInBounds_toArray, List.set_cons_zero, List.set_cons_succ]
                  refine wpAnyD_takeAt 10 (some 141) (v := ?_) rfl (by kernel_rfl) (by kernel_rfl) (by kernel_rfl) (by kernel_rfl) (by kernel_rfl) (fun _ _ _ h => h) (by exact HS.out _ HB0.out) (fun o hop => ?_) ?_
                  rotate_left
                  · injection hop with hop
                    subst hop
                    refine ⟨rfl, fun W hW => ?_⟩
                    obtain ⟨s0, s1, s2, s3, s4⟩ := hW
                    go_simp
                    first
                    | rfl
                    | rw [if_neg (by omega)]
                  try simp only [Act.put, List.setIfInBounds_toArray, List.set_cons_zero, List.set_cons_succ]
                  refine wpAnyD_takeAt 11 (some 142) (v := ?_) rfl (by kernel_rfl) (by kernel_rfl) (by kernel_rfl) (by kernel_rfl) (by kernel_rfl) (fun _ _ _ h => h) (by exact HS.out _ HB0.out) (fun o hop => ?_) ?_
                  rotate_left
                  · injection hop with hop
                    subst hop
                    refine ⟨rfl, fun W hW => ?_⟩
                    obtain ⟨s0, s1, s2, s3, s4⟩ := hW
                    go_simp
                    first
                    | rfl
                    | rw [if_neg (by omega)]
                  try simp only [Act.put, List.setIfInBounds_toArray, List.set_cons_zero, List.set_cons_succ]
                  refine wpAnyD_takeAt 12 (some 143) (v := ?_) rfl (by kernel_rfl) (by kernel_rfl) (by kernel_rfl) (by kernel_rfl) (by kernel_rfl) (fun _ _ _ h => h) (by exact HS.out _ HB0.out) (fun o hop => ?_) ?_
                  rotate_left
                  · injection hop with hop
                    subst hop
                    refine ⟨rfl, fun W hW => ?_⟩
                    obtain ⟨s0, s1, s2, s3, s4⟩ := hW
                    go_simp
                    first
                    | rfl
                    | rw [if_neg (by omega)]
                  try simp only [Act.put, List.setIfInBounds_toArray, List.set_cons_zero, List.set_cons_succ]
                  refine wpAnyD_takeAt 13 (some 144) (v := ?_) rfl (by kernel_rfl) (by kernel_rfl) (by kernel_rfl) (by kernel_rfl) (by kernel_rfl) (fun _ _ _ h => h) (by exact HS.out _ HB0.out) (fun o hop => ?_) ?_
                  rotate_left
                  · injection hop with hop
                    subst hop
                    refine ⟨rfl, fun W hW => ?_⟩
                    obtain ⟨s0, s1, s2, s3, s4⟩ := hW
                    go_simp
                    first
                    | rfl
                    | rw [if_neg (by omega)]
                  try simp only [Act.put, List.setIfInBounds_toArray, List.set_cons_zero, List.set_cons_succ]
                  refine wpAnyD_takeAt 14 (some 145) (v := ?_) rfl (by kernel_rfl) (by kernel_rfl) (by kernel_rfl) (by kernel_rfl) (by kernel_rfl) (fun _ _ _ h => h) (by exact HS.out _ HB0.out) (fun o hop => ?_) ?_
                  rotate_left
                  · injection hop with hop
                    subst hop
                    refine ⟨rfl, fun W hW => ?_⟩
                    obtain ⟨s0, s1, s2, s3, s4⟩ := hW
                    go_simp
                    first
                    | rfl
                    | rw [if_neg (by omega)]
                  try simp only [Act.put, List.setIfInBounds_toArray, List.set_cons_zero, List.set_cons_succ]
                  refine wpAnyD_takeAt 15 (some 146) (v := ?_) rfl (by kernel_rfl) (by kernel_rfl) (by kernel_rfl) (by kernel_rfl) (by kernel_rfl) (fun _ _ _ h => h) (by exact HS.out _ HB0.out) (fun o hop => ?_) ?_
                  rotate_left
                  · injection hop with hop
                    subst hop
                    refine ⟨rfl, fun W hW => ?_⟩
                    obtain ⟨s0, s1, s2, s3, s4⟩ := hW
                    go_simp
                    first
                    | rfl
                    | rw [if_neg (by omega)]
                  try simp only [Act.put, List.setIfInBounds_toArray, List.set_cons_zero, List.set_cons_succ]
                  refine wpAnyT_one (i := 16) (by kernel_rfl) rfl rfl (fun K' hK => ?_)
                  go_simp
                  go_at_call 36
                  refine (Dec_any L.power (by have := HMY.out; omega) (by have := HMY.out; omega) WL.drew).mono ?_
                  rintro e v0 ⟨rfl, hb0⟩
                  have HB1 : Hid (Below WL.heap.size WL v0) := HB0.out.trans (hb0.mono HB0.out.size)
                  clear hb0
                  refine hK.out _ _ (fun _ => by exact HS.out _ HB1.out) ?_
                  clear hK K'
                  refine wpAnyD_takeAt 17 (some 148) (v := ?_) rfl (by kernel_rfl) (by kernel_rfl) (by kernel_rfl) (by kernel_rfl) (by kernel_rfl) (fun _ _ _ h => h) (by exact HS.out _ HB1.out) (fun o hop => ?_) ?_
                  rotate_left
                  · injection hop with hop
                    subst hop
                    refine ⟨rfl, fun W hW => ?_⟩
                    obtain ⟨s0, s1, s2, s3, s4⟩ := hW
                    go_simp
                    first
                    | rfl
                    | rw [if_neg (by omega)]
                  try simp only [Act.put, List.setIfInBounds_toArray, List.set_cons_zero, List.set_cons_succ]
                  refine wpAnyD_takeAt 18 (some 149) (v := ?_) rfl (by kernel_rfl) (by kernel_rfl) (by kernel_rfl) (by kernel_rfl) (by kernel_rfl) (fun _ _ _ h => h) (by exact HS.out _ HB1.out) (fun o hop => ?_) ?_
                  rotate_left
                  · injection hop with hop
                    subst hop
                    refine ⟨rfl, fun W hW => ?_⟩
                    obtain ⟨s0, s1, s2, s3, s4⟩ := hW
                    go_simp
                    first
                    | rfl
                    | rw [if_neg (by omega)]
                  try simp only [Act.put, List.setIfInBounds_toArray, List.set_cons_zero, List.set_cons_succ]
                  refine wpAnyT_one (i := 19) (by kernel_rfl) rfl rfl (fun K' hK => ?_)
                  go_simp
                  refine hK.out _ _ (fun h => absurd rfl h) ?_
                  clear hK K'
                  refine wpAnyT_done (by kernel_rfl) ?_ _
                  have HX5 := hide' (HX4.out.later HB1.out)
                  clear HS m0 m1 m2 hm1 n0
                  go_wp2
                  exact ⟨⟨k + 1, _, rfl, by go_num, by omega, HP, HX5⟩, by simp [intOf]; omega⟩
                · have HT1 : Hid (bytesOf t = textT (tm5 N)) := by
                    have := HT.out
                    rwa [take_all _ _ _ hk hlt] at this
                  have HX1 := HX2
                  clear HT HX2
                  go_wp2_with fail
                  go_loopw [3, 11] (fun s i wr => ∃ (k : Nat) (t : ByteArray), s = .string t ∧ i = .int .i64 k ∧ k ≤ N.ties.length ∧ Hid (bytesOf t = textT (tm5 N ++ (N.ties.take k).map (wordsTie N))) ∧ Hid (Bx1 w wr w.heap.size N (.slice ab N.buses.length cb) (.slice al N.lines.length cl) (.slice ag N.gens.length cg) (.slice ad N.loads.length cd) (.slice at' N.ties.length ct))) (fun _ i _ => N.ties.length - (intOf i).toNat)
                  case atStart => exact ⟨0, _, rfl, rfl, Nat.zero_le _, by have := HT1.out; rwa [← List.append_nil (tm5 N)] at this, HX1⟩
                  case round =>
                    clear HX1 HT1 k0 k1 k2 k3 k4 k5 kf hlt
                    obtain ⟨k, t, rfl, rfl, hk, HT, HX2⟩ := hrel
                    obtain ⟨k0, k1, k2, k3, k4, k5, kf⟩ := cells28 HX2.out.box
                    by_cases hlt : k < N.ties.length
                    · obtain ⟨bx, ox, cx, ex, hbx, hcx⟩ := row_elem (f := TieM.cells) (sz := 4) (fun _ => rfl) HX2.out.ht k hlt (by decide)
                      cases ex
                      have hmay := HMay.out.ties _ (List.getElem_mem hlt)
                      have zn := short_name HMay.out (mem_ties (List.getElem_mem hlt))
                      have zt := size_pre HMay.out HT.out (pre_take (tm5_pre N) k)
                      have hts := take_snoc (tm5 N) (wordsTie N) N.ties k hlt
                      obtain ⟨L, hL⟩ : ∃ L, L = N.ties[k] := ⟨_, rfl⟩
                      rw [← hL] at hcx hmay hts zn
                      have HP := hide' ((say5 HT.out kTie ⟨#[116, 105, 101, 32]⟩ L.name (busAt N L.frm) (busAt N L.to) (if L.closed then kClosed else kOpen) rfl).trans (congrArg textT hts))
                      obtain ⟨frmN, hfrm⟩ : ∃ n : Nat, L.frm = n := Int.eq_ofNat_of_zero_le (by omega)
                      have hfrmL : frmN < N.buses.length := by omega
                      have zfrm : (busAt N (frmN : Int)).size ≤ 32 := (HMay.out.bus_wdy (by omega) (by omega)).2
                      obtain ⟨toN, hto⟩ : ∃ n : Nat, L.to = n := Int.eq_ofNat_of_zero_le (by omega)
                      have htoL : toN < N.buses.length := by omega
                      have zto : (busAt N (toN : Int)).size ≤ 32 := (HMay.out.bus_wdy (by omega) (by omega)).2
                      obtain ⟨bb, ob, eb, hbus0⟩ := bus_cell HX2.out.hb frmN hfrmL
                      cases eb
                      have g0 : wr.cell? ⟨bb, ob + frmN, none⟩ = some (.string (busAt N (frmN : Int))) := hbus0
                      obtain ⟨_, _, eb, hbus1⟩ := bus_cell HX2.out.hb toN htoL
                      cases eb
                      have g1 : wr.cell? ⟨bb, ob + toN, none⟩ = some (.string (busAt N (toN : Int))) := hbus1
                      have e0 : wr.cell? ⟨bx, ox + k * 4, none⟩ = some (.string L.name) := hcx 0 _ rfl
                      have e1 : wr.cell? ⟨bx, ox + k * 4 + 1, none⟩ = some (.int .i64 (frmN : Int)) := by rw [← hfrm]; exact hcx 1 _ rfl
                      have e2 : wr.cell? ⟨bx, ox + k * 4 + 2, none⟩ = some (.int .i64 (toN : Int)) := by rw [← hto]; exact hcx 2 _ rfl
                      have e3 : wr.cell? ⟨bx, ox + k * 4 + 3, none⟩ = some (.bool L.closed) := hcx 3 _ rfl
                      rw [hfrm, hto] at HP
                      have HMY := hide' hmay
                      have HX3 := hide' (fun o => HX2.out.alloc o)
                      clear hcx hbx hL hts hmay HT hfrm hto hbus0 hbus1
                      cases hcl : L.closed with
                      | false =>
                        rw [hcl] at e3 HP
                        go_wp2_with fail
                        obtain ⟨WL, hWL⟩ : ∃ WL, WL = wr.alloc (.cells #[.string L.name, .int .i64 (frmN : Int), .int .i64 (toN : Int), .bool false] 58) := ⟨_, rfl⟩
                        have m0 : WL.cell? ⟨wr.heap.size, 0, none⟩ = some (.string L.name) := by rw [hWL]; simp [go_sem]
                        have m1 : WL.cell? ⟨wr.heap.size, 1, none⟩ = some (.int .i64 (frmN : Int)) := by rw [hWL]; simp [go_sem]
                        have m2 : WL.cell? ⟨wr.heap.size, 2, none⟩ = some (.int .i64 (toN : Int)) := by rw [hWL]; simp [go_sem]
                        have hWb : Below wr.heap.size wr WL := by rw [hWL]; exact (Below.refl _ wr).alloc (Nat.le_refl _) _
                        have hm1 : WL.cell? ⟨w.heap.size, 1, none⟩ = some (.slice (some ⟨bb, ob, none⟩) N.buses.length cb) := (hWb.cell (World.block_lt_of_cell? wr _ k1)).trans k1
                        have n0 : WL.cell? ⟨bb, ob + frmN, none⟩ = some (.string (busAt N (frmN : Int))) := (hWb.cell (World.block_lt_of_cell? wr _ g0)).trans g0
                        have n1 : WL.cell? ⟨bb, ob + toN, none⟩ = some (.string (busAt N (toN : Int))) := (hWb.cell (World.block_lt_of_cell? wr _ g1)).trans g1
                        have hS : ∀ W, Below WL.heap.size WL W → W.cell? ⟨wr.heap.size, 0, none⟩ = some (.string L.name) ∧ W.cell? ⟨wr.heap.size, 1, none⟩ = some (.int .i64 (frmN : Int)) ∧ W.cell? ⟨wr.heap.size, 2, none⟩ = some (.int .i64 (toN : Int)) ∧ W.cell? ⟨w.heap.size, 1, none⟩ = some (.slice (some ⟨bb, ob, none⟩) N.buses.length cb) ∧ W.cell? ⟨bb, ob + frmN, none⟩ = some (.string (busAt N (frmN : Int))) ∧ W.cell? ⟨bb, ob + toN, none⟩ = some (.string (busAt N (toN : Int))) := fun W h => ⟨(h.cell (World.block_lt_of_cell? WL _ m0)).trans m0, (h.cell (World.block_lt_of_cell? WL _ m1)).trans m1, (h.cell (World.block_lt_of_cell? WL _ m2)).trans m2, (h.cell (World.block_lt_of_cell? WL _ hm1)).trans hm1, (h.cell (World.block_lt_of_cell? WL _ n0)).trans n0, (h.cell (World.block_lt_of_cell? WL _ n1)).trans n1⟩
                        have HX4 := hide' (HX3.out (.cells #[.string L.name, .int .i64 (frmN : Int), .int .i64 (toN : Int), .bool false] 58))
                        rw [← hWL] at HX4
                        have HS := hide' hS
                        rw [← hWL]
                        clear hWL hS hWb e0 e1 e2 e3 k0 k1 k2 k3 k4 k5 kf g0 g1
                        have HB0 : Hid (Below WL.heap.size WL WL.drew) := (Below.refl _ WL).drew
                        refine wp_region_tail (fun W => W.cell? ⟨wr.heap.size, 0, none⟩ = some (.string L.name) ∧ W.cell? ⟨wr.heap.size, 1, none⟩ = some (.int .i64 (frmN : Int)) ∧ W.cell? ⟨wr.heap.size, 2, none⟩ = some (.int .i64 (toN : Int)) ∧ W.cell? ⟨w.heap.size, 1, none⟩ = some (.slice (some ⟨bb, ob, none⟩) N.buses.length cb) ∧ W.cell? ⟨bb, ob + frmN, none⟩ = some (.string (busAt N (frmN : Int))) ∧ W.cell? ⟨bb, ob + toN, none⟩ = some (.string (busAt N (toN : Int)))) 25 (by kernel_rfl) ?_
                        refine wpAnyD_takeAt 0 (some 164) (v := ?_) rfl (by kernel_rfl) (by kernel_rfl) (by kernel_rfl) (by kernel_rfl) (by kernel_rfl) (fun _ _ _ h => h) (by exact HS.out _ HB0.out) (fun o hop => ?_) ?_
                        rotate_left
                        · injection hop with hop
                          subst hop
                          refine ⟨rfl, fun W hW => ?_⟩
                          obtain ⟨s0, s1, s2, s3, s4, s5⟩ := hW
                          go_simp
                          first
                          | rfl
                          | rw [if_neg (by omega)]
                        try simp only [Act.put, List.setIfInBounds_toArray, List.set_cons_zero, List.set_cons_succ]
                        refine wpAnyD_takeAt 1 (some 165) (v := ?_) rfl (by kernel_rfl) (by kernel_rfl) (by kernel_rfl) (by kernel_rfl) (by kernel_rfl) (fun _ _ _ h => h) (by exact HS.out _ HB0.out) (fun o hop => ?_) ?_
                        rotate_left
                        · injection hop with hop
                          subst hop
                          refine ⟨rfl, fun W hW => ?_⟩
                          obtain ⟨s0, s1, s2, s3, s4, s5⟩ := hW
                          go_simp
                          first
                          | rfl
                          | rw [if_neg (by omega)]
                        try simp only [Act.put, List.setIfInBounds_toArray, List.set_cons_zero, List.set_cons_succ]
                        refine wpAnyD_takeAt 2 (some 166) (v := ?_) rfl (by kernel_rfl) (by kernel_rfl) (by kernel_rfl) (by kernel_rfl) (by kernel_rfl) (fun _ _ _ h => h) (by exact HS.out _ HB0.out) (fun o hop => ?_) ?_
                        rotate_left
                        · injection hop with hop
                          subst hop
                          refine ⟨rfl, fun W hW => ?_⟩
                          obtain ⟨s0, s1, s2, s3, s4, s5⟩ := hW
                          go_simp
                          first
                          | rfl
                          | rw [if_neg (by omega)]
                        try simp only [Act.put, List.setIfInBounds_toArray, List.set_cons_zero, List.set_cons_succ]
                        refine wpAnyD_takeAt 3 (some 167) (v := ?_) rfl (by kernel_rfl) (by kernel_rfl) (by kernel_rfl) (by kernel_rfl) (by kernel_rfl) (fun _ _ _ h => h) (by exact HS.out _ HB0.out) (fun o hop => ?_) ?_
                        rotate_left
                        · injection hop with hop
                          subst hop
                          refine ⟨rfl, fun W hW => ?_⟩
                          obtain ⟨s0, s1, s2, s3, s4, s5⟩ := hW
                          go_simp
                          first
                          | rfl
                          | rw [if_neg (by omega)]
                        try simp only [Act.put, List.setIfInBounds_toArray, List.set_cons_zero, List.set_cons_succ]
                        refine wpAnyD_takeAt 4 (some 168) (v := ?_) rfl (by kernel_rfl) (by kernel_rfl) (by kernel_rfl) (by kernel_rfl) (by kernel_rfl) (fun _ _ _ h => h) (by exact HS.out _ HB0.out) (fun o hop => ?_) ?_
                        rotate_left
                        · injection hop with hop
                          subst hop
                          refine ⟨rfl, fun W hW => ?_⟩
                          obtain ⟨s0, s1, s2, s3, s4, s5⟩ := hW
                          go_simp
                          first
                          | rfl
                          | rw [if_neg (by omega)]
                        try simp only [Act.put, List.setIfInBounds_toArray, List.set_cons_zero, List.set_cons_succ]
                        refine wpAnyD_takeAt 5 (some 169) (v := ?_) rfl (by kernel_rfl) (by kernel_rfl) (by kernel_rfl) (by kernel_rfl) (by kernel_rfl) (fun _ _ _ h => h) (by exact HS.out _ HB0.out) (fun o hop => ?_) ?_
                        rotate_left
                        · injection hop with hop
                          subst hop
                          refine ⟨rfl, fun W hW => ?_⟩
                          obtain ⟨s0, s1, s2, s3, s4, s5⟩ := hW
                          go_simp
                          first
                          | rfl
                          | rw [if_neg (by omega)]
                        try simp only [Act.put, List.setIfInBounds_toArray, List.set_cons_zero, List.set_cons_succ]
                        refine wpAnyD_takeAt 6 (some 170) (v := ?_) rfl (by kernel_rfl) (by kernel_rfl) (by kernel_rfl) (by kernel_rfl) (by kernel_rfl) (fun _ _ _ h => h) (by exact HS.out _ HB0.out) (fun o hop => ?_) ?_
                        rotate_left
                        · injection hop with hop
                          subst hop
                          refine ⟨rfl, fun W hW => ?_⟩
                          obtain ⟨s0, s1, s2, s3, s4, s5⟩ := hW
                          go_simp
                          first
                          | rfl
                          | rw [if_neg (by omega)]
                        try simp only [Act.put, List.setIfInBounds_toArray, List.set_cons_zero, List.set_cons_succ]
                        refine wpAnyD_takeAt 7 (some 171) (v := ?_) rfl (by kernel_rfl) (by kernel_rfl) (by kernel_rfl) (by kernel_rfl) (by kernel_rfl) (fun _ _ _ h => h) (by exact HS.out _ HB0.out) (fun o hop => ?_) ?_
                        rotate_left
                        · injection hop with hop
                          subst hop
                          refine ⟨rfl, fun W hW => ?_⟩
                          obtain ⟨s0, s1, s2, s3, s4, s5⟩ := hW
                          go_simp
                          first
                          | rfl
                          | rw [if_neg (by omega)]
                        try simp only [Act.put, List.setIfInBounds_toArray, List.set_cons_zero, List.set_cons_succ]
                        refine wpAnyD_takeAt 8 (some 172) (v := ?_) rfl (by kernel_rfl) (by kernel_rfl) (by kernel_rfl) (by kernel_rfl) (by kernel_rfl) (fun _ _ _ h => h) (by exact HS.out _ HB0.out) (fun o hop => ?_) ?_
                        rotate_left
                        · injection hop with hop
                          subst hop
                          refine ⟨rfl, fun W hW => ?_⟩
                          obtain ⟨s0, s1, s2, s3, s4, s5⟩ := hW
                          go_simp
                          first
                          | rfl
                          | rw [if_neg (by omega)]
                        try simp only [Act.put, List.setIfInBounds_toArray, List.set_cons_zero, List.set_cons_succ]
                        refine wpAnyD_takeAt 9 (some 173) (v := ?_) rfl (by kernel_rfl) (by kernel_rfl) (by kernel_rfl) (by kernel_rfl) (by kernel_rfl) (fun _ _ _ h => h) (by exact HS.out _ HB0.out) (fun o hop => ?_) ?_
                        rotate_left
                        · injection hop with hop
                          subst hop
                          refine ⟨rfl, fun W hW => ?_⟩
                          obtain ⟨s0, s1, s2, s3, s4, s5⟩ := hW
                          go_simp
                          first
                          | rfl
                          | rw [if_neg (by omega)]
                        try simp only [Act.put, List.setIfInBounds_toArray, List.set_cons_zero, List.set_cons_succ]
                        refine wpAnyD_takeAt 10 (some 174) (v := ?_) rfl (by kernel_rfl) (by kernel_rfl) (by kernel_rfl) (by kernel_rfl) (by kernel_rfl) (fun _ _ _ h => h) (by exact HS.out _ HB0.out) (fun o hop => ?_) ?_
                        rotate_left
                        · injection hop with hop
                          subst hop
                          refine ⟨rfl, fun W hW => ?_⟩
                          obtain ⟨s0, s1, s2, s3, s4, s5⟩ := hW
                          go_simp
                          first
                          | rfl
                          | rw [if_neg (by omega)]
                        try simp only [Act.put, List.setIfInBounds_toArray, List.set_cons_zero, List.set_cons_succ]
                        refine wpAnyD_takeAt 11 (some 175) (v := ?_) rfl (by kernel_rfl) (by kernel_rfl) (by kernel_rfl) (by kernel_rfl) (by kernel_rfl) (fun _ _ _ h => h) (by exact HS.out _ HB0.out) (fun o hop => ?_) ?_
                        rotate_left
                        · injection hop with hop
                          subst hop
                          refine ⟨rfl, fun W hW => ?_⟩
                          obtain ⟨s0, s1, s2, s3, s4, s5⟩ := hW
                          go_simp
                          first
                          | rfl
                          | rw [if_neg (by omega)]
                        try simp only [Act.put, List.setIfInBounds_toArray, List.set_cons_zero, List.set_cons_succ]
                        refine wpAnyD_takeAt 12 (some 176) (v := ?_) rfl (by kernel_rfl) (by kernel_rfl) (by kernel_rfl) (by kernel_rfl) (by kernel_rfl) (fun _ _ _ h => h) (by exact HS.out _ HB0.out) (fun o hop => ?_) ?_
                        rotate_left
                        · injection hop with hop
                          subst hop
                          refine ⟨rfl, fun W hW => ?_⟩
                          obtain ⟨s0, s1, s2, s3, s4, s5⟩ := hW
                          go_simp
                          first
                          | rfl
                          | rw [if_neg (by omega)]
                        try simp only [Act.put, List.setIfInBounds_toArray, List.set_cons_zero, List.set_cons_succ]
                        refine wpAnyD_takeAt 13 (some 177) (v := ?_) rfl (by kernel_rfl) (by kernel_rfl) (by kernel_rfl) (by kernel_rfl) (by kernel_rfl) (fun _ _ _ h => h) (by exact HS.out _ HB0.out) (fun o hop => ?_) ?_
                        rotate_left
                        · injection hop with hop
                          subst hop
                          refine ⟨rfl, fun W hW => ?_⟩
                          obtain ⟨s0, s1, s2, s3, s4, s5⟩ := hW
                          go_simp
                          first
                          | rfl
                          | rw [if_neg (by omega)]
                        try simp only [Act.put, List.setIfInBounds_toArray, List.set_cons_zero, List.set_cons_succ]
                        refine wpAnyD_takeAt 14 (some 178) (v := ?_) rfl (by kernel_rfl) (by kernel_rfl) (by kernel_rfl) (by kernel_rfl) (by kernel_rfl) (fun _ _ _ h => h) (by exact HS.out _ HB0.out) (fun o hop => ?_) ?_
                        rotate_left
                        · injection hop with hop
                          subst hop
                          refine ⟨rfl, fun W hW => ?_⟩
                          obtain ⟨s0, s1, s2, s3, s4, s5⟩ := hW
                          go_simp
                          first
                          | rfl
                          | rw [if_neg (by omega)]
                        try simp only [Act.put, List.setIfInBounds_toArray, List.set_cons_zero, List.set_cons_succ]
                        refine wpAnyD_takeAt 15 (some 179) (v := ?_) rfl (by kernel_rfl) (by kernel_rfl) (by kernel_rfl) (by kernel_rfl) (by kernel_rfl) (fun _ _ _ h => h) (by exact HS.out _ HB0.out) (fun o hop => ?_) ?_
                        rotate_left
                        · injection hop with hop
                          subst hop
                          refine ⟨rfl, fun W hW => ?_⟩
                          obtain ⟨s0, s1, s2, s3, s4, s5⟩ := hW
                          go_simp
                          first
                          | rfl
                          | rw [if_neg (by omega)]
                        try simp only [Act.put, List.setIfInBounds_toArray, List.set_cons_zero, List.set_cons_succ]
                        refine wpAnyD_takeAt 16 (some 180) (v := ?_) rfl (by kernel_rfl) (by kernel_rfl) (by kernel_rfl) (by kernel_rfl) (by kernel_rfl) (fun _ _ _ h => h) (by exact HS.out _ HB0.out) (fun o hop => ?_) ?_
                        rotate_left
                        · injection hop with hop
                          subst hop
                          refine ⟨rfl, fun W hW => ?_⟩
                          obtain ⟨s0, s1, s2, s3, s4, s5⟩ := hW
                          go_simp
                          first
                          | rfl
                          | rw [if_neg (by omega)]
                        try simp only [Act.put, List.setIfInBounds_toArray, List.set_cons_zero, List.set_cons_succ]
                        refine wpAnyD_takeAt 17 (some 181) (v := ?_) rfl (by kernel_rfl) (by kernel_rfl) (by kernel_rfl) (by kernel_rfl) (by kernel_rfl) (fun _ _ _ h => h) (by exact HS.out _ HB0.out) (fun o hop => ?_) ?_
                        rotate_left
                        · injection hop with hop
                          subst hop
                          refine ⟨rfl, fun W hW => ?_⟩
                          obtain ⟨s0, s1, s2, s3, s4, s5⟩ := hW
                          go_simp
                          first
                          | rfl
                          | rw [if_neg (by omega)]
                        try simp only [Act.put, List.setIfInBounds_toArray, List.set_cons_zero, List.set_cons_succ]
                        refine wpAnyD_takeAt 18 (some 182) (v := ?_) rfl (by kernel_rfl) (by kernel_rfl) (by kernel_rfl) (by kernel_rfl) (by kernel_rfl) (fun _ _ _ h => h) (by exact HS.out _ HB0.out) (fun o hop => ?_) ?_
                        rotate_left
                        · injection hop with hop
                          subst hop
                          refine ⟨rfl, fun W hW => ?_⟩
                          obtain ⟨s0, s1, s2, s3, s4, s5⟩ := hW
                          go_simp
                          first
                          | rfl
                          | rw [if_neg (by omega)]
                        try simp only [Act.put, List.setIfInBounds_toArray, List.set_cons_zero, List.set_cons_succ]
                        refine wpAnyD_takeAt 19 (some 183) (v := ?_) rfl (by kernel_rfl) (by kernel_rfl) (by kernel_rfl) (by kernel_rfl) (by kernel_rfl) (fun _ _ _ h => h) (by exact HS.out _ HB0.out) (fun o hop => ?_) ?_
                        rotate_left
                        · injection hop with hop
                          subst hop
                          refine ⟨rfl, fun W hW => ?_⟩
                          obtain ⟨s0, s1, s2, s3, s4, s5⟩ := hW
                          go_simp
                          first
                          | rfl
                          | rw [if_neg (by omega)]
                        try simp only [Act.put, List.setIfInBounds_toArray, List.set_cons_zero, List.set_cons_succ]
                        refine wpAnyD_takeAt 20 (some 184) (v := ?_) rfl (by kernel_rfl) (by kernel_rfl) (by kernel_rfl) (by kernel_rfl) (by kernel_rfl) (fun _ _ _ h => h) (by exact HS.out _ HB0.out) (fun o hop => ?_) ?_
                        rotate_left
                        · injection hop with hop
                          subst hop
                          refine ⟨rfl, fun W hW => ?_⟩
                          obtain ⟨s0, s1, s2, s3, s4, s5⟩ := hW
                          go_simp
                          first
                          | rfl
                          | rw [if_neg (by omega)]
                        try simp only [Act.put, List.setIfInBounds_toArray, List.set_cons_zero, List.set_cons_succ]
                        refine wpAnyD_takeAt 21 (some 185) (v := ?_) rfl (by kernel_rfl) (by kernel_rfl) (by kernel_rfl) (by kernel_rfl) (by kernel_rfl) (fun _ _ _ h => h) (by exact HS.out _ HB0.out) (fun o hop => ?_) ?_
                        rotate_left
                        · injection hop with hop
                          subst hop
                          refine ⟨rfl, fun W hW => ?_⟩
                          obtain ⟨s0, s1, s2, s3, s4, s5⟩ := hW
                          go_simp
                          first
                          | rfl
                          | rw [if_neg (by omega)]
                        try simp only [Act.put, List.setIfInBounds_toArray, List.set_cons_zero, List.set_cons_succ]
                        refine wpAnyD_takeAt 22 (some 186) (v := ?_) rfl (by kernel_rfl) (by kernel_rfl) (by kernel_rfl) (by kernel_rfl) (by kernel_rfl) (fun _ _ _ h => h) (by exact HS.out _ HB0.out) (fun o hop => ?_) ?_
                        rotate_left
                        · injection hop with hop
                          subst hop
                          refine ⟨rfl, fun W hW => ?_⟩
                          obtain ⟨s0, s1, s2, s3, s4, s5⟩ := hW
                          go_simp
                          first
                          | rfl
                          | rw [if_neg (by omega)]
                        try simp only [Act.put, List.setIfInBounds_toArray, List.set_cons_zero, List.set_cons_succ]
                        refine wpAnyD_takeAt 23 (some 187) (v := ?_) rfl (by kernel_rfl) (by kernel_rfl) (by kernel_rfl) (by kernel_rfl) (by kernel_rfl) (fun _ _ _ h => h) (by exact HS.out _ HB0.out) (fun o hop => ?_) ?_
                        rotate_left
                        · injection hop with hop
                          subst hop
                          refine ⟨rfl, fun W hW => ?_⟩
                          obtain ⟨s0, s1, s2, s3, s4, s5⟩ := hW
                          go_simp
                          first
                          | rfl
                          | rw [if_neg (by omega)]
                        try simp only [Act.put, List.setIfInBounds_toArray, List.set_cons_zero, List.set_cons_succ]
                        refine wpAnyD_takeAt 24 (some 188) (v := ?_) rfl (by kernel_rfl) (by kernel_rfl) (by kernel_rfl) (by kernel_rfl) (by kernel_rfl) (fun _ _ _ h => h) (by exact HS.out _ HB0.out) (fun o hop => ?_) ?_
                        rotate_left
                        · injection hop with hop
                          subst hop
                          refine ⟨rfl, fun W hW => ?_⟩
                          obtain ⟨s0, s1, s2, s3, s4, s5⟩ := hW
                          go_simp
                          first
                          | rfl
                          | rw [if_neg (by omega)]
                        try simp only [Act.put, List.setIfInBounds_toArray, List.set_cons_zero, List.set_cons_succ]
                        refine wpAnyT_one (i := 25) (by kernel_rfl) rfl rfl (fun K' hK => ?_)
                        go_simp
                        refine hK.out _ _ (fun h => absurd rfl h) ?_
                        clear hK K'
                        refine wpAnyT_done (by kernel_rfl) ?_ _
                        have HX5 := hide' (HX4.out.later HB0.out)
                        clear HS m0 m1 m2 hm1 n0 n1
                        go_wp2
                        exact ⟨⟨k + 1, _, rfl, by go_num, by omega, HP, HX5⟩, by simp [intOf]; omega⟩
                      | true =>
                        rw [hcl] at e3 HP
                        go_wp2_with fail
                        obtain ⟨WL, hWL⟩ : ∃ WL, WL = wr.alloc (.cells #[.string L.name, .int .i64 (frmN : Int), .int .i64 (toN : Int), .bool true] 58) := ⟨_, rfl⟩
                        have m0 : WL.cell? ⟨wr.heap.size, 0, none⟩ = some (.string L.name) := by rw [hWL]; simp [go_sem]
                        have m1 : WL.cell? ⟨wr.heap.size, 1, none⟩ = some (.int .i64 (frmN : Int)) := by rw [hWL]; simp [go_sem]
                        have m2 : WL.cell? ⟨wr.heap.size, 2, none⟩ = some (.int .i64 (toN : Int)) := by rw [hWL]; simp [go_sem]
                        have hWb : Below wr.heap.size wr WL := by rw [hWL]; exact (Below.refl _ wr).alloc (Nat.le_refl _) _
                        have hm1 : WL.cell? ⟨w.heap.size, 1, none⟩ = some (.slice (some ⟨bb, ob, none⟩) N.buses.length cb) := (hWb.cell (World.block_lt_of_cell? wr _ k1)).trans k1
                        have n0 : WL.cell? ⟨bb, ob + frmN, none⟩ = some (.string (busAt N (frmN : Int))) := (hWb.cell (World.block_lt_of_cell? wr _ g0)).trans g0
                        have n1 : WL.cell? ⟨bb, ob + toN, none⟩ = some (.string (busAt N (toN : Int))) := (hWb.cell (World.block_lt_of_cell? wr _ g1)).trans g1
                        have hS : ∀ W, Below WL.heap.size WL W → W.cell? ⟨wr.heap.size, 0, none⟩ = some (.string L.name) ∧ W.cell? ⟨wr.heap.size, 1, none⟩ = some (.int .i64 (frmN : Int)) ∧ W.cell? ⟨wr.heap.size, 2, none⟩ = some (.int .i64 (toN : Int)) ∧ W.cell? ⟨w.heap.size, 1, none⟩ = some (.slice (some ⟨bb, ob, none⟩) N.buses.length cb) ∧ W.cell? ⟨bb, ob + frmN, none⟩ = some (.string (busAt N (frmN : Int))) ∧ W.cell? ⟨bb, ob + toN, none⟩ = some (.string (busAt N (toN : Int))) := fun W h => ⟨(h.cell (World.block_lt_of_cell? WL _ m0)).trans m0, (h.cell (World.block_lt_of_cell? WL _ m1)).trans m1, (h.cell (World.block_lt_of_cell? WL _ m2)).trans m2, (h.cell (World.block_lt_of_cell? WL _ hm1)).trans hm1, (h.cell (World.block_lt_of_cell? WL _ n0)).trans n0, (h.cell (World.block_lt_of_cell? WL _ n1)).trans n1⟩
                        have HX4 := hide' (HX3.out (.cells #[.string L.name, .int .i64 (frmN : Int), .int .i64 (toN : Int), .bool true] 58))
                        rw [← hWL] at HX4
                        have HS := hide' hS
                        rw [← hWL]
                        clear hWL hS hWb e0 e1 e2 e3 k0 k1 k2 k3 k4 k5 kf g0 g1
                        have HB0 : Hid (Below WL.heap.size WL WL.drew) := (Below.refl _ WL).drew
                        refine wp_region_tail (fun W => W.cell? ⟨wr.heap.size, 0, none⟩ = some (.string L.name) ∧ W.cell? ⟨wr.heap.size, 1, none⟩ = some (.int .i64 (frmN : Int)) ∧ W.cell? ⟨wr.heap.size, 2, none⟩ = some (.int .i64 (toN : Int)) ∧ W.cell? ⟨w.heap.size, 1, none⟩ = some (.slice (some ⟨bb, ob, none⟩) N.buses.length cb) ∧ W.cell? ⟨bb, ob + frmN, none⟩ = some (.string (busAt N (frmN : Int))) ∧ W.cell? ⟨bb, ob + toN, none⟩ = some (.string (busAt N (toN : Int)))) 25 (by kernel_rfl) ?_
                        refine wpAnyD_takeAt 0 (some 164) (v := ?_) rfl (by kernel_rfl) (by kernel_rfl) (by kernel_rfl) (by kernel_rfl) (by kernel_rfl) (fun _ _ _ h => h) (by exact HS.out _ HB0.out) (fun o hop => ?_) ?_
                        rotate_left
                        · injection hop with hop
                          subst hop
                          refine ⟨rfl, fun W hW => ?_⟩
                          obtain ⟨s0, s1, s2, s3, s4, s5⟩ := hW
                          go_simp
                          first
                          | rfl
                          | rw [if_neg (by omega)]
                        try simp only [Act.put, List.setIfInBounds_toArray, List.set_cons_zero, List.set_cons_succ]
                        refine wpAnyD_takeAt 1 (some 165) (v := ?_) rfl (by kernel_rfl) (by kernel_rfl) (by kernel_rfl) (by kernel_rfl) (by kernel_rfl) (fun _ _ _ h => h) (by exact HS.out _ HB0.out) (fun o hop => ?_) ?_
                        rotate_left
                        · injection hop with hop
                          subst hop
                          refine ⟨rfl, fun W hW => ?_⟩
                          obtain ⟨s0, s1, s2, s3, s4, s5⟩ := hW
                          go_simp
                          first
                          | rfl
                          | rw [if_neg (by omega)]
                        try simp only [Act.put, List.setIfInBounds_toArray, List.set_cons_zero, List.set_cons_succ]
                        refine wpAnyD_takeAt 2 (some 166) (v := ?_) rfl (by kernel_rfl) (by kernel_rfl) (by kernel_rfl) (by kernel_rfl) (by kernel_rfl) (fun _ _ _ h => h) (by exact HS.out _ HB0.out) (fun o hop => ?_) ?_
                        rotate_left
                        · injection hop with hop
                          subst hop
                          refine ⟨rfl, fun W hW => ?_⟩
                          obtain ⟨s0, s1, s2, s3, s4, s5⟩ := hW
                          go_simp
                          first
                          | rfl
                          | rw [if_neg (by omega)]
                        try simp only [Act.put, List.setIfInBounds_toArray, List.set_cons_zero, List.set_cons_succ]
                        refine wpAnyD_takeAt 3 (some 167) (v := ?_) rfl (by kernel_rfl) (by kernel_rfl) (by kernel_rfl) (by kernel_rfl) (by kernel_rfl) (fun _ _ _ h => h) (by exact HS.out _ HB0.out) (fun o hop => ?_) ?_
                        rotate_left
                        · injection hop with hop
                          subst hop
                          refine ⟨rfl, fun W hW => ?_⟩
                          obtain ⟨s0, s1, s2, s3, s4, s5⟩ := hW
                          go_simp
                          first
                          | rfl
                          | rw [if_neg (by omega)]
                        try simp only [Act.put, List.setIfInBounds_toArray, List.set_cons_zero, List.set_cons_succ]
                        refine wpAnyD_takeAt 4 (some 168) (v := ?_) rfl (by kernel_rfl) (by kernel_rfl) (by kernel_rfl) (by kernel_rfl) (by kernel_rfl) (fun _ _ _ h => h) (by exact HS.out _ HB0.out) (fun o hop => ?_) ?_
                        rotate_left
                        · injection hop with hop
                          subst hop
                          refine ⟨rfl, fun W hW => ?_⟩
                          obtain ⟨s0, s1, s2, s3, s4, s5⟩ := hW
                          go_simp
                          first
                          | rfl
                          | rw [if_neg (by omega)]
                        try simp only [Act.put, List.setIfInBounds_toArray, List.set_cons_zero, List.set_cons_succ]
                        refine wpAnyD_takeAt 5 (some 169) (v := ?_) rfl (by kernel_rfl) (by kernel_rfl) (by kernel_rfl) (by kernel_rfl) (by kernel_rfl) (fun _ _ _ h => h) (by exact HS.out _ HB0.out) (fun o hop => ?_) ?_
                        rotate_left
                        · injection hop with hop
                          subst hop
                          refine ⟨rfl, fun W hW => ?_⟩
                          obtain ⟨s0, s1, s2, s3, s4, s5⟩ := hW
                          go_simp
                          first
                          | rfl
                          | rw [if_neg (by omega)]
                        try simp only [Act.put, List.setIfInBounds_toArray, List.set_cons_zero, List.set_cons_succ]
                        refine wpAnyD_takeAt 6 (some 170) (v := ?_) rfl (by kernel_rfl) (by kernel_rfl) (by kernel_rfl) (by kernel_rfl) (by kernel_rfl) (fun _ _ _ h => h) (by exact HS.out _ HB0.out) (fun o hop => ?_) ?_
                        rotate_left
                        · injection hop with hop
                          subst hop
                          refine ⟨rfl, fun W hW => ?_⟩
                          obtain ⟨s0, s1, s2, s3, s4, s5⟩ := hW
                          go_simp
                          first
                          | rfl
                          | rw [if_neg (by omega)]
                        try simp only [Act.put, List.setIfInBounds_toArray, List.set_cons_zero, List.set_cons_succ]
                        refine wpAnyD_takeAt 7 (some 171) (v := ?_) rfl (by kernel_rfl) (by kernel_rfl) (by kernel_rfl) (by kernel_rfl) (by kernel_rfl) (fun _ _ _ h => h) (by exact HS.out _ HB0.out) (fun o hop => ?_) ?_
                        rotate_left
                        · injection hop with hop
                          subst hop
                          refine ⟨rfl, fun W hW => ?_⟩
                          obtain ⟨s0, s1, s2, s3, s4, s5⟩ := hW
                          go_simp
                          first
                          | rfl
                          | rw [if_neg (by omega)]
                        try simp only [Act.put, List.setIfInBounds_toArray, List.set_cons_zero, List.set_cons_succ]
                        refine wpAnyD_takeAt 8 (some 172) (v := ?_) rfl (by kernel_rfl) (by kernel_rfl) (by kernel_rfl) (by kernel_rfl) (by kernel_rfl) (fun _ _ _ h => h) (by exact HS.out _ HB0.out) (fun o hop => ?_) ?_
                        rotate_left
                        · injection hop with hop
                          subst hop
                          refine ⟨rfl, fun W hW => ?_⟩
                          obtain ⟨s0, s1, s2, s3, s4, s5⟩ := hW
                          go_simp
                          first
                          | rfl
                          | rw [if_neg (by omega)]
                        try simp only [Act.put, List.setIfInBounds_toArray, List.set_cons_zero, List.set_cons_succ]
                        refine wpAnyD_takeAt 9 (some 173) (v := ?_) rfl (by kernel_rfl) (by kernel_rfl) (by kernel_rfl) (by kernel_rfl) (by kernel_rfl) (fun _ _ _ h => h) (by exact HS.out _ HB0.out) (fun o hop => ?_) ?_
                        rotate_left
                        · injection hop with hop
                          subst hop
                          refine ⟨rfl, fun W hW => ?_⟩
                          obtain ⟨s0, s1, s2, s3, s4, s5⟩ := hW
                          go_simp
                          first
                          | rfl
                          | rw [if_neg (by omega)]
                        try simp only [Act.put, List.setIfInBounds_toArray, List.set_cons_zero, List.set_cons_succ]
                        refine wpAnyD_takeAt 10 (some 174) (v := ?_) rfl (by kernel_rfl) (by kernel_rfl) (by kernel_rfl) (by kernel_rfl) (by kernel_rfl) (fun _ _ _ h => h) (by exact HS.out _ HB0.out) (fun o hop => ?_) ?_
                        rotate_left
                        · injection hop with hop
                          subst hop
                          refine ⟨rfl, fun W hW => ?_⟩
                          obtain ⟨s0, s1, s2, s3, s4, s5⟩ := hW
                          go_simp
                          first
                          | rfl
                          | rw [if_neg (by omega)]
                        try simp only [Act.put, List.setIfInBounds_toArray, List.set_cons_zero, List.set_cons_succ]
                        refine wpAnyD_takeAt 11 (some 175) (v := ?_) rfl (by kernel_rfl) (by kernel_rfl) (by kernel_rfl) (by kernel_rfl) (by kernel_rfl) (fun _ _ _ h => h) (by exact HS.out _ HB0.out) (fun o hop => ?_) ?_
                        rotate_left
                        · injection hop with hop
                          subst hop
                          refine ⟨rfl, fun W hW => ?_⟩
                          obtain ⟨s0, s1, s2, s3, s4, s5⟩ := hW
                          go_simp
                          first
                          | rfl
                          | rw [if_neg (by omega)]
                        try simp only [Act.put, List.setIfInBounds_toArray, List.set_cons_zero, List.set_cons_succ]
                        refine wpAnyD_takeAt 12 (some 176) (v := ?_) rfl (by kernel_rfl) (by kernel_rfl) (by kernel_rfl) (by kernel_rfl) (by kernel_rfl) (fun _ _ _ h => h) (by exact HS.out _ HB0.out) (fun o hop => ?_) ?_
                        rotate_left
                        · injection hop with hop
                          subst hop
                          refine ⟨rfl, fun W hW => ?_⟩
                          obtain ⟨s0, s1, s2, s3, s4, s5⟩ := hW
                          go_simp
                          first
                          | rfl
                          | rw [if_neg (by omega)]
                        try simp only [Act.put, List.setIfInBounds_toArray, List.set_cons_zero, List.set_cons_succ]
                        refine wpAnyD_takeAt 13 (some 177) (v := ?_) rfl (by kernel_rfl) (by kernel_rfl) (by kernel_rfl) (by kernel_rfl) (by kernel_rfl) (fun _ _ _ h => h) (by exact HS.out _ HB0.out) (fun o hop => ?_) ?_
                        rotate_left
                        · injection hop with hop
                          subst hop
                          refine ⟨rfl, fun W hW => ?_⟩
                          obtain ⟨s0, s1, s2, s3, s4, s5⟩ := hW
                          go_simp
                          first
                          | rfl
                          | rw [if_neg (by omega)]
                        try simp only [Act.put, List.setIfInBounds_toArray, List.set_cons_zero, List.set_cons_succ]
                        refine wpAnyD_takeAt 14 (some 178) (v := ?_) rfl (by kernel_rfl) (by kernel_rfl) (by kernel_rfl) (by kernel_rfl) (by kernel_rfl) (fun _ _ _ h => h) (by exact HS.out _ HB0.out) (fun o hop => ?_) ?_
                        rotate_left
                        · injection hop with hop
                          subst hop
                          refine ⟨rfl, fun W hW => ?_⟩
                          obtain ⟨s0, s1, s2, s3, s4, s5⟩ := hW
                          go_simp
                          first
                          | rfl
                          | rw [if_neg (by omega)]
                        try simp only [Act.put, List.setIfInBounds_toArray, List.set_cons_zero, List.set_cons_succ]
                        refine wpAnyD_takeAt 15 (some 179) (v := ?_) rfl (by kernel_rfl) (by kernel_rfl) (by kernel_rfl) (by kernel_rfl) (by kernel_rfl) (fun _ _ _ h => h) (by exact HS.out _ HB0.out) (fun o hop => ?_) ?_
                        rotate_left
                        · injection hop with hop
                          subst hop
                          refine ⟨rfl, fun W hW => ?_⟩
                          obtain ⟨s0, s1, s2, s3, s4, s5⟩ := hW
                          go_simp
                          first
                          | rfl
                          | rw [if_neg (by omega)]
                        try simp only [Act.put, List.setIfInBounds_toArray, List.set_cons_zero, List.set_cons_succ]
                        refine wpAnyD_takeAt 16 (some 180) (v := ?_) rfl (by kernel_rfl) (by kernel_rfl) (by kernel_rfl) (by kernel_rfl) (by kernel_rfl) (fun _ _ _ h => h) (by exact HS.out _ HB0.out) (fun o hop => ?_) ?_
                        rotate_left
                        · injection hop with hop
                          subst hop
                          refine ⟨rfl, fun W hW => ?_⟩
                          obtain ⟨s0, s1, s2, s3, s4, s5⟩ := hW
                          go_simp
                          first
                          | rfl
                          | rw [if_neg (by omega)]
                        try simp only [Act.put, List.setIfInBounds_toArray, List.set_cons_zero, List.set_cons_succ]
                        refine wpAnyD_takeAt 17 (some 181) (v := ?_) rfl (by kernel_rfl) (by kernel_rfl) (by kernel_rfl) (by kernel_rfl) (by kernel_rfl) (fun _ _ _ h => h) (by exact HS.out _ HB0.out) (fun o hop => ?_) ?_
                        rotate_left
                        · injection hop with hop
                          subst hop
                          refine ⟨rfl, fun W hW => ?_⟩
                          obtain ⟨s0, s1, s2, s3, s4, s5⟩ := hW
                          go_simp
                          first
                          | rfl
                          | rw [if_neg (by omega)]
                        try simp only [Act.put, List.setIfInBounds_toArray, List.set_cons_zero, List.set_cons_succ]
                        refine wpAnyD_takeAt 18 (some 182) (v := ?_) rfl (by kernel_rfl) (by kernel_rfl) (by kernel_rfl) (by kernel_rfl) (by kernel_rfl) (fun _ _ _ h => h) (by exact HS.out _ HB0.out) (fun o hop => ?_) ?_
                        rotate_left
                        · injection hop with hop
                          subst hop
                          refine ⟨rfl, fun W hW => ?_⟩
                          obtain ⟨s0, s1, s2, s3, s4, s5⟩ := hW
                          go_simp
                          first
                          | rfl
                          | rw [if_neg (by omega)]
                        try simp only [Act.put, List.setIfInBounds_toArray, List.set_cons_zero, List.set_cons_succ]
                        refine wpAnyD_takeAt 19 (some 183) (v := ?_) rfl (by kernel_rfl) (by kernel_rfl) (by kernel_rfl) (by kernel_rfl) (by kernel_rfl) (fun _ _ _ h => h) (by exact HS.out _ HB0.out) (fun o hop => ?_) ?_
                        rotate_left
                        · injection hop with hop
                          subst hop
                          refine ⟨rfl, fun W hW => ?_⟩
                          obtain ⟨s0, s1, s2, s3, s4, s5⟩ := hW
                          go_simp
                          first
                          | rfl
                          | rw [if_neg (by omega)]
                        try simp only [Act.put, List.setIfInBounds_toArray, List.set_cons_zero, List.set_cons_succ]
                        refine wpAnyD_takeAt 20 (some 184) (v := ?_) rfl (by kernel_rfl) (by kernel_rfl) (by kernel_rfl) (by kernel_rfl) (by kernel_rfl) (fun _ _ _ h => h) (by exact HS.out _ HB0.out) (fun o hop => ?_) ?_
                        rotate_left
                        · injection hop with hop
                          subst hop
                          refine ⟨rfl, fun W hW => ?_⟩
                          obtain ⟨s0, s1, s2, s3, s4, s5⟩ := hW
                          go_simp
                          first
                          | rfl
                          | rw [if_neg (by omega)]
                        try simp only [Act.put, List.setIfInBounds_toArray, List.set_cons_zero, List.set_cons_succ]
                        refine wpAnyD_takeAt 21 (some 185) (v := ?_) rfl (by kernel_rfl) (by kernel_rfl) (by kernel_rfl) (by kernel_rfl) (by kernel_rfl) (fun _ _ _ h => h) (by exact HS.out _ HB0.out) (fun o hop => ?_) ?_
                        rotate_left
                        · injection hop with hop
                          subst hop
                          refine ⟨rfl, fun W hW => ?_⟩
                          obtain ⟨s0, s1, s2, s3, s4, s5⟩ := hW
                          go_simp
                          first
                          | rfl
                          | rw [if_neg (by omega)]
                        try simp only [Act.put, List.setIfInBounds_toArray, List.set_cons_zero, List.set_cons_succ]
                        refine wpAnyD_takeAt 22 (some 186) (v := ?_) rfl (by kernel_rfl) (by kernel_rfl) (by kernel_rfl) (by kernel_rfl) (by kernel_rfl) (fun _ _ _ h => h) (by exact HS.out _ HB0.out) (fun o hop => ?_) ?_
                        rotate_left
                        · injection hop with hop
                          subst hop
                          refine ⟨rfl, fun W hW => ?_⟩
                          obtain ⟨s0, s1, s2, s3, s4, s5⟩ := hW
                          go_simp
                          first
                          | rfl
                          | rw [if_neg (by omega)]
                        try simp only [Act.put, List.setIfInBounds_toArray, List.set_cons_zero, List.set_cons_succ]
                        refine wpAnyD_takeAt 23 (some 187) (v := ?_) rfl (by kernel_rfl) (by kernel_rfl) (by kernel_rfl) (by kernel_rfl) (by kernel_rfl) (fun _ _ _ h => h) (by exact HS.out _ HB0.out) (fun o hop => ?_) ?_
                        rotate_left
                        · injection hop with hop
                          subst hop
                          refine ⟨rfl, fun W hW => ?_⟩
                          obtain ⟨s0, s1, s2, s3, s4, s5⟩ := hW
                          go_simp
                          first
                          | rfl
                          | rw [if_neg (by omega)]
                        try simp only [Act.put, List.setIfInBounds_toArray, List.set_cons_zero, List.set_cons_succ]
                        refine wpAnyD_takeAt 24 (some 188) (v := ?_) rfl (by kernel_rfl) (by kernel_rfl) (by kernel_rfl) (by kernel_rfl) (by kernel_rfl) (fun _ _ _ h => h) (by exact HS.out _ HB0.out) (fun o hop => ?_) ?_
                        rotate_left
                        · injection hop with hop
                          subst hop
                          refine ⟨rfl, fun W hW => ?_⟩
                          obtain ⟨s0, s1, s2, s3, s4, s5⟩ := hW
                          go_simp
                          first
                          | rfl
                          | rw [if_neg (by omega)]
                        try simp only [Act.put, List.setIfInBounds_toArray, List.set_cons_zero, List.set_cons_succ]
                        refine wpAnyT_one (i := 25) (by kernel_rfl) rfl rfl (fun K' hK => ?_)
                        go_simp
                        refine hK.out _ _ (fun h => absurd rfl h) ?_
                        clear hK K'
                        refine wpAnyT_done (by kernel_rfl) ?_ _
                        have HX5 := hide' (HX4.out.later HB0.out)
                        clear HS m0 m1 m2 hm1 n0 n1
                        go_wp2
                        exact ⟨⟨k + 1, _, rfl, by go_num, by omega, HP, HX5⟩, by simp [intOf]; omega⟩
                    · have HT1 : Hid (bytesOf t = textT (toldM N)) := by
                        have := HT.out
                        rw [take_all _ _ _ hk hlt] at this
                        rw [toldM_eq]
                        exact this
                      have HX1 := HX2
                      clear HT HX2
                      have HR : Hid (t = textOf (textT (toldM N))) := by
                        show t = _
                        rw [← HT1.out, textOf_bytesOf]
                      go_wp2
                      go_ret
                      exact ⟨congrArg (fun x => Ending.returned (.string x)) HR.out, HX1.out.bel⟩
end Go.Proofs.YtkcldnnopmagjabGreatDoor.Doc
