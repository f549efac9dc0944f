/- May over a good network; WiresRound, given what the raw network's builder tells. -/
import Derived.Test.YtefkgllanghmfabDoorShw
namespace Go.Proofs.YtefkgllanghmfabDoor
open Go.RowKit Go.Shelf

set_option maxHeartbeats 1000000 in
theorem May_good (N : NetM) (B1 : Nat) (b l g d t : Value) (mx : Int) (w : World) (hN : GoodM N) (ho : Owns w B1 b l g d t N) (hm : w.cell? ⟨1, 0, none⟩ = some (.int .i64 mx)) :
    Calls Tryd.prog 7 #[.agg #[.string N.name, b, l, g, d, t]] w fun e w' => e = .returned (.bool true) ∧ Below w.heap.size w w' := by
  obtain ⟨ab, cb, rfl⟩ := own_slice ho.hb
  obtain ⟨al, cl, rfl⟩ := own_slice ho.hl
  obtain ⟨ag, cg, rfl⟩ := own_slice ho.hg
  obtain ⟨ad, cd, rfl⟩ := own_slice ho.hd
  obtain ⟨at', ct, rfl⟩ := own_slice ho.ht
  have hb0 : ∀ o, Below w.heap.size w (w.alloc o) := fun o => (Below.refl _ w).alloc (Nat.le_refl _) o
  have HS := hide' (fun o => Show_good N B1 _ _ _ _ _ mx (w.alloc o) hN (owns_later ho (hb0 o)) (later hm o))
  have HB := hide' hb0
  clear ho hm hb0 hN
  go_enter Tryd.func7, Tryd.ntmps7
  go_wp2_with (go_at_call 5; refine (HS.out _).mono ?_; rintro e w1 ⟨rfl, hb1⟩)
  go_ret
  exact ⟨rfl, (HB.out _).trans (hb1.mono (by simp))⟩

theorem pair_box {w : World} {vs us : Array Value} : ((w.alloc (.cells vs 32)).alloc (.cells us 38)).heap[w.heap.size]? = some (.cells vs 32 (0, 0)) ∧ ((w.alloc (.cells vs 32)).alloc (.cells us 38)).heap[w.heap.size + 1]? = some (.cells us 38 (0, 0)) := by
  refine ⟨(Below.heap_alloc _ _ _ (by simp)).trans (World.alloc_heap_new w _), ?_⟩
  have := World.alloc_heap_new (w.alloc (.cells vs 32)) (.cells us 38)
  rwa [World.size_alloc] at this
theorem pair_bel (w : World) (o o' : Obj) : Below w.heap.size w ((w.alloc o).alloc o') := ((Below.refl _ w).alloc (Nat.le_refl _) o).alloc (by simp) o'

set_option maxHeartbeats 4000000 in
set_option maxRecDepth 100000 in
theorem round_any (nb : Int) (a1 a2 : Option Addr) (n1 c1 n2 c2 : Nat) (mx : Int) (w : World) (hm : w.cell? ⟨1, 0, none⟩ = some (.int .i64 mx))
    (h4 : ∀ o, Calls Tryd.prog 4 #[.agg #[.int .i64 nb, .slice a1 n1 c1, .slice a2 n2 c2]] (w.alloc o) fun e w' => ∃ N b l g d t, e = .returned (.agg #[.string N.name, b, l, g, d, t]) ∧ GoodM N ∧ Owns w' (w.alloc o).heap.size b l g d t N ∧ Below (w.alloc o).heap.size (w.alloc o) w') :
    Calls Tryd.prog 3 #[.agg #[.int .i64 nb, .slice a1 n1 c1, .slice a2 n2 c2]] w fun e w' => e = .returned (.bool true) ∧ Below w.heap.size w w' := by
  have h1w : 1 < w.heap.size := World.block_lt_of_cell? w _ hm
  have H4 := hide' h4
  have HM := hide' hm
  have H1W := hide' h1w
  clear h4 hm h1w
  go_enter Tryd.func3, Tryd.ntmps3
  go_wp2_with fail
  refine (H4.out _).mono ?_
  rintro e w1 ⟨N, b, l, g, d, t, rfl, hG, ho, hb1⟩
  have hbw1 : Below w.heap.size w w1 := ((Below.refl _ w).alloc (Nat.le_refl _) _).trans (hb1.mono (by simp))
  obtain ⟨ab, cb, rfl⟩ := own_slice ho.hb
  obtain ⟨al, cl, rfl⟩ := own_slice ho.hl
  obtain ⟨ag, cg, rfl⟩ := own_slice ho.hg
  obtain ⟨ad, cd, rfl⟩ := own_slice ho.hd
  obtain ⟨at', ct, rfl⟩ := own_slice ho.ht
  have HG := hide' hG
  have HB1 := hide' hbw1
  have HO := hide' ho
  clear hG hbw1 ho hb1 H4
  go_wp2_with fail
  obtain ⟨W1, hW1⟩ : ∃ W1, W1 = w1.alloc (.cells #[.string N.name, .slice ab N.buses.length cb, .slice al N.lines.length cl, .slice ag N.gens.length cg, .slice ad N.loads.length cd, .slice at' N.ties.length ct] 32) := ⟨_, rfl⟩
  have hk1 : W1.heap[w1.heap.size]? = some (.cells #[.string N.name, .slice ab N.buses.length cb, .slice al N.lines.length cl, .slice ag N.gens.length cg, .slice ad N.loads.length cd, .slice at' N.ties.length ct] 32 (0, 0)) := by rw [hW1]; exact World.alloc_heap_new w1 _
  have hbW1 : Below w1.heap.size w1 W1 := by rw [hW1]; exact (Below.refl _ w1).alloc (Nat.le_refl _) _
  have hzW1 : W1.heap.size = w1.heap.size + 1 := by rw [hW1]; simp
  rw [← hW1]
  have hbw : Below w.heap.size w W1 := HB1.out.trans (hbW1.mono HB1.out.size)
  have hmW : ∀ W, Below w.heap.size w W → W.cell? ⟨1, 0, none⟩ = some (.int .i64 mx) := fun W h => (h.cell (p := ⟨1, 0, none⟩) H1W.out).trans HM.out
  have hoW1 := owns_later HO.out hbW1
  refine (Show_good N _ _ _ _ _ _ mx W1 HG.out hoW1 (hmW W1 hbw)).mono ?_
  rintro e w2 ⟨rfl, hb2⟩
  obtain ⟨T, hT⟩ : ∃ T, T = textOf (textT (toldN N)) := ⟨_, rfl⟩
  have hread := good_read HG.out
  have hTs : T.size ≤ 9223372036854775807 := by rw [hT, size_textOf]; have := told_len HG.out; omega
  rw [← hT] at hread ⊢
  have hbw2 : Below w.heap.size w w2 := hbw.trans (hb2.mono hbw.size)
  have h6 := Read_any T mx w2 hTs (hmW w2 hbw2)
  rw [hread] at h6
  have hk2 := (hb2.block w1.heap.size (by omega)).trans hk1
  have HT := hide' hT
  have H6 := hide' h6
  have HB2 := hide' hbw2
  have HK2 := hide' hk2
  have HMW := hide' hmW
  have HS2 : Hid (w1.heap.size < w2.heap.size) := by show _ < _; have := hb2.size; omega
  clear hW1 hk1 hbW1 hzW1 hbw hmW hoW1 hb2 hT hread hTs hbw2 h6 hk2
  go_wp2_with fail
  refine H6.out.mono ?_
  rintro e w3 ⟨b2, l2, g2, d2, t2, rfl, ho2, hb3⟩
  obtain ⟨ab2, cb2, rfl⟩ := own_slice ho2.hb
  obtain ⟨al2, cl2, rfl⟩ := own_slice ho2.hl
  obtain ⟨ag2, cg2, rfl⟩ := own_slice ho2.hg
  obtain ⟨ad2, cd2, rfl⟩ := own_slice ho2.hd
  obtain ⟨at2, ct2, rfl⟩ := own_slice ho2.ht
  have hbw3 : Below w.heap.size w w3 := HB2.out.trans (hb3.mono HB2.out.size)
  have hk3 := (hb3.block w1.heap.size HS2.out).trans HK2.out
  have HS3 : Hid (w1.heap.size < w3.heap.size) := Nat.lt_of_lt_of_le HS2.out hb3.size
  have HO2 := hide' ho2
  have HB3 := hide' hbw3
  have HK3 := hide' hk3
  clear ho2 hb3 hbw3 hk3 H6 HK2 HS2 HB2
  go_wp2_with fail
  obtain ⟨W3, hW3⟩ : ∃ W3, W3 = (w3.alloc (.cells #[.string N.name, .slice ab2 N.buses.length cb2, .slice al2 N.lines.length cl2, .slice ag2 N.gens.length cg2, .slice ad2 N.loads.length cd2, .slice at2 N.ties.length ct2] 32)).alloc (.cells #[.int .i64 0, .int .i64 0] 38) := ⟨_, rfl⟩
  obtain ⟨hp0, hp1⟩ : W3.heap[w3.heap.size]? = some (.cells #[.string N.name, .slice ab2 N.buses.length cb2, .slice al2 N.lines.length cl2, .slice ag2 N.gens.length cg2, .slice ad2 N.loads.length cd2, .slice at2 N.ties.length ct2] 32 (0, 0)) ∧ W3.heap[w3.heap.size + 1]? = some (.cells #[.int .i64 0, .int .i64 0] 38 (0, 0)) := by rw [hW3]; exact pair_box
  have hbW3 : Below w3.heap.size w3 W3 := by rw [hW3]; exact pair_bel w3 _ _
  have hzW3 : W3.heap.size = w3.heap.size + 2 := by rw [hW3]; simp
  rw [← hW3]
  have hbw : Below w.heap.size w W3 := HB3.out.trans (hbW3.mono HB3.out.size)
  have hoW3 := owns_later HO2.out hbW3
  refine (Show_good N _ _ _ _ _ _ mx W3 HG.out hoW3 (HMW.out W3 hbw)).mono ?_
  rintro e w4 ⟨rfl, hb4⟩
  rw [← HT.out]
  have hbw4 : Below w.heap.size w w4 := hbw.trans (hb4.mono hbw.size)
  have q1 := (hb4.block w1.heap.size (by have := HS3.out; omega)).trans ((hbW3.block _ HS3.out).trans HK3.out)
  have q2 := (hb4.block w3.heap.size (by omega)).trans hp0
  have q3 := (hb4.block (w3.heap.size + 1) (by omega)).trans hp1
  obtain ⟨n0, n1', n2', n3, n4, n5, _⟩ := cells28 q1
  obtain ⟨m0, m1, m2, m3, m4, m5, _⟩ := cells28 q2
  obtain ⟨f0, f1, _⟩ := cells31 q3
  have hmay := May_good N _ _ _ _ _ _ mx w4 HG.out (owns_later hoW3 hb4) (HMW.out w4 hbw4)
  have HMAY := hide' hmay
  have HB4 := hide' hbw4
  clear hW3 hp0 hp1 hbW3 hzW3 hbw hoW3 hb4 hbw4 q1 q2 q3 hmay n0 n3 n4 HS3 HK3 HMW
  go_wp2_with (go_at_call 7; refine HMAY.out.mono ?_; rintro e w5 ⟨rfl, hb5⟩)
  go_ret
  exact ⟨rfl, HB4.out.trans (hb5.mono HB4.out.size)⟩
end Go.Proofs.YtefkgllanghmfabDoor
